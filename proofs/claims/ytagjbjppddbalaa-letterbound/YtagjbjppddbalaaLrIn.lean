/- api.Letter: ROWS THAT CAME IN: one, and a slice of them; each has slices of its own. (By genlr.py.) -/
import Derived.Test.YtagjbjppddbalaaArgsN
import Derived.Test.YtagjbjppddbalaaLrK
import Derived.Test.YtagjbjppddbalaaEtBy
import Derived.Deep.Slices
import Derived.SizedLaws
namespace Go.Proofs.Ytagjbjppddbalaa.Lr
open Go.ChangeShapes Go.WideShapes Go.ChangeAt Go.RowKit Mem
set_option maxRecDepth 100000
set_option linter.unusedVariables false

def rv (r : T) : List Value := [.int .i64 r.kind, .int .i64 r.frm, .int .i64 r.to, .int .i64 r.term, .int .i64 r.idx, .int .i64 r.bt, .int .i64 r.com, .int .i64 r.mem, .int .i64 r.off, .int .i64 r.size, .bool r.yes, .string r.data, .slice r.ents.ao r.ents.n r.ents.cap]
theorem cellsOf : Try.prog.cellsOf 24 = 13 := by kernel_rfl
def datum (H : Type) (r : T) (d_ents : DataW H) : DataW H := .agg [.lit (.int .i64 r.kind), .lit (.int .i64 r.frm), .lit (.int .i64 r.to), .lit (.int .i64 r.term), .lit (.int .i64 r.idx), .lit (.int .i64 r.bt), .lit (.int .i64 r.com), .lit (.int .i64 r.mem), .lit (.int .i64 r.off), .lit (.int .i64 r.size), .lit (.bool r.yes), .lit (.string (txt r.data)), d_ents]
theorem open_cells {H : Type} {enc : TypeId × Value → H} {w : World} {base : Nat} {spare : Nat → Bool} {held : Bool} {fuel : Nat} {cs : List Value} {x : DataW H × List MemPlace}
    (h : DataW.trod enc Try.prog w base spare held fuel 24 cs = some x) : ∃ (r : T) (d_ents : DataW H) (p_ents : List MemPlace), cs = rv r ∧ x.1 = datum H r d_ents ∧ DataW.Trod enc Try.prog w base spare held 22 (.slice r.ents.ao r.ents.n r.ents.cap) d_ents p_ents ∧ Fit r.kind ∧ Fit r.frm ∧ Fit r.to ∧ Fit r.term ∧ Fit r.idx ∧ Fit r.bt ∧ Fit r.com ∧ Fit r.mem ∧ Fit r.off ∧ Fit r.size := by
  obtain ⟨xs, n, _, rfl, hl, hxl, hf⟩ := DataW.trod_struct Try.underlying24 h
  rw [cellsOf] at hl
  match cs, hl with
  | [v0, v1, v2, v3, v4, v5, v6, v7, v8, v9, v10, v11, v12], _ =>
    match xs, hxl with
    | [y0, y1, y2, y3, y4, y5, y6, y7, y8, y9, y10, y11, y12], _ =>
      have g0 : DataW.trod enc Try.prog w base spare held n 3 (List.take (Try.prog.cellsOf 3) (List.drop 0 [v0, v1, v2, v3, v4, v5, v6, v7, v8, v9, v10, v11, v12])) = some y0 := hf 0 _ rfl
      rw [show Try.prog.cellsOf 3 = 1 by kernel_rfl] at g0
      simp only [List.drop, List.take] at g0
      have g1 : DataW.trod enc Try.prog w base spare held n 3 (List.take (Try.prog.cellsOf 3) (List.drop 1 [v0, v1, v2, v3, v4, v5, v6, v7, v8, v9, v10, v11, v12])) = some y1 := hf 1 _ rfl
      rw [show Try.prog.cellsOf 3 = 1 by kernel_rfl] at g1
      simp only [List.drop, List.take] at g1
      have g2 : DataW.trod enc Try.prog w base spare held n 3 (List.take (Try.prog.cellsOf 3) (List.drop 2 [v0, v1, v2, v3, v4, v5, v6, v7, v8, v9, v10, v11, v12])) = some y2 := hf 2 _ rfl
      rw [show Try.prog.cellsOf 3 = 1 by kernel_rfl] at g2
      simp only [List.drop, List.take] at g2
      have g3 : DataW.trod enc Try.prog w base spare held n 3 (List.take (Try.prog.cellsOf 3) (List.drop 3 [v0, v1, v2, v3, v4, v5, v6, v7, v8, v9, v10, v11, v12])) = some y3 := hf 3 _ rfl
      rw [show Try.prog.cellsOf 3 = 1 by kernel_rfl] at g3
      simp only [List.drop, List.take] at g3
      have g4 : DataW.trod enc Try.prog w base spare held n 3 (List.take (Try.prog.cellsOf 3) (List.drop 4 [v0, v1, v2, v3, v4, v5, v6, v7, v8, v9, v10, v11, v12])) = some y4 := hf 4 _ rfl
      rw [show Try.prog.cellsOf 3 = 1 by kernel_rfl] at g4
      simp only [List.drop, List.take] at g4
      have g5 : DataW.trod enc Try.prog w base spare held n 3 (List.take (Try.prog.cellsOf 3) (List.drop 5 [v0, v1, v2, v3, v4, v5, v6, v7, v8, v9, v10, v11, v12])) = some y5 := hf 5 _ rfl
      rw [show Try.prog.cellsOf 3 = 1 by kernel_rfl] at g5
      simp only [List.drop, List.take] at g5
      have g6 : DataW.trod enc Try.prog w base spare held n 3 (List.take (Try.prog.cellsOf 3) (List.drop 6 [v0, v1, v2, v3, v4, v5, v6, v7, v8, v9, v10, v11, v12])) = some y6 := hf 6 _ rfl
      rw [show Try.prog.cellsOf 3 = 1 by kernel_rfl] at g6
      simp only [List.drop, List.take] at g6
      have g7 : DataW.trod enc Try.prog w base spare held n 3 (List.take (Try.prog.cellsOf 3) (List.drop 7 [v0, v1, v2, v3, v4, v5, v6, v7, v8, v9, v10, v11, v12])) = some y7 := hf 7 _ rfl
      rw [show Try.prog.cellsOf 3 = 1 by kernel_rfl] at g7
      simp only [List.drop, List.take] at g7
      have g8 : DataW.trod enc Try.prog w base spare held n 3 (List.take (Try.prog.cellsOf 3) (List.drop 8 [v0, v1, v2, v3, v4, v5, v6, v7, v8, v9, v10, v11, v12])) = some y8 := hf 8 _ rfl
      rw [show Try.prog.cellsOf 3 = 1 by kernel_rfl] at g8
      simp only [List.drop, List.take] at g8
      have g9 : DataW.trod enc Try.prog w base spare held n 3 (List.take (Try.prog.cellsOf 3) (List.drop 9 [v0, v1, v2, v3, v4, v5, v6, v7, v8, v9, v10, v11, v12])) = some y9 := hf 9 _ rfl
      rw [show Try.prog.cellsOf 3 = 1 by kernel_rfl] at g9
      simp only [List.drop, List.take] at g9
      have g10 : DataW.trod enc Try.prog w base spare held n 4 (List.take (Try.prog.cellsOf 4) (List.drop 10 [v0, v1, v2, v3, v4, v5, v6, v7, v8, v9, v10, v11, v12])) = some y10 := hf 10 _ rfl
      rw [show Try.prog.cellsOf 4 = 1 by kernel_rfl] at g10
      simp only [List.drop, List.take] at g10
      have g11 : DataW.trod enc Try.prog w base spare held n 9 (List.take (Try.prog.cellsOf 9) (List.drop 11 [v0, v1, v2, v3, v4, v5, v6, v7, v8, v9, v10, v11, v12])) = some y11 := hf 11 _ rfl
      rw [show Try.prog.cellsOf 9 = 1 by kernel_rfl] at g11
      simp only [List.drop, List.take] at g11
      have g12 : DataW.trod enc Try.prog w base spare held n 22 (List.take (Try.prog.cellsOf 22) (List.drop 12 [v0, v1, v2, v3, v4, v5, v6, v7, v8, v9, v10, v11, v12])) = some y12 := hf 12 _ rfl
      rw [show Try.prog.cellsOf 22 = 1 by kernel_rfl] at g12
      simp only [List.drop, List.take] at g12
      obtain ⟨x0, e0, rfl, w0⟩ := DataW.trod_int Try.underlying3 g0
      obtain ⟨x1, e1, rfl, w1⟩ := DataW.trod_int Try.underlying3 g1
      obtain ⟨x2, e2, rfl, w2⟩ := DataW.trod_int Try.underlying3 g2
      obtain ⟨x3, e3, rfl, w3⟩ := DataW.trod_int Try.underlying3 g3
      obtain ⟨x4, e4, rfl, w4⟩ := DataW.trod_int Try.underlying3 g4
      obtain ⟨x5, e5, rfl, w5⟩ := DataW.trod_int Try.underlying3 g5
      obtain ⟨x6, e6, rfl, w6⟩ := DataW.trod_int Try.underlying3 g6
      obtain ⟨x7, e7, rfl, w7⟩ := DataW.trod_int Try.underlying3 g7
      obtain ⟨x8, e8, rfl, w8⟩ := DataW.trod_int Try.underlying3 g8
      obtain ⟨x9, e9, rfl, w9⟩ := DataW.trod_int Try.underlying3 g9
      obtain ⟨x10, e10, rfl⟩ := DataW.trod_bool Try.underlying4 g10
      obtain ⟨x11, e11, rfl, _⟩ := DataW.trod_string Try.underlying9 g11
      obtain ⟨ao12, nn12, cap12, e12⟩ : ∃ ao nn cap, [v12] = [Value.slice ao nn cap] := by
        rcases Go.Deep.open_slice Try.underlying22 g12 with ⟨hcs, _⟩ | ⟨a, len, c, _, _, _, _, hcs, _⟩
        · exact ⟨_, _, _, hcs⟩
        · exact ⟨_, _, _, hcs⟩
      simp only [List.cons.injEq, and_true] at e0 e1 e2 e3 e4 e5 e6 e7 e8 e9 e10 e11 e12
      subst e0 e1 e2 e3 e4 e5 e6 e7 e8 e9 e10 e11 e12
      exact ⟨⟨x0, x1, x2, x3, x4, x5, x6, x7, x8, x9, x10, x11, ⟨ao12, nn12, cap12⟩⟩, y12.1, y12.2, rfl, rfl, ⟨n, g12⟩, fit_in w0, fit_in w1, fit_in w2, fit_in w3, fit_in w4, fit_in w5, fit_in w6, fit_in w7, fit_in w8, fit_in w9⟩
theorem weights_data {H : Type} (r : T) (d_ents : DataW H) : (txt r.data).length ∈ (datum H r d_ents).weights Try.prog 24 := by
  unfold datum
  simp [DataW.weights, DataW.weightsEach, Try.underlying24]
theorem weights_dents {H : Type} (r : T) (d_ents : DataW H) (k : Nat) (h : k ∈ d_ents.weights Try.prog 22) : k ∈ (datum H r d_ents).weights Try.prog 24 := by
  unfold datum
  simp [DataW.weights, DataW.weightsEach, Try.underlying24, h]
/-- a row's own list -/
def Sub (W : World) (r : T) : Prop := (∃ es, Et.Ls W r.ents.ao r.ents.n r.ents.cap es ∧ r.ents.n * 32 ≤ 140737488351232)
theorem one_in {H : Type} {enc : TypeId × Value → H} {W : World} {b0 : Nat} {rr : Reach} {v : Value} {d : DataW H} {p : List MemPlace} {ts : List TypeId} {ds : List (DataW H)} (j : Nat)
    (hv : Value.okWide Try.prog W rr b0 24 v) (h : DataW.Trod enc Try.prog W 0 (fun _ => true) true 24 v d p)
    (hsz : (DataW.weightsEach Try.prog ts ds).all (· ≤ reachBytes) = true) (ht : ts[j]? = some 24) (hd : ds[j]? = some d) : ∃ r : T, v = val r ∧ Short r ∧ Sub W r := by
  obtain ⟨cs, rfl, hc⟩ := okWide_struct Try.underlying24 hv
  obtain ⟨fuel, hf⟩ := h
  obtain ⟨r, d_ents, p_ents, e, hx, l_ents, f_kind, f_frm, f_to, f_term, f_idx, f_bt, f_com, f_mem, f_off, f_size⟩ := open_cells hf
  have hd' : d = datum H r d_ents := hx
  subst hd'
  have hs_data : r.data.size ≤ 140737488355328 := by
    have hw := List.all_eq_true.1 hsz _ (DataW.weights_mem_each ht hd _ (weights_data r d_ents))
    rw [decide_eq_true_eq, txt_len] at hw
    unfold reachBytes at hw
    omega
  have hz_ents : (DataW.weightsEach Try.prog [22] [d_ents]).all (· ≤ reachBytes) = true := by
    refine List.all_eq_true.2 fun k hk => ?_
    refine List.all_eq_true.1 hsz k (DataW.weights_mem_each ht hd k (weights_dents r d_ents k ?_))
    simpa [DataW.weightsEach] using hk
  refine ⟨r, ?_, ⟨f_kind, f_frm, f_to, f_term, f_idx, f_bt, f_com, f_mem, f_off, f_size, hs_data⟩, Et.list_sized 0 l_ents hz_ents rfl rfl⟩
  have e' : cs.toList = rv r := e
  unfold val
  congr 1
  apply Array.toList_inj.1
  rw [e']
  rfl
end Go.Proofs.Ytagjbjppddbalaa.Lr
