/- api.Hard: ROWS THAT CAME IN: one, and a slice of them; each has slices of its own. (By genhdin.py.) -/
import Derived.Test.YtnelakpagjdcdaaArgsN
import Derived.Test.YtnelakpagjdcdaaHdK
import Derived.Test.YtnelakpagjdcdaaEtBy
import Derived.Deep.Slices
import Derived.SizedLaws
namespace Go.Proofs.Ytnelakpagjdcdaa.Hd
open Go.ChangeShapes Go.WideShapes Go.ChangeAt Go.RowKit Mem
set_option maxRecDepth 100000
set_option linter.unusedVariables false

def rv (r : T) : List Value := [.int .i64 r.term, .int .i64 r.vote, .int .i64 r.base, .int .i64 r.bt, .int .i64 r.mem, .string r.snap, .slice r.log.ao r.log.n r.log.cap]
theorem cellsOf : Try.prog.cellsOf 32 = 7 := by kernel_rfl
def datum (H : Type) (r : T) (d_log : DataW H) : DataW H := .agg [.lit (.int .i64 r.term), .lit (.int .i64 r.vote), .lit (.int .i64 r.base), .lit (.int .i64 r.bt), .lit (.int .i64 r.mem), .lit (.string (txt r.snap)), d_log]
theorem open_cells {H : Type} {enc : TypeId × Value → H} {w : World} {base : Nat} {spare : Nat → Bool} {held : Bool} {fuel : Nat} {cs : List Value} {x : DataW H × List MemPlace}
    (h : DataW.trod enc Try.prog w base spare held fuel 32 cs = some x) : ∃ (r : T) (d_log : DataW H) (p_log : List MemPlace), cs = rv r ∧ x.1 = datum H r d_log ∧ DataW.Trod enc Try.prog w base spare held 30 (.slice r.log.ao r.log.n r.log.cap) d_log p_log ∧ Fit r.term ∧ Fit r.vote ∧ Fit r.base ∧ Fit r.bt ∧ Fit r.mem := by
  obtain ⟨xs, n, _, rfl, hl, hxl, hf⟩ := DataW.trod_struct Try.underlying32 h
  rw [cellsOf] at hl
  match cs, hl with
  | [v0, v1, v2, v3, v4, v5, v6], _ =>
    match xs, hxl with
    | [y0, y1, y2, y3, y4, y5, y6], _ =>
      have g0 : DataW.trod enc Try.prog w base spare held n 3 (List.take (Try.prog.cellsOf 3) (List.drop 0 [v0, v1, v2, v3, v4, v5, v6])) = some y0 := hf 0 _ rfl
      rw [show Try.prog.cellsOf 3 = 1 by kernel_rfl] at g0
      simp only [List.drop, List.take] at g0
      have g1 : DataW.trod enc Try.prog w base spare held n 3 (List.take (Try.prog.cellsOf 3) (List.drop 1 [v0, v1, v2, v3, v4, v5, v6])) = some y1 := hf 1 _ rfl
      rw [show Try.prog.cellsOf 3 = 1 by kernel_rfl] at g1
      simp only [List.drop, List.take] at g1
      have g2 : DataW.trod enc Try.prog w base spare held n 3 (List.take (Try.prog.cellsOf 3) (List.drop 2 [v0, v1, v2, v3, v4, v5, v6])) = some y2 := hf 2 _ rfl
      rw [show Try.prog.cellsOf 3 = 1 by kernel_rfl] at g2
      simp only [List.drop, List.take] at g2
      have g3 : DataW.trod enc Try.prog w base spare held n 3 (List.take (Try.prog.cellsOf 3) (List.drop 3 [v0, v1, v2, v3, v4, v5, v6])) = some y3 := hf 3 _ rfl
      rw [show Try.prog.cellsOf 3 = 1 by kernel_rfl] at g3
      simp only [List.drop, List.take] at g3
      have g4 : DataW.trod enc Try.prog w base spare held n 3 (List.take (Try.prog.cellsOf 3) (List.drop 4 [v0, v1, v2, v3, v4, v5, v6])) = some y4 := hf 4 _ rfl
      rw [show Try.prog.cellsOf 3 = 1 by kernel_rfl] at g4
      simp only [List.drop, List.take] at g4
      have g5 : DataW.trod enc Try.prog w base spare held n 9 (List.take (Try.prog.cellsOf 9) (List.drop 5 [v0, v1, v2, v3, v4, v5, v6])) = some y5 := hf 5 _ rfl
      rw [show Try.prog.cellsOf 9 = 1 by kernel_rfl] at g5
      simp only [List.drop, List.take] at g5
      have g6 : DataW.trod enc Try.prog w base spare held n 30 (List.take (Try.prog.cellsOf 30) (List.drop 6 [v0, v1, v2, v3, v4, v5, v6])) = some y6 := hf 6 _ rfl
      rw [show Try.prog.cellsOf 30 = 1 by kernel_rfl] at g6
      simp only [List.drop, List.take] at g6
      obtain ⟨x0, e0, rfl, w0⟩ := DataW.trod_int Try.underlying3 g0
      obtain ⟨x1, e1, rfl, w1⟩ := DataW.trod_int Try.underlying3 g1
      obtain ⟨x2, e2, rfl, w2⟩ := DataW.trod_int Try.underlying3 g2
      obtain ⟨x3, e3, rfl, w3⟩ := DataW.trod_int Try.underlying3 g3
      obtain ⟨x4, e4, rfl, w4⟩ := DataW.trod_int Try.underlying3 g4
      obtain ⟨x5, e5, rfl, _⟩ := DataW.trod_string Try.underlying9 g5
      obtain ⟨ao6, nn6, cap6, e6⟩ : ∃ ao nn cap, [v6] = [Value.slice ao nn cap] := by
        rcases Go.Deep.open_slice Try.underlying30 g6 with ⟨hcs, _⟩ | ⟨a, len, c, _, _, _, _, hcs, _⟩
        · exact ⟨_, _, _, hcs⟩
        · exact ⟨_, _, _, hcs⟩
      simp only [List.cons.injEq, and_true] at e0 e1 e2 e3 e4 e5 e6
      subst e0 e1 e2 e3 e4 e5 e6
      exact ⟨⟨x0, x1, x2, x3, x4, x5, ⟨ao6, nn6, cap6⟩⟩, y6.1, y6.2, rfl, rfl, ⟨n, g6⟩, fit_in w0, fit_in w1, fit_in w2, fit_in w3, fit_in w4⟩
theorem weights_snap {H : Type} (r : T) (d_log : DataW H) : (txt r.snap).length ∈ (datum H r d_log).weights Try.prog 32 := by
  unfold datum
  simp [DataW.weights, DataW.weightsEach, Try.underlying32]
theorem weights_dlog {H : Type} (r : T) (d_log : DataW H) (k : Nat) (h : k ∈ d_log.weights Try.prog 30) : k ∈ (datum H r d_log).weights Try.prog 32 := by
  unfold datum
  simp [DataW.weights, DataW.weightsEach, Try.underlying32, h]
/-- a row's own list -/
def Sub (W : World) (r : T) : Prop := (∃ es, Et.Ls W r.log.ao r.log.n r.log.cap es ∧ r.log.n * 32 ≤ 140737488351232)
theorem one_in {H : Type} {enc : TypeId × Value → H} {W : World} {b0 : Nat} {rr : Reach} {v : Value} {d : DataW H} {p : List MemPlace} {ts : List TypeId} {ds : List (DataW H)} (j : Nat)
    (hv : Value.okWide Try.prog W rr b0 32 v) (h : DataW.Trod enc Try.prog W 0 (fun _ => true) true 32 v d p)
    (hsz : (DataW.weightsEach Try.prog ts ds).all (· ≤ reachBytes) = true) (ht : ts[j]? = some 32) (hd : ds[j]? = some d) : ∃ r : T, v = val r ∧ Short r ∧ Sub W r := by
  obtain ⟨cs, rfl, hc⟩ := okWide_struct Try.underlying32 hv
  obtain ⟨fuel, hf⟩ := h
  obtain ⟨r, d_log, p_log, e, hx, l_log, f_term, f_vote, f_base, f_bt, f_mem⟩ := open_cells hf
  have hd' : d = datum H r d_log := hx
  subst hd'
  have hs_snap : r.snap.size ≤ 140737488355328 := by
    have hw := List.all_eq_true.1 hsz _ (DataW.weights_mem_each ht hd _ (weights_snap r d_log))
    rw [decide_eq_true_eq, txt_len] at hw
    unfold reachBytes at hw
    omega
  have hz_log : (DataW.weightsEach Try.prog [30] [d_log]).all (· ≤ reachBytes) = true := by
    refine List.all_eq_true.2 fun k hk => ?_
    refine List.all_eq_true.1 hsz k (DataW.weights_mem_each ht hd k (weights_dlog r d_log k ?_))
    simpa [DataW.weightsEach] using hk
  refine ⟨r, ?_, ⟨f_term, f_vote, f_base, f_bt, f_mem, hs_snap⟩, Et.list_sized 0 l_log hz_log rfl rfl⟩
  have e' : cs.toList = rv r := e
  unfold val
  congr 1
  apply Array.toList_inj.1
  rw [e']
  rfl
end Go.Proofs.Ytnelakpagjdcdaa.Hd
