/- api.Total: A TOTAL THAT CAME IN. -/
import Derived.Test.YtgnepgkmjgpkeaaTtK
import Derived.Test.YtgnepgkmjgpkeaaPtIn
set_option linter.unusedVariables false
namespace Go.Proofs.Ytgnepgkmjgpkeaa.Tt
open Go.ChangeShapes Go.WideShapes Go.ChangeAt Go.RowKit Mem
set_option maxRecDepth 100000

theorem cellsOf : Try.prog.cellsOf 30 = 4 := by kernel_rfl
/-- what a total reads as ('dl': its parts) -/
def datum (H : Type) (n t s : Int) (dl : DataW H) : DataW H := .agg [.lit (.int .i64 n), .lit (.int .i64 t), .lit (.int .i64 s), dl]
theorem open_cells {H : Type} {enc : TypeId × Value → H} {w : World} {base : Nat} {spare : Nat → Bool} {held : Bool} {fuel : Nat} {cs : List Value} {x : DataW H × List MemPlace}
    (h : DataW.trod enc Try.prog w base spare held fuel 30 cs = some x) : ∃ (n t s : Int) (ao : Option Addr) (k cap : Nat) (dl : DataW H) (pl : List MemPlace), cs = [.int .i64 n, .int .i64 t, .int .i64 s, .slice ao k cap] ∧ x.1 = datum H n t s dl ∧ DataW.Trod enc Try.prog w base spare held 28 (.slice ao k cap) dl pl ∧ Fit n ∧ Fit t ∧ Fit s := by
  obtain ⟨xs, n, _, rfl, hl, hxl, hf⟩ := DataW.trod_struct Try.underlying30 h
  rw [cellsOf] at hl
  match cs, hl with
  | [v0, v1, v2, v3], _ =>
    match xs, hxl with
    | [y0, y1, y2, y3], _ =>
      have g0 : DataW.trod enc Try.prog w base spare held n 3 (List.take (Try.prog.cellsOf 3) (List.drop 0 [v0, v1, v2, v3])) = some y0 := hf 0 _ rfl
      rw [show Try.prog.cellsOf 3 = 1 by kernel_rfl] at g0
      simp only [List.drop, List.take] at g0
      have g1 : DataW.trod enc Try.prog w base spare held n 3 (List.take (Try.prog.cellsOf 3) (List.drop 1 [v0, v1, v2, v3])) = some y1 := hf 1 _ rfl
      rw [show Try.prog.cellsOf 3 = 1 by kernel_rfl] at g1
      simp only [List.drop, List.take] at g1
      have g2 : DataW.trod enc Try.prog w base spare held n 3 (List.take (Try.prog.cellsOf 3) (List.drop 2 [v0, v1, v2, v3])) = some y2 := hf 2 _ rfl
      rw [show Try.prog.cellsOf 3 = 1 by kernel_rfl] at g2
      simp only [List.drop, List.take] at g2
      have g3 : DataW.trod enc Try.prog w base spare held n 28 (List.take (Try.prog.cellsOf 28) (List.drop 3 [v0, v1, v2, v3])) = some y3 := hf 3 _ rfl
      rw [show Try.prog.cellsOf 28 = 1 by kernel_rfl] at g3
      simp only [List.drop, List.take] at g3
      obtain ⟨x0, e0, rfl, w0⟩ := DataW.trod_int Try.underlying3 g0
      obtain ⟨x1, e1, rfl, w1⟩ := DataW.trod_int Try.underlying3 g1
      obtain ⟨x2, e2, rfl, w2⟩ := DataW.trod_int Try.underlying3 g2
      obtain ⟨ao, nn, cap, e3⟩ : ∃ ao nn cap, [v3] = [Value.slice ao nn cap] := by
        rcases Go.Deep.open_slice Try.underlying28 g3 with ⟨hcs, _⟩ | ⟨a, len, c, _, _, _, _, hcs, _⟩
        · exact ⟨_, _, _, hcs⟩
        · exact ⟨_, _, _, hcs⟩
      simp only [List.cons.injEq, and_true] at e0 e1 e2 e3
      subst e0 e1 e2 e3
      exact ⟨x0, x1, x2, ao, nn, cap, y3.1, y3.2, rfl, rfl, ⟨n, g3⟩, fit_in w0, fit_in w1, fit_in w2⟩
theorem weights_parts {H : Type} (n t s : Int) (dl : DataW H) (k : Nat) (h : k ∈ dl.weights Try.prog 28) : k ∈ (datum H n t s dl).weights Try.prog 30 := by
  unfold datum
  simp [DataW.weights, Try.underlying30, DataW.weightsEach, h]
/-- a total that may be handed in -/
structure In (W : World) (z : Iv.Tot) (ao : Option Addr) (k cap : Nat) : Prop where
  net : Fit z.net
  tax : Fit z.tax
  gross : Fit z.gross
  ls : Pt.Ls W ao k cap z.parts
  tight : ∀ r ∈ z.parts, Pt.Tight r
theorem one_in {H : Type} {enc : TypeId × Value → H} {W : World} {b0 : Nat} {rr : Reach} {v : Value} {d : DataW H} {p : List MemPlace} {ts : List TypeId} {ds : List (DataW H)} (j : Nat)
    (hv : Value.okWide Try.prog W rr b0 30 v) (h : DataW.Trod enc Try.prog W 0 (fun _ => true) true 30 v d p)
    (hsz : (DataW.weightsEach Try.prog ts ds).all (· ≤ reachBytes) = true) (ht : ts[j]? = some 30) (hd : ds[j]? = some d) : ∃ (z : Iv.Tot) (ao : Option Addr) (k cap : Nat), v = val z.net z.tax z.gross (.slice ao k cap) ∧ In W z ao k cap := by
  obtain ⟨cs, rfl, hc⟩ := okWide_struct Try.underlying30 hv
  obtain ⟨fuel, hf⟩ := h
  obtain ⟨n, t, s, ao, k, cap, dl, pl, e, hx, hl, f0, f1, f2⟩ := open_cells hf
  have hd' : d = datum H n t s dl := hx
  subst hd'
  have hz : (DataW.weightsEach Try.prog [28] [dl]).all (· ≤ reachBytes) = true := by
    refine List.all_eq_true.2 fun q hk => ?_
    refine List.all_eq_true.1 hsz q (DataW.weights_mem_each ht hd q (weights_parts n t s dl q ?_))
    simpa [DataW.weightsEach] using hk
  obtain ⟨ls, hls, htg⟩ := Pt.list_tight 0 hl hz rfl rfl
  refine ⟨⟨n, t, s, ls⟩, ao, k, cap, ?_, ⟨f0, f1, f2, hls, htg⟩⟩
  have e' : cs.toList = [.int .i64 n, .int .i64 t, .int .i64 s, .slice ao k cap] := e
  unfold val
  congr 1
  apply Array.toList_inj.1
  rw [e']
end Go.Proofs.Ytgnepgkmjgpkeaa.Tt
