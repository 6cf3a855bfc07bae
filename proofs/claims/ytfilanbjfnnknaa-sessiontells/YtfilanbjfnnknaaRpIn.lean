/- api.Reply: ONE THAT CAME IN. (By genrows.py, cut.) -/
import Derived.Test.YtfilanbjfnnknaaArgsN
import Derived.Test.YtfilanbjfnnknaaRpK
import Derived.Deep.Slices
import Derived.SizedLaws
namespace Go.Proofs.Ytfilanbjfnnknaa.Rp
open Go.ChangeShapes Go.WideShapes Go.ChangeAt Go.RowKit Mem
set_option maxRecDepth 100000
set_option linter.unusedVariables false

/-- its cells -/
def rv (r : T) : List Value := [.int .i64 r.why, .int .i64 r.num, .int .i64 r.gross]
theorem cellsOf : Try.prog.cellsOf 24 = 3 := by kernel_rfl
/-- what a row reads as -/
def datum (H : Type) (r : T) : DataW H := .agg [.lit (.int .i64 r.why), .lit (.int .i64 r.num), .lit (.int .i64 r.gross)]
theorem open_cells {H : Type} {enc : TypeId × Value → H} {w : World} {base : Nat} {spare : Nat → Bool} {held : Bool} {fuel : Nat} {cs : List Value} {x : DataW H × List MemPlace}
    (h : DataW.trod enc Try.prog w base spare held fuel 24 cs = some x) : ∃ r : T, cs = rv r ∧ x.1 = datum H r ∧ Fit r.why ∧ Fit r.num ∧ Fit r.gross := by
  obtain ⟨xs, n, _, rfl, hl, hxl, hf⟩ := DataW.trod_struct Try.underlying24 h
  rw [cellsOf] at hl
  match cs, hl with
  | [v0, v1, v2], _ =>
    match xs, hxl with
    | [y0, y1, y2], _ =>
      have g0 : DataW.trod enc Try.prog w base spare held n 22 (List.take (Try.prog.cellsOf 22) (List.drop 0 [v0, v1, v2])) = some y0 := hf 0 _ rfl
      rw [show Try.prog.cellsOf 22 = 1 by kernel_rfl] at g0
      simp only [List.drop, List.take] at g0
      have g1 : DataW.trod enc Try.prog w base spare held n 3 (List.take (Try.prog.cellsOf 3) (List.drop 1 [v0, v1, v2])) = some y1 := hf 1 _ rfl
      rw [show Try.prog.cellsOf 3 = 1 by kernel_rfl] at g1
      simp only [List.drop, List.take] at g1
      have g2 : DataW.trod enc Try.prog w base spare held n 3 (List.take (Try.prog.cellsOf 3) (List.drop 2 [v0, v1, v2])) = some y2 := hf 2 _ rfl
      rw [show Try.prog.cellsOf 3 = 1 by kernel_rfl] at g2
      simp only [List.drop, List.take] at g2
      obtain ⟨x0, e0, rfl, w0⟩ := DataW.trod_int Try.underlying22 g0
      obtain ⟨x1, e1, rfl, w1⟩ := DataW.trod_int Try.underlying3 g1
      obtain ⟨x2, e2, rfl, w2⟩ := DataW.trod_int Try.underlying3 g2
      simp only [List.cons.injEq, and_true] at e0 e1 e2
      subst e0 e1 e2
      exact ⟨⟨x0, x1, x2⟩, rfl, rfl, fit_in w0, fit_in w1, fit_in w2⟩
theorem one_in {H : Type} {enc : TypeId × Value → H} {W : World} {base b0 : Nat} {spare : Nat → Bool} {held : Bool} {rr : Reach} {v : Value} {d : DataW H} {p : List MemPlace} {ts : List TypeId} {ds : List (DataW H)} (j : Nat)
    (hv : Value.okWide Try.prog W rr b0 24 v) (h : DataW.Trod enc Try.prog W base spare held 24 v d p)
    (hsz : (DataW.weightsEach Try.prog ts ds).all (· ≤ reachBytes) = true) (ht : ts[j]? = some 24) (hd : ds[j]? = some d) : ∃ r : T, v = val r ∧ Short r := by
  obtain ⟨cs, rfl, hc⟩ := okWide_struct Try.underlying24 hv
  obtain ⟨fuel, hf⟩ := h
  obtain ⟨r, e, hx, hf0, hf1, hf2⟩ := open_cells hf
  have hd' : d = datum H r := hx
  subst hd'
  refine ⟨r, ?_, ⟨hf0, hf1, hf2⟩⟩
  have e' : cs.toList = rv r := e
  unfold val
  congr 1
  apply Array.toList_inj.1
  rw [e']
  rfl
end Go.Proofs.Ytfilanbjfnnknaa.Rp
