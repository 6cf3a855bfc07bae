/- CONTRACTS OF PACKAGE frame: Put. -/
import Derived.Test.YtagjbjppddbalaaFmA
import Derived.Deep.RegionWith
set_option maxRecDepth 100000
set_option linter.unusedVariables false
namespace Go.Proofs.Ytagjbjppddbalaa
open Go.RowKit
open Mem

/-- a payload's frame (chapter 17) -/
def Fm.frame (p : List UInt8) : List UInt8 := Crc.four p.length ++ p ++ Crc.four (Crc.on 0 (Crc.four p.length ++ p))
def Fm.put (b p : List UInt8) : List UInt8 := if p.length = 0 ∨ 131072 < p.length then b else b ++ Fm.frame p
theorem Fm.four_len (n : Nat) : (Crc.four n).length = 4 := rfl
theorem Fm.over_at (a b c x : List UInt8) (h : b.length = x.length) : Fm.over (a ++ b ++ c) x a.length = a ++ x ++ c := by
  unfold Fm.over
  rw [show a ++ b ++ c = a ++ (b ++ c) from List.append_assoc _ _ _, List.take_left' rfl, ← h, ← List.drop_drop, List.drop_left' rfl, List.drop_left' rfl]
theorem Fm.seg_mid {w : World} {g : Nat} {a x c : List UInt8} {n : Nat} (h : By.Block w g (a ++ x ++ c)) (hn : n = a.length) : Seg w (some ⟨g, n, none⟩) x := by
  refine .inr ⟨g, n, rfl, fun k hk => ?_⟩
  have hi : n + k < (a ++ x ++ c).length := by
    rw [List.length_append, List.length_append]
    omega
  have h1 := h.row (n + k) hi
  have e : (a ++ x ++ c)[n + k] = x[k] := by
    rw [List.getElem_append_left (by rw [List.length_append]; omega), List.getElem_append_right (by omega)]
    congr 1
    omega
  rw [e] at h1
  exact h1
/-- what Put answers: the bytes, in memory of their own -/
def Fm.PutE (w : World) (bs : List UInt8) (e : Ending) (w' : World) : Prop := ∃ g, e = .returned (.slice (some ⟨g, 0, none⟩) bs.length bs.length) ∧ By.Block w' g bs ∧ w.heap.size ≤ g ∧ Below w.heap.size w w'
end Go.Proofs.Ytagjbjppddbalaa
