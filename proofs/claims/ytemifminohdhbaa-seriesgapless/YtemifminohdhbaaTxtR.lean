/- A TEXT AT A PLACE, by its runes. -/
import Derived.Test.YtemifminohdhbaaTxtN
import Derived.Test.YtemifminohdhbaaRune
import Derived.Laws.RangeAny
namespace Go.Proofs.Ytemifminohdhbaa
open Go.RowKit

theorem drop_ne (s : ByteArray) (pos : Nat) (h : pos < s.size) : (txt s).drop pos ≠ [] := by
  intro e
  have := congrArg List.length e
  rw [List.length_drop, txt_len, List.length_nil] at this
  omega
theorem drop_end (s : ByteArray) (pos : Nat) (h : ¬ pos < s.size) : (txt s).drop pos = [] :=
  List.drop_eq_nil_of_le (by rw [txt_len]; omega)
theorem dec_at (s : ByteArray) (pos : Nat) : Lib.decodeL ((txt s).drop pos) = Utf8.decode s pos := Lib.decodeL_drop s pos
theorem dec_pos (s : ByteArray) (pos : Nat) : 1 ≤ (Utf8.decode s pos).2 := Lib.width_pos s pos
theorem dec_le (s : ByteArray) (pos : Nat) (h : pos < s.size) : pos + (Utf8.decode s pos).2 ≤ s.size := by
  have := Rn.dle _ (drop_ne s pos h)
  rw [dec_at, List.length_drop, txt_len] at this
  omega
theorem dec_max (s : ByteArray) (pos : Nat) : (Utf8.decode s pos).1 ≤ 1114111 := Lib.rune_le s pos
theorem runes_at (s : ByteArray) (pos : Nat) (h : pos < s.size) : Rn.runes ((txt s).drop pos) = (Utf8.decode s pos).1 :: Rn.runes ((txt s).drop (pos + (Utf8.decode s pos).2)) := by
  rw [Rn.runes_step _ (drop_ne s pos h), dec_at, List.drop_drop]
theorem runes_end (s : ByteArray) (pos : Nat) (h : ¬ pos < s.size) : Rn.runes ((txt s).drop pos) = [] := by rw [drop_end s pos h]; rfl
theorem below_iter (w : World) (s : ByteArray) (pos : Nat) : Below w.heap.size w (w.iter s pos) := (Below.refl _ _).alloc (Nat.le_refl _) _
theorem name_long (s : ByteArray) (h : s.toList = [] ∨ 24 < s.size) : Rn.name (txt s) = false := by
  unfold Rn.name
  rcases h with h | h
  · rw [← tl, h]; rfl
  · rw [show decide ((txt s).length ≤ 24) = false from decide_eq_false (by rw [txt_len]; omega)]
    simp
theorem name_short (s : ByteArray) (h : s.toList ≠ []) (h2 : s.size ≤ 24) : Rn.name (txt s) = Rn.nameOk true (Rn.runes (txt s)) := by
  unfold Rn.name
  rw [show decide ((txt s).length ≤ 24) = true from decide_eq_true (by rw [txt_len]; omega)]
  rw [tl] at h
  cases e : txt s with
  | nil => exact absurd e h
  | cons _ _ => rfl
end Go.Proofs.Ytemifminohdhbaa
