/- THE DOCUMENT's OWN ANSWER: impostref3's Letter, Name. -/
import Derived.Test.YtemifminohdhbaaTxtR
namespace Go.Proofs.Ytemifminohdhbaa
open Go.RowKit

theorem refLetter_any (r : Int) (w : World) :
    Calls Try.prog 33 #[.int .i32 r] w fun e w' => e = .returned (.bool (Rn.letter r)) ∧ w' = w := by
  go_enter Try.func33, Try.ntmps33
  have hc : r < 65 ∨ (65 ≤ r ∧ r ≤ 90) ∨ (90 < r ∧ r < 97) ∨ (97 ≤ r ∧ r ≤ 122) ∨ (122 < r ∧ r < 192) ∨ r = 215 ∨ (192 ≤ r ∧ r ≤ 591 ∧ ¬ r = 215) ∨ 591 < r := by omega
  rcases hc with h | ⟨h1, h2⟩ | ⟨h1, h2⟩ | ⟨h1, h2⟩ | ⟨h1, h2⟩ | h | ⟨h1, h2, h3⟩ | h
  case inr.inr.inr.inr.inr.inl =>
    subst h
    go_wp2
    go_ret
    exact ⟨rfl, rfl⟩
  all_goals (
    go_wp2
    go_ret
    refine ⟨ret_bool ?_, rfl⟩
    rw [Bool.eq_iff_iff]
    simp [Rn.letter]
    omega)

set_option maxHeartbeats 1000000 in
theorem refName_any (s : ByteArray) (w : World) (hs : s.size ≤ 140737488355328) :
    Calls Try.prog 28 #[.string s] w fun e w' => e = .returned (.bool (Rn.name (txt s))) ∧ Below w.heap.size w w' := by
  by_cases hn : s.toList = []
  · have HN : Hid (Rn.name (txt s) = false) := name_long s (.inl hn)
    go_enter Try.func28, Try.ntmps28
    go_wp2
    go_ret
    exact ⟨ret_bool HN.out.symm, Below.refl _ _⟩
  have hn2 : s.toList.isEmpty = false := by cases e : s.toList with | nil => exact absurd e hn | cons _ _ => rfl
  by_cases h24 : 24 < s.size
  · have HN : Hid (Rn.name (txt s) = false) := name_long s (.inr h24)
    go_enter Try.func28, Try.ntmps28
    go_wp2
    go_ret
    exact ⟨ret_bool HN.out.symm, Below.refl _ _⟩
  have HN : Hid (Rn.name (txt s) = Rn.nameOk true (Rn.runes (txt s))) := name_short s hn (by omega)
  go_enter Try.func28, Try.ntmps28
  go_wp2
  clear hn hn2
  go_loopw [3, 4] (fun _ _ w' => ∃ (pos : Nat), w' = w.iter s pos ∧ Hid (Rn.nameOk (decide (pos = 0)) (Rn.runes ((txt s).drop pos)) = Rn.nameOk true (Rn.runes (txt s))) ∧ pos ≤ s.size) (fun _ _ w' => s.size - w'.iterPos w.heap.size)
  case atStart => exact ⟨0, rfl, by show _ = _; simp, by omega⟩
  case round =>
    obtain ⟨pos, rfl, HC, hb⟩ := hrel
    by_cases hp : pos < s.size
    · have hnx : ∀ ty, (Instr.next (.pointer (some ⟨w.heap.size, 0, none⟩)) true ty).run Try.prog (w.iter s pos) = _ := fun ty => run_next_any w s pos ty hp
      have hwd := dec_pos s pos
      have hle := dec_le s pos hp
      have HS : Hid (Rn.nameOk (decide (pos = 0)) (Rn.runes ((txt s).drop pos)) = ((Rn.letter ((Utf8.decode s pos).1 : Int) || (!decide (pos = 0) && Rn.inner ((Utf8.decode s pos).1 : Int))) && Rn.nameOk (decide (pos + (Utf8.decode s pos).2 = 0)) (Rn.runes ((txt s).drop (pos + (Utf8.decode s pos).2))))) := by
        show _ = _
        rw [runes_at s pos hp, Rn.nameOk, show decide (pos + (Utf8.decode s pos).2 = 0) = false from decide_eq_false (by omega)]
      go_wp2_with fail
      refine (refLetter_any _ _).mono ?_
      rintro e _ ⟨rfl, rfl⟩
      cases hL : Rn.letter ((Utf8.decode s pos).1 : Int)
      · by_cases h0 : pos = 0
        · go_wp2
          go_ret
          refine ⟨ret_bool ?_, below_iter w s _⟩
          rw [HN.out, ← HC.out, HS.out, hL]
          simp [h0]
        · have hp0 : ((pos : Int) == 0) = false := by simp; omega
          generalize hr : ((Utf8.decode s pos).1 : Int) = r at *
          cases hI : Rn.inner r
          · have hc : (r < 48 ∧ ¬ r = 45 ∧ ¬ r = 46) ∨ (57 < r ∧ ¬ r = 95) := by
              simp only [Rn.inner, Rn.digit, Bool.or_eq_false_iff, decide_eq_false_iff_not] at hI
              omega
            have hc2 : ¬ r = 45 ∧ ¬ r = 95 ∧ ¬ r = 46 := by
              simp only [Rn.inner, Rn.digit, Bool.or_eq_false_iff, decide_eq_false_iff_not] at hI
              omega
            obtain ⟨e1, e2, e3⟩ := hc2
            have b1 : (r != 45) = true := by simpa using e1
            have b2 : (r != 95) = true := by simpa using e2
            have b3 : (r != 46) = true := by simpa using e3
            rcases hc with ⟨c1, _⟩ | ⟨c1, _⟩
            all_goals (
              go_wp2
              go_ret
              refine ⟨ret_bool ?_, below_iter w s _⟩
              rw [HN.out, ← HC.out, HS.out, hL, hI]
              simp)
          · have hc : (48 ≤ r ∧ r ≤ 57) ∨ r = 45 ∨ r = 95 ∨ r = 46 := by
              simp only [Rn.inner, Rn.digit, Bool.or_eq_true, decide_eq_true_eq] at hI
              omega
            rcases hc with ⟨c1, c2⟩ | c1 | c1 | c1
            all_goals (
              try subst c1
              go_wp2
              go_roundw
              case rel =>
                refine ⟨pos + (Utf8.decode s pos).2, rfl, ?_, by omega⟩
                show _ = _
                rw [← HC.out, HS.out, hL, hI]
                simp [h0]
              case measure =>
                simp
                omega)
      · go_wp2
        go_roundw
        case rel =>
          refine ⟨pos + (Utf8.decode s pos).2, rfl, ?_, by omega⟩
          show _ = _
          rw [← HC.out, HS.out, hL]
          simp
        case measure =>
          simp
          omega
    · have hnx : ∀ ty, (Instr.next (.pointer (some ⟨w.heap.size, 0, none⟩)) true ty).run Try.prog (w.iter s pos) = _ := fun ty => run_next_end w s pos ty hp
      go_wp2
      go_ret
      refine ⟨ret_bool ?_, below_iter w s pos⟩
      rw [HN.out, ← HC.out, runes_end s pos hp]
      rfl

theorem refName_gen (s : ByteArray) (w0 w : World) (hb : Below w0.heap.size w0 w) (hs : s.size ≤ 140737488355328) :
    Calls Try.prog 28 #[.string s] w fun e w' => e = .returned (.bool (Rn.name (txt s))) ∧ Below w0.heap.size w0 w' :=
  (refName_any s w hs).mono fun _ _ ⟨h1, h2⟩ => ⟨h1, hb.trans (h2.mono hb.size)⟩
end Go.Proofs.Ytemifminohdhbaa
