/- CONTRACTS OF PACKAGE sign: within, digit, inner, Letter, Name: any text, UTF-8 or not. -/
import Derived.Test.YtemifminohdhbaaTxtR
namespace Go.Proofs.Ytemifminohdhbaa
open Go.RowKit

theorem within_any (r a b : Int) (w : World) :
    Calls Try.prog 34 #[.int .i32 r, .int .i32 a, .int .i32 b] w fun e w' => e = .returned (.bool (decide (a ≤ r ∧ r ≤ b))) ∧ w' = w := by
  go_enter Try.func34, Try.ntmps34
  by_cases h1 : a ≤ r
  · go_wp2
    go_ret
    exact ⟨ret_bool (by simp [h1]), rfl⟩
  · go_wp2
    go_ret
    refine ⟨ret_bool ?_, rfl⟩
    rw [Bool.eq_iff_iff]
    simp
    omega
theorem digit_any (r : Int) (w : World) :
    Calls Try.prog 35 #[.int .i32 r] w fun e w' => e = .returned (.bool (Rn.digit r)) ∧ w' = w := by
  go_enter Try.func35, Try.ntmps35
  go_wp2_with fail
  refine (within_any _ _ _ _).mono ?_
  rintro e _ ⟨rfl, rfl⟩
  go_wp2
  go_ret
  exact ⟨ret_bool (by simp [Rn.digit]), rfl⟩
theorem inner_any (r : Int) (w : World) :
    Calls Try.prog 32 #[.int .i32 r] w fun e w' => e = .returned (.bool (Rn.inner r)) ∧ w' = w := by
  go_enter Try.func32, Try.ntmps32
  go_wp2_with fail
  refine (digit_any _ _).mono ?_
  rintro e _ ⟨rfl, rfl⟩
  cases hd : Rn.digit r
  · by_cases h1 : r = 45
    · subst h1
      go_wp2
      go_ret
      exact ⟨rfl, rfl⟩
    · by_cases h2 : r = 95
      · subst h2
        go_wp2
        go_ret
        exact ⟨rfl, rfl⟩
      · go_wp2
        go_ret
        refine ⟨ret_bool ?_, rfl⟩
        rw [Bool.eq_iff_iff]
        simp [Rn.inner, hd, h1, h2]
  · go_wp2
    go_ret
    exact ⟨ret_bool (by simp [Rn.inner, hd]), rfl⟩
theorem letter_any (r : Int) (w : World) :
    Calls Try.prog 31 #[.int .i32 r] w fun e w' => e = .returned (.bool (Rn.letter r)) ∧ w' = w := by
  go_enter Try.func31, Try.ntmps31
  go_wp2_with fail
  refine (within_any _ _ _ _).mono ?_
  rintro e _ ⟨rfl, rfl⟩
  by_cases h1 : 97 ≤ r ∧ r ≤ 122
  · rw [show decide (97 ≤ r ∧ r ≤ 122) = true from decide_eq_true h1]
    go_wp2
    go_ret
    exact ⟨ret_bool (by simp [Rn.letter, h1]), rfl⟩
  · rw [show decide (97 ≤ r ∧ r ≤ 122) = false from decide_eq_false h1]
    go_wp2_with fail
    refine (within_any _ _ _ _).mono ?_
    rintro e _ ⟨rfl, rfl⟩
    by_cases h2 : 65 ≤ r ∧ r ≤ 90
    · rw [show decide (65 ≤ r ∧ r ≤ 90) = true from decide_eq_true h2]
      go_wp2
      go_ret
      exact ⟨ret_bool (by simp [Rn.letter, h2]), rfl⟩
    · rw [show decide (65 ≤ r ∧ r ≤ 90) = false from decide_eq_false h2]
      go_wp2_with fail
      refine (within_any _ _ _ _).mono ?_
      rintro e _ ⟨rfl, rfl⟩
      by_cases h3 : 192 ≤ r ∧ r ≤ 591
      · rw [show decide (192 ≤ r ∧ r ≤ 591) = true from decide_eq_true h3]
        by_cases h4 : r = 215
        · subst h4
          go_wp2
          go_ret
          exact ⟨rfl, rfl⟩
        · go_wp2
          go_ret
          refine ⟨ret_bool ?_, rfl⟩
          rw [Bool.eq_iff_iff]
          simp [Rn.letter]
          omega
      · rw [show decide (192 ≤ r ∧ r ≤ 591) = false from decide_eq_false h3]
        go_wp2
        go_ret
        refine ⟨ret_bool ?_, rfl⟩
        symm
        simp only [Rn.letter, Bool.or_eq_false_iff, decide_eq_false_iff_not]
        omega
set_option maxHeartbeats 1000000 in
theorem name_any (s : ByteArray) (w : World) (hs : s.size ≤ 140737488355328) :
    Calls Try.prog 22 #[.string s] w fun e w' => e = .returned (.bool (Rn.name (txt s))) ∧ Below w.heap.size w w' := by
  by_cases hn : s.toList = []
  · have HN : Hid (Rn.name (txt s) = false) := name_long s (.inl hn)
    go_enter Try.func22, Try.ntmps22
    go_wp2
    go_ret
    exact ⟨ret_bool HN.out.symm, Below.refl _ _⟩
  have hn2 : s.toList.isEmpty = false := by cases e : s.toList with | nil => exact absurd e hn | cons _ _ => rfl
  by_cases h24 : 24 < s.size
  · have HN : Hid (Rn.name (txt s) = false) := name_long s (.inr h24)
    go_enter Try.func22, Try.ntmps22
    go_wp2
    go_ret
    exact ⟨ret_bool HN.out.symm, Below.refl _ _⟩
  have HN : Hid (Rn.name (txt s) = Rn.nameOk true (Rn.runes (txt s))) := name_short s hn (by omega)
  go_enter Try.func22, Try.ntmps22
  go_wp2
  clear hn hn2
  go_loopw [3, 4] (fun _ _ w' => ∃ (pos : Nat), w' = w.iter s pos ∧ Hid (Rn.nameOk (decide (pos = 0)) (Rn.runes ((txt s).drop pos)) = Rn.nameOk true (Rn.runes (txt s))) ∧ pos ≤ s.size) (fun _ _ w' => s.size - w'.iterPos w.heap.size)
  case atStart => exact ⟨0, rfl, by show _ = _; simp, by omega⟩
  case round =>
    obtain ⟨pos, rfl, HC, hb⟩ := hrel
    by_cases hp : pos < s.size
    · have hnx : ∀ ty, (Instr.next (.pointer (some ⟨w.heap.size, 0, none⟩)) true ty).run Try.prog (w.iter s pos) = _ := fun ty => run_next_any w s pos ty hp
      have hwd := dec_pos s pos
      have hle := dec_le s pos hp
      have HS : Hid (Rn.nameOk (decide (pos = 0)) (Rn.runes ((txt s).drop pos)) = ((Rn.letter ((Utf8.decode s pos).1 : Int) || (!decide (pos = 0) && Rn.inner ((Utf8.decode s pos).1 : Int))) && Rn.nameOk (decide (pos + (Utf8.decode s pos).2 = 0)) (Rn.runes ((txt s).drop (pos + (Utf8.decode s pos).2))))) := by
        show _ = _
        rw [runes_at s pos hp, Rn.nameOk, show decide (pos + (Utf8.decode s pos).2 = 0) = false from decide_eq_false (by omega)]
      go_wp2_with fail
      refine (letter_any _ _).mono ?_
      rintro e _ ⟨rfl, rfl⟩
      cases hL : Rn.letter ((Utf8.decode s pos).1 : Int)
      · by_cases h0 : pos = 0
        · go_wp2
          go_ret
          refine ⟨ret_bool ?_, below_iter w s _⟩
          rw [HN.out, ← HC.out, HS.out, hL]
          simp [h0]
        · go_wp2_with fail
          refine (inner_any _ _).mono ?_
          rintro e _ ⟨rfl, rfl⟩
          cases hI : Rn.inner ((Utf8.decode s pos).1 : Int)
          · go_wp2
            go_ret
            refine ⟨ret_bool ?_, below_iter w s _⟩
            rw [HN.out, ← HC.out, HS.out, hL, hI]
            simp
          · go_wp2
            go_roundw
            case rel =>
              refine ⟨pos + (Utf8.decode s pos).2, rfl, ?_, by omega⟩
              show _ = _
              rw [← HC.out, HS.out, hL, hI]
              simp [h0]
            case measure =>
              simp
              omega
      · go_wp2
        go_roundw
        case rel =>
          refine ⟨pos + (Utf8.decode s pos).2, rfl, ?_, by omega⟩
          show _ = _
          rw [← HC.out, HS.out, hL]
          simp
        case measure =>
          simp
          omega
    · have hnx : ∀ ty, (Instr.next (.pointer (some ⟨w.heap.size, 0, none⟩)) true ty).run Try.prog (w.iter s pos) = _ := fun ty => run_next_end w s pos ty hp
      go_wp2
      go_ret
      refine ⟨ret_bool ?_, below_iter w s pos⟩
      rw [HN.out, ← HC.out, runes_end s pos hp]
      rfl
theorem name_gen (s : ByteArray) (w0 w : World) (hb : Below w0.heap.size w0 w) (hs : s.size ≤ 140737488355328) :
    Calls Try.prog 22 #[.string s] w fun e w' => e = .returned (.bool (Rn.name (txt s))) ∧ Below w0.heap.size w0 w' :=
  (name_any s w hs).mono fun _ _ ⟨h1, h2⟩ => ⟨h1, hb.trans (h2.mono hb.size)⟩
end Go.Proofs.Ytemifminohdhbaa
