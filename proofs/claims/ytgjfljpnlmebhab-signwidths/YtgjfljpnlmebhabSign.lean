/- CONTRACTS OF PACKAGE sign: within, Letter, digit, inner, small; Width, Cut, Name, Digits: any text, UTF-8 or not. -/
import Derived.Test.YtgjfljpnlmebhabSeg
import Derived.Test.YtgjfljpnlmebhabRune
import Derived.Lib.OthersKept
import Derived.Laws.Strings3
import Derived.Laws.Runes
import Derived.Deep.RegionHeld3
namespace Go.Proofs.Ytgjfljpnlmebhab
open Go.RowKit

theorem within_any (r a b : Int) (w : World) :
    Calls Try.prog 18 #[.int .i32 r, .int .i32 a, .int .i32 b] w fun e w' => e = .returned (.bool (decide (a ≤ r ∧ r ≤ b))) ∧ w' = w := by
  go_enter Try.func18, Try.ntmps18
  by_cases h1 : a ≤ r
  · go_wp2
    go_ret
    exact ⟨ret_bool (by simp [h1]), rfl⟩
  · go_wp2
    go_ret
    refine ⟨ret_bool ?_, rfl⟩
    rw [Bool.eq_iff_iff]
    simp
    omega
theorem digit_any (r : Int) (w : World) :
    Calls Try.prog 14 #[.int .i32 r] w fun e w' => e = .returned (.bool (Rn.digit r)) ∧ w' = w := by
  go_enter Try.func14, Try.ntmps14
  go_wp2_with fail
  refine (within_any _ _ _ _).mono ?_
  rintro e _ ⟨rfl, rfl⟩
  go_wp2
  go_ret
  exact ⟨ret_bool (by simp [Rn.digit]), rfl⟩
theorem inner_any (r : Int) (w : World) :
    Calls Try.prog 16 #[.int .i32 r] w fun e w' => e = .returned (.bool (Rn.inner r)) ∧ w' = w := by
  go_enter Try.func16, Try.ntmps16
  go_wp2_with fail
  refine (digit_any _ _).mono ?_
  rintro e _ ⟨rfl, rfl⟩
  cases hd : Rn.digit r
  · by_cases h1 : r = 45
    · subst h1
      go_wp2
      go_ret
      exact ⟨rfl, rfl⟩
    · by_cases h2 : r = 95
      · subst h2
        go_wp2
        go_ret
        exact ⟨rfl, rfl⟩
      · go_wp2
        go_ret
        refine ⟨ret_bool ?_, rfl⟩
        rw [Bool.eq_iff_iff]
        simp [Rn.inner, hd, h1, h2]
  · go_wp2
    go_ret
    exact ⟨ret_bool (by simp [Rn.inner, hd]), rfl⟩
theorem letter_any (r : Int) (w : World) :
    Calls Try.prog 15 #[.int .i32 r] w fun e w' => e = .returned (.bool (Rn.letter r)) ∧ w' = w := by
  go_enter Try.func15, Try.ntmps15
  go_wp2_with fail
  refine (within_any _ _ _ _).mono ?_
  rintro e _ ⟨rfl, rfl⟩
  by_cases h1 : 97 ≤ r ∧ r ≤ 122
  · rw [show decide (97 ≤ r ∧ r ≤ 122) = true from decide_eq_true h1]
    go_wp2
    go_ret
    exact ⟨ret_bool (by simp [Rn.letter, h1]), rfl⟩
  · rw [show decide (97 ≤ r ∧ r ≤ 122) = false from decide_eq_false h1]
    go_wp2_with fail
    refine (within_any _ _ _ _).mono ?_
    rintro e _ ⟨rfl, rfl⟩
    by_cases h2 : 65 ≤ r ∧ r ≤ 90
    · rw [show decide (65 ≤ r ∧ r ≤ 90) = true from decide_eq_true h2]
      go_wp2
      go_ret
      exact ⟨ret_bool (by simp [Rn.letter, h2]), rfl⟩
    · rw [show decide (65 ≤ r ∧ r ≤ 90) = false from decide_eq_false h2]
      go_wp2_with fail
      refine (within_any _ _ _ _).mono ?_
      rintro e _ ⟨rfl, rfl⟩
      by_cases h3 : 192 ≤ r ∧ r ≤ 591
      · rw [show decide (192 ≤ r ∧ r ≤ 591) = true from decide_eq_true h3]
        by_cases h4 : r = 215
        · subst h4
          go_wp2
          go_ret
          exact ⟨rfl, rfl⟩
        · go_wp2
          go_ret
          refine ⟨ret_bool ?_, rfl⟩
          rw [Bool.eq_iff_iff]
          simp [Rn.letter]
          omega
      · rw [show decide (192 ≤ r ∧ r ≤ 591) = false from decide_eq_false h3]
        go_wp2
        go_ret
        refine ⟨ret_bool ?_, rfl⟩
        symm
        simp only [Rn.letter, Bool.or_eq_false_iff, decide_eq_false_iff_not]
        omega
theorem small_any (r : Int) (w : World) (h0 : 0 ≤ r) (h1 : r ≤ 1114111) :
    Calls Try.prog 17 #[.int .i32 r] w fun e w' => e = .returned (.int .i32 (Rn.small r)) ∧ w' = w := by
  go_enter Try.func17, Try.ntmps17
  go_wp2_with fail
  refine (within_any _ _ _ _).mono ?_
  rintro e _ ⟨rfl, rfl⟩
  by_cases h2 : 65 ≤ r ∧ r ≤ 90
  · rw [show decide (65 ≤ r ∧ r ≤ 90) = true from decide_eq_true h2]
    go_wp2
    go_ret
    exact ⟨by rw [show Rn.small r = r + 32 from if_pos (.inl h2)]; go_num, rfl⟩
  · rw [show decide (65 ≤ r ∧ r ≤ 90) = false from decide_eq_false h2]
    go_wp2_with fail
    refine (within_any _ _ _ _).mono ?_
    rintro e _ ⟨rfl, rfl⟩
    by_cases h3 : 192 ≤ r ∧ r ≤ 222
    · rw [show decide (192 ≤ r ∧ r ≤ 222) = true from decide_eq_true h3]
      by_cases h4 : r = 215
      · subst h4
        go_wp2
        go_ret
        exact ⟨rfl, rfl⟩
      · go_wp2
        go_ret
        exact ⟨by rw [show Rn.small r = r + 32 from if_pos (.inr ⟨h3.1, h3.2, h4⟩)]; go_num, rfl⟩
    · rw [show decide (192 ≤ r ∧ r ≤ 222) = false from decide_eq_false h3]
      go_wp2
      go_ret
      exact ⟨by rw [show Rn.small r = r from if_neg (by omega)]; rfl, rfl⟩
end Go.Proofs.Ytgjfljpnlmebhab
