/- CONTRACTS OF PACKAGE date: leap, length, within. -/
import Derived.Test.YtgcjhlnolmjdeaaDayK
namespace Go.Proofs.Ytgcjhlnolmjdeaa
open Go.RowKit

theorem leap_date (y : Int) (w : World) (h0 : 0 ≤ y) (h1 : y ≤ 10000) :
    Calls Try.prog 44 #[.int .i64 y] w fun e w' => e = .returned (.bool (Dt.leapB y)) ∧ w' = w := by
  go_enter Try.func44, Try.ntmps44
  by_cases a1 : y % 4 = 0
  · by_cases a2 : y % 100 = 0
    · have a3 : (y % 100 != 0) = false := by rw [a2]; rfl
      go_wp2
      go_ret
      refine ⟨ret_bool ?_, rfl⟩
      rw [Bool.eq_iff_iff, Dt.leap_iff, beq_iff_eq]
      omega
    · have a3 : (y % 100 != 0) = true := bne_iff_ne.2 a2
      go_wp2
      go_ret
      exact ⟨ret_bool ((Dt.leap_iff y).2 ⟨a1, .inl a2⟩).symm, rfl⟩
  · have a2 : (y % 4 == 0) = false := beq_eq_false_iff_ne.2 a1
    go_wp2
    go_ret
    refine ⟨ret_bool ?_, rfl⟩
    rw [Bool.eq_iff_iff, Dt.leap_iff, beq_iff_eq]
    omega
theorem length_date (y m : Int) (w : World) (h0 : 0 ≤ y) (h1 : y ≤ 10000) :
    Calls Try.prog 38 #[.int .i64 y, .int .i64 m] w fun e w' => e = .returned (.int .i64 (Dt.len y m)) ∧ w' = w := by
  by_cases h : m < 1 ∨ 12 < m
  · have HL := Lib.hid (Dt.len_0 (y := y) h)
    have e1 : (m == 1) = false := beq_eq_false_iff_ne.2 (by omega)
    have e2 : (m == 2) = false := beq_eq_false_iff_ne.2 (by omega)
    have e3 : (m == 3) = false := beq_eq_false_iff_ne.2 (by omega)
    have e4 : (m == 4) = false := beq_eq_false_iff_ne.2 (by omega)
    have e5 : (m == 5) = false := beq_eq_false_iff_ne.2 (by omega)
    have e6 : (m == 6) = false := beq_eq_false_iff_ne.2 (by omega)
    have e7 : (m == 7) = false := beq_eq_false_iff_ne.2 (by omega)
    have e8 : (m == 8) = false := beq_eq_false_iff_ne.2 (by omega)
    have e9 : (m == 9) = false := beq_eq_false_iff_ne.2 (by omega)
    have e10 : (m == 10) = false := beq_eq_false_iff_ne.2 (by omega)
    have e11 : (m == 11) = false := beq_eq_false_iff_ne.2 (by omega)
    have e12 : (m == 12) = false := beq_eq_false_iff_ne.2 (by omega)
    clear h
    go_enter Try.func38, Try.ntmps38
    go_wp2_with fail
    go_ret
    exact ⟨ret_int HL.out.symm, rfl⟩
  · have hm : m = 1 ∨ m = 2 ∨ m = 3 ∨ m = 4 ∨ m = 5 ∨ m = 6 ∨ m = 7 ∨ m = 8 ∨ m = 9 ∨ m = 10 ∨ m = 11 ∨ m = 12 := by omega
    clear h
    by_cases h2 : m = 2
    · subst h2
      clear hm
      by_cases hl : Dt.leapB y = true
      · have HL : Hid (Dt.len y 2 = 29) := Lib.hid (by rw [Dt.len_2, Dt.lp_true hl]; rfl)
        go_enter Try.func38, Try.ntmps38
        go_wp2_with fail
        refine (leap_date y _ h0 h1).mono ?_
        rintro e w1 ⟨rfl, hw1⟩
        subst hw1
        rw [hl]
        go_wp2_with fail
        go_ret
        exact ⟨ret_int HL.out.symm, rfl⟩
      · have hl' : Dt.leapB y = false := by simpa using hl
        have HL : Hid (Dt.len y 2 = 28) := Lib.hid (by rw [Dt.len_2, Dt.lp_false hl']; rfl)
        clear hl
        go_enter Try.func38, Try.ntmps38
        go_wp2_with fail
        refine (leap_date y _ h0 h1).mono ?_
        rintro e w1 ⟨rfl, hw1⟩
        subst hw1
        rw [hl']
        go_wp2_with fail
        go_ret
        exact ⟨ret_int HL.out.symm, rfl⟩
    · by_cases h3 : m = 4 ∨ m = 6 ∨ m = 9 ∨ m = 11
      · have HL := Lib.hid (Dt.len_30 (y := y) h3)
        clear hm h2
        rcases h3 with rfl | rfl | rfl | rfl
        all_goals
          go_enter Try.func38, Try.ntmps38
          go_wp2_with fail
          go_ret
          exact ⟨ret_int HL.out.symm, rfl⟩
      · have h4 : m = 1 ∨ m = 3 ∨ m = 5 ∨ m = 7 ∨ m = 8 ∨ m = 10 ∨ m = 12 := by omega
        have HL := Lib.hid (Dt.len_31 (y := y) h4)
        clear hm h2 h3
        rcases h4 with rfl | rfl | rfl | rfl | rfl | rfl | rfl
        all_goals
          go_enter Try.func38, Try.ntmps38
          go_wp2_with fail
          go_ret
          exact ⟨ret_int HL.out.symm, rfl⟩
theorem within_date (n a b : Int) (w : World) :
    Calls Try.prog 37 #[.int .i64 n, .int .i64 a, .int .i64 b] w fun e w' => e = .returned (.bool (decide (a ≤ n ∧ n ≤ b))) ∧ w' = w := by
  go_enter Try.func37, Try.ntmps37
  by_cases h1 : a ≤ n
  · go_wp2
    go_ret
    exact ⟨ret_bool (by simp [h1]), rfl⟩
  · go_wp2
    go_ret
    refine ⟨ret_bool ?_, rfl⟩
    rw [Bool.eq_iff_iff]
    simp
    omega
end Go.Proofs.Ytgcjhlnolmjdeaa
