/- CONTRACTS OF PACKAGE money: Add, Sub, fits, Mul. -/
import Derived.Test.YtagofjnckdhopaaDoorTxt
namespace Go.Proofs.YtagofjnckdhopaaDoor
open Go.RowKit

def both (v e : Int) : Ending := .returned (.tuple #[.int .i64 v, .int .i64 e])
theorem both_fit {x : Int} (h : Mn.Fit x) : both (Mn.amt x) (Mn.err x) = both x 0 := by rw [Mn.amt_fit h, Mn.err_fit h]
theorem both_not {x : Int} (h : ¬ Mn.Fit x) : both (Mn.amt x) (Mn.err x) = both 0 7 := by rw [Mn.amt_not h, Mn.err_not h]

theorem add_any (a b : Int) (w : World) (ha : Mn.Fit a) (hb : Mn.Fit b) :
    Calls Tryd.prog 11 #[.int .i64 a, .int .i64 b] w fun e w' => e = both (Mn.amt (a + b)) (Mn.err (a + b)) ∧ w' = w := by
  obtain ⟨ha0, ha1⟩ := ha
  obtain ⟨hb0, hb1⟩ := hb
  go_enter Tryd.func11, Tryd.ntmps11
  by_cases hf : Mn.Fit (a + b)
  · rw [both_fit hf]
    obtain ⟨hf0, hf1⟩ := hf
    by_cases h1 : 0 < b
    · have h2 : ¬ 9223372036854775807 - b < a := by omega
      have h3 : ¬ b < 0 := by omega
      go_wp2
      go_ret2
      exact ⟨rfl, rfl⟩
    · by_cases h3 : b < 0
      · have h2 : ¬ a < -9223372036854775808 - b := by omega
        go_wp2
        go_ret2
        exact ⟨rfl, rfl⟩
      · go_wp2
        go_ret2
        exact ⟨rfl, rfl⟩
  · rw [both_not hf]
    by_cases h1 : 0 < b
    · have h2 : 9223372036854775807 - b < a := by unfold Mn.Fit at hf; omega
      clear hf
      go_wp2
      go_ret2
      exact ⟨rfl, rfl⟩
    · have h3 : b < 0 := by unfold Mn.Fit at hf; omega
      have h2 : a < -9223372036854775808 - b := by unfold Mn.Fit at hf; omega
      clear hf
      go_wp2
      go_ret2
      exact ⟨rfl, rfl⟩
theorem sub_any (a b : Int) (w : World) (ha : Mn.Fit a) (hb : Mn.Fit b) :
    Calls Tryd.prog 12 #[.int .i64 a, .int .i64 b] w fun e w' => e = both (Mn.amt (a - b)) (Mn.err (a - b)) ∧ w' = w := by
  obtain ⟨ha0, ha1⟩ := ha
  obtain ⟨hb0, hb1⟩ := hb
  go_enter Tryd.func12, Tryd.ntmps12
  by_cases hf : Mn.Fit (a - b)
  · rw [both_fit hf]
    obtain ⟨hf0, hf1⟩ := hf
    by_cases h1 : 0 < b
    · have h2 : ¬ a < -9223372036854775808 + b := by omega
      have h3 : ¬ b < 0 := by omega
      go_wp2
      go_ret2
      exact ⟨rfl, rfl⟩
    · by_cases h3 : b < 0
      · have h2 : ¬ 9223372036854775807 + b < a := by omega
        go_wp2
        go_ret2
        exact ⟨rfl, rfl⟩
      · go_wp2
        go_ret2
        exact ⟨rfl, rfl⟩
  · rw [both_not hf]
    by_cases h1 : 0 < b
    · have h2 : a < -9223372036854775808 + b := by unfold Mn.Fit at hf; omega
      clear hf
      go_wp2
      go_ret2
      exact ⟨rfl, rfl⟩
    · have h3 : b < 0 := by unfold Mn.Fit at hf; omega
      have h2 : 9223372036854775807 + b < a := by unfold Mn.Fit at hf; omega
      clear hf
      go_wp2
      go_ret2
      exact ⟨rfl, rfl⟩
theorem fits_any (a b : Int) (w : World) (ha : Mn.Fit a) (hb : Mn.Fit b) :
    Calls Tryd.prog 22 #[.int .i64 a, .int .i64 b] w fun e w' => e = .returned (.bool (decide (Mn.Fit (a * b)))) ∧ w' = w := by
  obtain ⟨ha0, ha1⟩ := ha
  obtain ⟨hb0, hb1⟩ := hb
  go_enter Tryd.func22, Tryd.ntmps22
  by_cases ha : a = 0
  · subst ha
    go_wp2
    go_ret
    exact ⟨ret_bool (by rw [Int.zero_mul]; rfl), rfl⟩
  by_cases hb : b = 0
  · subst hb
    go_wp2
    go_ret
    exact ⟨ret_bool (by rw [Int.mul_zero]; rfl), rfl⟩
  have ha' : (a == 0) = false := by simpa using ha
  have hb' : (b == 0) = false := by simpa using hb
  by_cases h1 : 0 < a
  · by_cases h2 : 0 < b
    · have HQ := Lib.hid (Mn.fits_pp a b h1 h2)
      have HM := Lib.hid (Mn.mul_pos h1 h2)
      have hqb := Mn.tdiv_small 9223372036854775807 b (by omega) hb
      by_cases hq : a ≤ (9223372036854775807 : Int).tdiv b
      · go_wp2
        go_ret
        refine ⟨ret_bool (decide_eq_true ?_).symm, rfl⟩
        have hm := HM.out
        have hr := HQ.out.1 hq
        exact ⟨by omega, by omega⟩
      · go_wp2
        go_ret
        refine ⟨ret_bool (decide_eq_false fun hf => ?_).symm, rfl⟩
        have hr := HQ.out.2
        unfold Mn.Fit at hf
        omega
    · have HQ := Lib.hid (Mn.fits_pn a b h1)
      have HM := Lib.hid (Mn.mul_pn h1 (show b < 0 by omega))
      have hqb := Mn.tdiv_pos 9223372036854775808 a (by omega) h1
      by_cases hq : -(9223372036854775808 : Int).tdiv a ≤ b
      · go_wp2
        go_ret
        refine ⟨ret_bool (decide_eq_true ?_).symm, rfl⟩
        have hm := HM.out
        have hr := HQ.out.1 hq
        exact ⟨by omega, by omega⟩
      · go_wp2
        go_ret
        refine ⟨ret_bool (decide_eq_false fun hf => ?_).symm, rfl⟩
        have hr := HQ.out.2
        unfold Mn.Fit at hf
        omega
  · by_cases h2 : 0 < b
    · have HQ := Lib.hid (Mn.fits_np a b h2)
      have HM := Lib.hid (Mn.mul_np (show a < 0 by omega) h2)
      have hqb := Mn.tdiv_pos 9223372036854775808 b (by omega) h2
      by_cases hq : -(9223372036854775808 : Int).tdiv b ≤ a
      · go_wp2
        go_ret
        refine ⟨ret_bool (decide_eq_true ?_).symm, rfl⟩
        have hm := HM.out
        have hr := HQ.out.1 hq
        exact ⟨by omega, by omega⟩
      · go_wp2
        go_ret
        refine ⟨ret_bool (decide_eq_false fun hf => ?_).symm, rfl⟩
        have hr := HQ.out.2
        unfold Mn.Fit at hf
        omega
    · have HQ := Lib.hid (Mn.fits_nn a b (show b < 0 by omega))
      have HM := Lib.hid (Mn.mul_nn (show a < 0 by omega) (show b < 0 by omega))
      have hqb := Mn.tdiv_small 9223372036854775807 b (by omega) hb
      by_cases hq : (9223372036854775807 : Int).tdiv b ≤ a
      · go_wp2
        go_ret
        refine ⟨ret_bool (decide_eq_true ?_).symm, rfl⟩
        have hm := HM.out
        have hr := HQ.out.1 hq
        exact ⟨by omega, by omega⟩
      · go_wp2
        go_ret
        refine ⟨ret_bool (decide_eq_false fun hf => ?_).symm, rfl⟩
        have hr := HQ.out.2
        unfold Mn.Fit at hf
        omega
theorem mul_any (a b : Int) (w : World) (ha : Mn.Fit a) (hb : Mn.Fit b) :
    Calls Tryd.prog 13 #[.int .i64 a, .int .i64 b] w fun e w' => e = both (Mn.amt (a * b)) (Mn.err (a * b)) ∧ w' = w := by
  by_cases hf : Mn.Fit (a * b)
  · rw [both_fit hf]
    go_enter Tryd.func13, Tryd.ntmps13
    go_wp2_with fail
    refine (fits_any a b _ ha hb).mono ?_
    rintro e _ ⟨rfl, rfl⟩
    rw [decide_eq_true hf]
    obtain ⟨hf0, hf1⟩ := hf
    clear ha hb
    go_wp2
    go_ret2
    exact ⟨rfl, rfl⟩
  · rw [both_not hf]
    go_enter Tryd.func13, Tryd.ntmps13
    go_wp2_with fail
    refine (fits_any a b _ ha hb).mono ?_
    rintro e _ ⟨rfl, rfl⟩
    rw [decide_eq_false hf]
    clear hf ha hb
    go_wp2
    go_ret2
    exact ⟨rfl, rfl⟩
end Go.Proofs.YtagofjnckdhopaaDoor
