/- THE DOCUMENT's OWN ANSWER: impostref3's Add, Sub, size, Mul. -/
import Derived.Test.YtagofjnckdhopaaDoorMoney
namespace Go.Proofs.YtagofjnckdhopaaDoor
open Go.RowKit

theorem refAdd_any (a b : Int) (w : World) (ha : Mn.Fit a) (hb : Mn.Fit b) :
    Calls Tryd.prog 14 #[.int .i64 a, .int .i64 b] w fun e w' => e = both (Mn.amt (a + b)) (Mn.err (a + b)) ∧ w' = w := by
  obtain ⟨ha0, ha1⟩ := ha
  obtain ⟨hb0, hb1⟩ := hb
  go_enter Tryd.func14, Tryd.ntmps14
  by_cases hf : Mn.Fit (a + b)
  · rw [both_fit hf]
    obtain ⟨hf0, hf1⟩ := hf
    by_cases h1 : 0 < b
    · have h2 : ¬ 9223372036854775807 - b < a := by omega
      have h3 : ¬ b < 0 := by omega
      go_wp2
      go_ret2
      exact ⟨rfl, rfl⟩
    · by_cases h3 : b < 0
      · have h2 : ¬ a < -9223372036854775808 - b := by omega
        go_wp2
        go_ret2
        exact ⟨rfl, rfl⟩
      · go_wp2
        go_ret2
        exact ⟨rfl, rfl⟩
  · rw [both_not hf]
    by_cases h1 : 0 < b
    · have h2 : 9223372036854775807 - b < a := by unfold Mn.Fit at hf; omega
      clear hf
      go_wp2
      go_ret2
      exact ⟨rfl, rfl⟩
    · have h3 : b < 0 := by unfold Mn.Fit at hf; omega
      have h2 : a < -9223372036854775808 - b := by unfold Mn.Fit at hf; omega
      clear hf
      go_wp2
      go_ret2
      exact ⟨rfl, rfl⟩
theorem refSub_any (a b : Int) (w : World) (ha : Mn.Fit a) (hb : Mn.Fit b) :
    Calls Tryd.prog 15 #[.int .i64 a, .int .i64 b] w fun e w' => e = both (Mn.amt (a - b)) (Mn.err (a - b)) ∧ w' = w := by
  obtain ⟨ha0, ha1⟩ := ha
  obtain ⟨hb0, hb1⟩ := hb
  go_enter Tryd.func15, Tryd.ntmps15
  by_cases hf : Mn.Fit (a - b)
  · rw [both_fit hf]
    obtain ⟨hf0, hf1⟩ := hf
    by_cases h1 : 0 < b
    · have h2 : ¬ a < -9223372036854775808 + b := by omega
      have h3 : ¬ b < 0 := by omega
      go_wp2
      go_ret2
      exact ⟨rfl, rfl⟩
    · by_cases h3 : b < 0
      · have h2 : ¬ 9223372036854775807 + b < a := by omega
        go_wp2
        go_ret2
        exact ⟨rfl, rfl⟩
      · go_wp2
        go_ret2
        exact ⟨rfl, rfl⟩
  · rw [both_not hf]
    by_cases h1 : 0 < b
    · have h2 : a < -9223372036854775808 + b := by unfold Mn.Fit at hf; omega
      clear hf
      go_wp2
      go_ret2
      exact ⟨rfl, rfl⟩
    · have h3 : b < 0 := by unfold Mn.Fit at hf; omega
      have h2 : 9223372036854775807 + b < a := by unfold Mn.Fit at hf; omega
      clear hf
      go_wp2
      go_ret2
      exact ⟨rfl, rfl⟩
theorem ret_u64 {a b : Int} (h : a = b) : Ending.returned (.int .u64 a) = .returned (.int .u64 b) := by rw [h]
theorem size_any (a : Int) (w : World) (ha : Mn.Fit a) :
    Calls Tryd.prog 23 #[.int .i64 a] w fun e w' => e = .returned (.int .u64 (a.natAbs : Int)) ∧ w' = w := by
  obtain ⟨ha0, ha1⟩ := ha
  go_enter Tryd.func23, Tryd.ntmps23
  by_cases h : a < 0
  · go_wp2
    go_ret
    exact ⟨ret_u64 (by omega), rfl⟩
  · go_wp2
    go_ret
    exact ⟨ret_u64 (by omega), rfl⟩
theorem div_lt (B : Int) (x y : Nat) (hy : 0 < y) : B / (y : Int) < (x : Int) ↔ B < (x : Int) * (y : Int) := Int.ediv_lt_iff_lt_mul (by omega)
set_option maxHeartbeats 1000000 in
theorem refMul_pp (x y : Nat) (w : World) (hx : 0 < x) (hy : 0 < y) (ha : Mn.Fit (x : Int)) (hb : Mn.Fit (y : Int)) :
    Calls Tryd.prog 16 #[.int .i64 (x : Int), .int .i64 (y : Int)] w fun e w' => e = both (Mn.amt ((x : Int) * (y : Int))) (Mn.err ((x : Int) * (y : Int))) ∧ w' = w := by
  have HA := Lib.hid ha
  have HB := Lib.hid hb
  obtain ⟨ha0, ha1⟩ := ha
  obtain ⟨hb0, hb1⟩ := hb
  have HQ := Lib.hid (div_lt 9223372036854775807 x y hy)
  have hx0 : ((x : Int) == 0) = false := beq_eq_false_iff_ne.2 (by omega)
  have hy0 : ((y : Int) == 0) = false := beq_eq_false_iff_ne.2 (by omega)
  have hpos : 0 < (x : Int) * (y : Int) := Int.mul_pos (by omega) (by omega)
  by_cases hf : Mn.Fit ((x : Int) * (y : Int))
  · rw [both_fit hf]
    obtain ⟨hf0, hf1⟩ := hf
    have hq : ¬ 9223372036854775807 / (y : Int) < (x : Int) := by
      have := HQ.out
      omega
    go_enter Tryd.func16, Tryd.ntmps16
    go_wp2_with fail
    refine (size_any _ _ HA.out).mono ?_
    rintro e w1 ⟨rfl, hw1⟩
    subst hw1
    rw [Int.natAbs_natCast]
    go_wp2_with fail
    refine (size_any _ _ HB.out).mono ?_
    rintro e w2 ⟨rfl, hw2⟩
    subst hw2
    rw [Int.natAbs_natCast]
    go_wp2
    go_ret2
    exact ⟨rfl, rfl⟩
  · rw [both_not hf]
    have hq : 9223372036854775807 / (y : Int) < (x : Int) := by
      have := HQ.out
      unfold Mn.Fit at hf
      omega
    clear hf
    go_enter Tryd.func16, Tryd.ntmps16
    go_wp2_with fail
    refine (size_any _ _ HA.out).mono ?_
    rintro e w1 ⟨rfl, hw1⟩
    subst hw1
    rw [Int.natAbs_natCast]
    go_wp2_with fail
    refine (size_any _ _ HB.out).mono ?_
    rintro e w2 ⟨rfl, hw2⟩
    subst hw2
    rw [Int.natAbs_natCast]
    go_wp2
    go_ret2
    exact ⟨rfl, rfl⟩
set_option maxHeartbeats 1000000 in
theorem refMul_pn (x y : Nat) (w : World) (hx : 0 < x) (hy : 0 < y) (ha : Mn.Fit (x : Int)) (hb : Mn.Fit (-(y : Int))) :
    Calls Tryd.prog 16 #[.int .i64 (x : Int), .int .i64 (-(y : Int))] w fun e w' => e = both (Mn.amt ((x : Int) * (-(y : Int)))) (Mn.err ((x : Int) * (-(y : Int)))) ∧ w' = w := by
  have HA := Lib.hid ha
  have HB := Lib.hid hb
  obtain ⟨ha0, ha1⟩ := ha
  obtain ⟨hb0, hb1⟩ := hb
  have HQ := Lib.hid (div_lt 9223372036854775808 x y hy)
  have hx0 : ((x : Int) == 0) = false := beq_eq_false_iff_ne.2 (by omega)
  have hy0 : ((y : Int) == 0) = false := beq_eq_false_iff_ne.2 (by omega)
  have hmul := Int.mul_neg (x : Int) (y : Int)
  have hpos : 0 < (x : Int) * (y : Int) := Int.mul_pos (by omega) (by omega)
  by_cases hf : Mn.Fit ((x : Int) * (-(y : Int)))
  · rw [both_fit hf]
    obtain ⟨hf0, hf1⟩ := hf
    have hq : ¬ 9223372036854775808 / (y : Int) < (x : Int) := by
      have := HQ.out
      omega
    go_enter Tryd.func16, Tryd.ntmps16
    go_wp2_with fail
    refine (size_any _ _ HA.out).mono ?_
    rintro e w1 ⟨rfl, hw1⟩
    subst hw1
    rw [Int.natAbs_natCast]
    go_wp2_with fail
    refine (size_any _ _ HB.out).mono ?_
    rintro e w2 ⟨rfl, hw2⟩
    subst hw2
    rw [Int.natAbs_neg, Int.natAbs_natCast]
    go_wp2
    go_ret2
    exact ⟨by rw [hmul]; rfl, rfl⟩
  · rw [both_not hf]
    have hq : 9223372036854775808 / (y : Int) < (x : Int) := by
      have := HQ.out
      unfold Mn.Fit at hf
      omega
    clear hf
    go_enter Tryd.func16, Tryd.ntmps16
    go_wp2_with fail
    refine (size_any _ _ HA.out).mono ?_
    rintro e w1 ⟨rfl, hw1⟩
    subst hw1
    rw [Int.natAbs_natCast]
    go_wp2_with fail
    refine (size_any _ _ HB.out).mono ?_
    rintro e w2 ⟨rfl, hw2⟩
    subst hw2
    rw [Int.natAbs_neg, Int.natAbs_natCast]
    go_wp2
    go_ret2
    exact ⟨rfl, rfl⟩
set_option maxHeartbeats 1000000 in
theorem refMul_np (x y : Nat) (w : World) (hx : 0 < x) (hy : 0 < y) (ha : Mn.Fit (-(x : Int))) (hb : Mn.Fit (y : Int)) :
    Calls Tryd.prog 16 #[.int .i64 (-(x : Int)), .int .i64 (y : Int)] w fun e w' => e = both (Mn.amt ((-(x : Int)) * (y : Int))) (Mn.err ((-(x : Int)) * (y : Int))) ∧ w' = w := by
  have HA := Lib.hid ha
  have HB := Lib.hid hb
  obtain ⟨ha0, ha1⟩ := ha
  obtain ⟨hb0, hb1⟩ := hb
  have HQ := Lib.hid (div_lt 9223372036854775808 x y hy)
  have hx0 : ((x : Int) == 0) = false := beq_eq_false_iff_ne.2 (by omega)
  have hy0 : ((y : Int) == 0) = false := beq_eq_false_iff_ne.2 (by omega)
  have hmul := Int.neg_mul (x : Int) (y : Int)
  have hpos : 0 < (x : Int) * (y : Int) := Int.mul_pos (by omega) (by omega)
  by_cases hf : Mn.Fit ((-(x : Int)) * (y : Int))
  · rw [both_fit hf]
    obtain ⟨hf0, hf1⟩ := hf
    have hq : ¬ 9223372036854775808 / (y : Int) < (x : Int) := by
      have := HQ.out
      omega
    go_enter Tryd.func16, Tryd.ntmps16
    go_wp2_with fail
    refine (size_any _ _ HA.out).mono ?_
    rintro e w1 ⟨rfl, hw1⟩
    subst hw1
    rw [Int.natAbs_neg, Int.natAbs_natCast]
    go_wp2_with fail
    refine (size_any _ _ HB.out).mono ?_
    rintro e w2 ⟨rfl, hw2⟩
    subst hw2
    rw [Int.natAbs_natCast]
    go_wp2
    go_ret2
    exact ⟨by rw [hmul]; rfl, rfl⟩
  · rw [both_not hf]
    have hq : 9223372036854775808 / (y : Int) < (x : Int) := by
      have := HQ.out
      unfold Mn.Fit at hf
      omega
    clear hf
    go_enter Tryd.func16, Tryd.ntmps16
    go_wp2_with fail
    refine (size_any _ _ HA.out).mono ?_
    rintro e w1 ⟨rfl, hw1⟩
    subst hw1
    rw [Int.natAbs_neg, Int.natAbs_natCast]
    go_wp2_with fail
    refine (size_any _ _ HB.out).mono ?_
    rintro e w2 ⟨rfl, hw2⟩
    subst hw2
    rw [Int.natAbs_natCast]
    go_wp2
    go_ret2
    exact ⟨rfl, rfl⟩
set_option maxHeartbeats 1000000 in
theorem refMul_nn (x y : Nat) (w : World) (hx : 0 < x) (hy : 0 < y) (ha : Mn.Fit (-(x : Int))) (hb : Mn.Fit (-(y : Int))) :
    Calls Tryd.prog 16 #[.int .i64 (-(x : Int)), .int .i64 (-(y : Int))] w fun e w' => e = both (Mn.amt ((-(x : Int)) * (-(y : Int)))) (Mn.err ((-(x : Int)) * (-(y : Int)))) ∧ w' = w := by
  have HA := Lib.hid ha
  have HB := Lib.hid hb
  obtain ⟨ha0, ha1⟩ := ha
  obtain ⟨hb0, hb1⟩ := hb
  have HQ := Lib.hid (div_lt 9223372036854775807 x y hy)
  have hx0 : ((x : Int) == 0) = false := beq_eq_false_iff_ne.2 (by omega)
  have hy0 : ((y : Int) == 0) = false := beq_eq_false_iff_ne.2 (by omega)
  have hmul := Int.neg_mul_neg (x : Int) (y : Int)
  have hpos : 0 < (x : Int) * (y : Int) := Int.mul_pos (by omega) (by omega)
  by_cases hf : Mn.Fit ((-(x : Int)) * (-(y : Int)))
  · rw [both_fit hf]
    obtain ⟨hf0, hf1⟩ := hf
    have hq : ¬ 9223372036854775807 / (y : Int) < (x : Int) := by
      have := HQ.out
      omega
    go_enter Tryd.func16, Tryd.ntmps16
    go_wp2_with fail
    refine (size_any _ _ HA.out).mono ?_
    rintro e w1 ⟨rfl, hw1⟩
    subst hw1
    rw [Int.natAbs_neg, Int.natAbs_natCast]
    go_wp2_with fail
    refine (size_any _ _ HB.out).mono ?_
    rintro e w2 ⟨rfl, hw2⟩
    subst hw2
    rw [Int.natAbs_neg, Int.natAbs_natCast]
    go_wp2
    go_ret2
    exact ⟨by rw [hmul]; rfl, rfl⟩
  · rw [both_not hf]
    have hq : 9223372036854775807 / (y : Int) < (x : Int) := by
      have := HQ.out
      unfold Mn.Fit at hf
      omega
    clear hf
    go_enter Tryd.func16, Tryd.ntmps16
    go_wp2_with fail
    refine (size_any _ _ HA.out).mono ?_
    rintro e w1 ⟨rfl, hw1⟩
    subst hw1
    rw [Int.natAbs_neg, Int.natAbs_natCast]
    go_wp2_with fail
    refine (size_any _ _ HB.out).mono ?_
    rintro e w2 ⟨rfl, hw2⟩
    subst hw2
    rw [Int.natAbs_neg, Int.natAbs_natCast]
    go_wp2
    go_ret2
    exact ⟨rfl, rfl⟩
set_option maxHeartbeats 1000000 in
theorem refMul_any (a b : Int) (w : World) (ha : Mn.Fit a) (hb : Mn.Fit b) :
    Calls Tryd.prog 16 #[.int .i64 a, .int .i64 b] w fun e w' => e = both (Mn.amt (a * b)) (Mn.err (a * b)) ∧ w' = w := by
  have HA := Lib.hid ha
  have HB := Lib.hid hb
  clear ha hb
  by_cases h0 : a = 0 ∨ b = 0
  · have hf : a * b = 0 := by
      rcases h0 with rfl | rfl
      · exact Int.zero_mul _
      · exact Int.mul_zero _
    rw [hf, both_fit ⟨by omega, by omega⟩]
    clear hf
    go_enter Tryd.func16, Tryd.ntmps16
    go_wp2_with fail
    refine (size_any a _ HA.out).mono ?_
    rintro e w1 ⟨rfl, hw1⟩
    subst hw1
    go_wp2_with fail
    refine (size_any b _ HB.out).mono ?_
    rintro e w2 ⟨rfl, hw2⟩
    subst hw2
    rcases h0 with rfl | rfl
    · go_wp2
      go_ret2
      exact ⟨rfl, rfl⟩
    · by_cases ha : a = 0
      · subst ha
        go_wp2
        go_ret2
        exact ⟨rfl, rfl⟩
      · obtain ⟨x, hx⟩ : ∃ x : Nat, a.natAbs = x := ⟨_, rfl⟩
        have hx0 : ((x : Int) == 0) = false := beq_eq_false_iff_ne.2 (by omega)
        rw [hx]
        go_wp2
        go_ret2
        exact ⟨rfl, rfl⟩
  have split : ∀ z : Int, z ≠ 0 → ∃ x : Nat, 0 < x ∧ (z = x ∨ z = -(x : Int)) := fun z hz => ⟨z.natAbs, by omega, by omega⟩
  obtain ⟨x, hx, hx1⟩ := split a (fun h => h0 (.inl h))
  obtain ⟨y, hy, hy1⟩ := split b (fun h => h0 (.inr h))
  clear h0 split
  rcases hx1 with rfl | rfl
  · rcases hy1 with rfl | rfl
    · exact refMul_pp x y w hx hy HA.out HB.out
    · exact refMul_pn x y w hx hy HA.out HB.out
  · rcases hy1 with rfl | rfl
    · exact refMul_np x y w hx hy HA.out HB.out
    · exact refMul_nn x y w hx hy HA.out HB.out
end Go.Proofs.YtagofjnckdhopaaDoor
