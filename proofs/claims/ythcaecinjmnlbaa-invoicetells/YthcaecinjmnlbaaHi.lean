/- MERGED: RefMonN, RefRateN. (By mg11.py.) -/
import Derived.Test.YthcaecinjmnlbaaHg
/- THE DOCUMENT's OWN ANSWER: impostref3's Add, Sub, size, Mul. -/
namespace Go.Proofs.Ythcaecinjmnlbaa
open Go.RowKit

theorem refAdd_any (a b : Int) (w : World) (ha : Mn.Fit a) (hb : Mn.Fit b) :
    Calls Try.prog 33 #[.int .i64 a, .int .i64 b] w fun e w' => e = both (Mn.amt (a + b)) (Mn.err (a + b)) ∧ w' = w := by
  obtain ⟨ha0, ha1⟩ := ha
  obtain ⟨hb0, hb1⟩ := hb
  go_enter Try.func33, Try.ntmps33
  by_cases hf : Mn.Fit (a + b)
  · rw [both_fit hf]
    obtain ⟨hf0, hf1⟩ := hf
    by_cases h1 : 0 < b
    · have h2 : ¬ 9223372036854775807 - b < a := by omega
      have h3 : ¬ b < 0 := by omega
      go_wp2
      go_ret2
      exact ⟨rfl, rfl⟩
    · by_cases h3 : b < 0
      · have h2 : ¬ a < -9223372036854775808 - b := by omega
        go_wp2
        go_ret2
        exact ⟨rfl, rfl⟩
      · go_wp2
        go_ret2
        exact ⟨rfl, rfl⟩
  · rw [both_not hf]
    by_cases h1 : 0 < b
    · have h2 : 9223372036854775807 - b < a := by unfold Mn.Fit at hf; omega
      clear hf
      go_wp2
      go_ret2
      exact ⟨rfl, rfl⟩
    · have h3 : b < 0 := by unfold Mn.Fit at hf; omega
      have h2 : a < -9223372036854775808 - b := by unfold Mn.Fit at hf; omega
      clear hf
      go_wp2
      go_ret2
      exact ⟨rfl, rfl⟩
theorem refSub_any (a b : Int) (w : World) (ha : Mn.Fit a) (hb : Mn.Fit b) :
    Calls Try.prog 39 #[.int .i64 a, .int .i64 b] w fun e w' => e = both (Mn.amt (a - b)) (Mn.err (a - b)) ∧ w' = w := by
  obtain ⟨ha0, ha1⟩ := ha
  obtain ⟨hb0, hb1⟩ := hb
  go_enter Try.func39, Try.ntmps39
  by_cases hf : Mn.Fit (a - b)
  · rw [both_fit hf]
    obtain ⟨hf0, hf1⟩ := hf
    by_cases h1 : 0 < b
    · have h2 : ¬ a < -9223372036854775808 + b := by omega
      have h3 : ¬ b < 0 := by omega
      go_wp2
      go_ret2
      exact ⟨rfl, rfl⟩
    · by_cases h3 : b < 0
      · have h2 : ¬ 9223372036854775807 + b < a := by omega
        go_wp2
        go_ret2
        exact ⟨rfl, rfl⟩
      · go_wp2
        go_ret2
        exact ⟨rfl, rfl⟩
  · rw [both_not hf]
    by_cases h1 : 0 < b
    · have h2 : a < -9223372036854775808 + b := by unfold Mn.Fit at hf; omega
      clear hf
      go_wp2
      go_ret2
      exact ⟨rfl, rfl⟩
    · have h3 : b < 0 := by unfold Mn.Fit at hf; omega
      have h2 : 9223372036854775807 + b < a := by unfold Mn.Fit at hf; omega
      clear hf
      go_wp2
      go_ret2
      exact ⟨rfl, rfl⟩
theorem size_any (a : Int) (w : World) (ha : Mn.Fit a) :
    Calls Try.prog 54 #[.int .i64 a] w fun e w' => e = .returned (.int .u64 (a.natAbs : Int)) ∧ w' = w := by
  obtain ⟨ha0, ha1⟩ := ha
  go_enter Try.func54, Try.ntmps54
  by_cases h : a < 0
  · go_wp2
    go_ret
    exact ⟨ret_u64 (by omega), rfl⟩
  · go_wp2
    go_ret
    exact ⟨ret_u64 (by omega), rfl⟩
theorem div_lt (B : Int) (x y : Nat) (hy : 0 < y) : B / (y : Int) < (x : Int) ↔ B < (x : Int) * (y : Int) := Int.ediv_lt_iff_lt_mul (by omega)
set_option maxHeartbeats 1000000 in
theorem refMul_pp (x y : Nat) (w : World) (hx : 0 < x) (hy : 0 < y) (ha : Mn.Fit (x : Int)) (hb : Mn.Fit (y : Int)) :
    Calls Try.prog 32 #[.int .i64 (x : Int), .int .i64 (y : Int)] w fun e w' => e = both (Mn.amt ((x : Int) * (y : Int))) (Mn.err ((x : Int) * (y : Int))) ∧ w' = w := by
  have HA := Lib.hid ha
  have HB := Lib.hid hb
  obtain ⟨ha0, ha1⟩ := ha
  obtain ⟨hb0, hb1⟩ := hb
  have HQ := Lib.hid (div_lt 9223372036854775807 x y hy)
  have hx0 : ((x : Int) == 0) = false := beq_eq_false_iff_ne.2 (by omega)
  have hy0 : ((y : Int) == 0) = false := beq_eq_false_iff_ne.2 (by omega)
  have hpos : 0 < (x : Int) * (y : Int) := Int.mul_pos (by omega) (by omega)
  by_cases hf : Mn.Fit ((x : Int) * (y : Int))
  · rw [both_fit hf]
    obtain ⟨hf0, hf1⟩ := hf
    have hq : ¬ 9223372036854775807 / (y : Int) < (x : Int) := by
      have := HQ.out
      omega
    go_enter Try.func32, Try.ntmps32
    go_wp2_with fail
    refine (size_any _ _ HA.out).mono ?_
    rintro e w1 ⟨rfl, hw1⟩
    subst hw1
    rw [Int.natAbs_natCast]
    go_wp2_with fail
    refine (size_any _ _ HB.out).mono ?_
    rintro e w2 ⟨rfl, hw2⟩
    subst hw2
    rw [Int.natAbs_natCast]
    go_wp2
    go_ret2
    exact ⟨rfl, rfl⟩
  · rw [both_not hf]
    have hq : 9223372036854775807 / (y : Int) < (x : Int) := by
      have := HQ.out
      unfold Mn.Fit at hf
      omega
    clear hf
    go_enter Try.func32, Try.ntmps32
    go_wp2_with fail
    refine (size_any _ _ HA.out).mono ?_
    rintro e w1 ⟨rfl, hw1⟩
    subst hw1
    rw [Int.natAbs_natCast]
    go_wp2_with fail
    refine (size_any _ _ HB.out).mono ?_
    rintro e w2 ⟨rfl, hw2⟩
    subst hw2
    rw [Int.natAbs_natCast]
    go_wp2
    go_ret2
    exact ⟨rfl, rfl⟩
set_option maxHeartbeats 1000000 in
theorem refMul_pn (x y : Nat) (w : World) (hx : 0 < x) (hy : 0 < y) (ha : Mn.Fit (x : Int)) (hb : Mn.Fit (-(y : Int))) :
    Calls Try.prog 32 #[.int .i64 (x : Int), .int .i64 (-(y : Int))] w fun e w' => e = both (Mn.amt ((x : Int) * (-(y : Int)))) (Mn.err ((x : Int) * (-(y : Int)))) ∧ w' = w := by
  have HA := Lib.hid ha
  have HB := Lib.hid hb
  obtain ⟨ha0, ha1⟩ := ha
  obtain ⟨hb0, hb1⟩ := hb
  have HQ := Lib.hid (div_lt 9223372036854775808 x y hy)
  have hx0 : ((x : Int) == 0) = false := beq_eq_false_iff_ne.2 (by omega)
  have hy0 : ((y : Int) == 0) = false := beq_eq_false_iff_ne.2 (by omega)
  have hmul := Int.mul_neg (x : Int) (y : Int)
  have hpos : 0 < (x : Int) * (y : Int) := Int.mul_pos (by omega) (by omega)
  by_cases hf : Mn.Fit ((x : Int) * (-(y : Int)))
  · rw [both_fit hf]
    obtain ⟨hf0, hf1⟩ := hf
    have hq : ¬ 9223372036854775808 / (y : Int) < (x : Int) := by
      have := HQ.out
      omega
    go_enter Try.func32, Try.ntmps32
    go_wp2_with fail
    refine (size_any _ _ HA.out).mono ?_
    rintro e w1 ⟨rfl, hw1⟩
    subst hw1
    rw [Int.natAbs_natCast]
    go_wp2_with fail
    refine (size_any _ _ HB.out).mono ?_
    rintro e w2 ⟨rfl, hw2⟩
    subst hw2
    rw [Int.natAbs_neg, Int.natAbs_natCast]
    go_wp2
    go_ret2
    exact ⟨by rw [hmul]; rfl, rfl⟩
  · rw [both_not hf]
    have hq : 9223372036854775808 / (y : Int) < (x : Int) := by
      have := HQ.out
      unfold Mn.Fit at hf
      omega
    clear hf
    go_enter Try.func32, Try.ntmps32
    go_wp2_with fail
    refine (size_any _ _ HA.out).mono ?_
    rintro e w1 ⟨rfl, hw1⟩
    subst hw1
    rw [Int.natAbs_natCast]
    go_wp2_with fail
    refine (size_any _ _ HB.out).mono ?_
    rintro e w2 ⟨rfl, hw2⟩
    subst hw2
    rw [Int.natAbs_neg, Int.natAbs_natCast]
    go_wp2
    go_ret2
    exact ⟨rfl, rfl⟩
set_option maxHeartbeats 1000000 in
theorem refMul_np (x y : Nat) (w : World) (hx : 0 < x) (hy : 0 < y) (ha : Mn.Fit (-(x : Int))) (hb : Mn.Fit (y : Int)) :
    Calls Try.prog 32 #[.int .i64 (-(x : Int)), .int .i64 (y : Int)] w fun e w' => e = both (Mn.amt ((-(x : Int)) * (y : Int))) (Mn.err ((-(x : Int)) * (y : Int))) ∧ w' = w := by
  have HA := Lib.hid ha
  have HB := Lib.hid hb
  obtain ⟨ha0, ha1⟩ := ha
  obtain ⟨hb0, hb1⟩ := hb
  have HQ := Lib.hid (div_lt 9223372036854775808 x y hy)
  have hx0 : ((x : Int) == 0) = false := beq_eq_false_iff_ne.2 (by omega)
  have hy0 : ((y : Int) == 0) = false := beq_eq_false_iff_ne.2 (by omega)
  have hmul := Int.neg_mul (x : Int) (y : Int)
  have hpos : 0 < (x : Int) * (y : Int) := Int.mul_pos (by omega) (by omega)
  by_cases hf : Mn.Fit ((-(x : Int)) * (y : Int))
  · rw [both_fit hf]
    obtain ⟨hf0, hf1⟩ := hf
    have hq : ¬ 9223372036854775808 / (y : Int) < (x : Int) := by
      have := HQ.out
      omega
    go_enter Try.func32, Try.ntmps32
    go_wp2_with fail
    refine (size_any _ _ HA.out).mono ?_
    rintro e w1 ⟨rfl, hw1⟩
    subst hw1
    rw [Int.natAbs_neg, Int.natAbs_natCast]
    go_wp2_with fail
    refine (size_any _ _ HB.out).mono ?_
    rintro e w2 ⟨rfl, hw2⟩
    subst hw2
    rw [Int.natAbs_natCast]
    go_wp2
    go_ret2
    exact ⟨by rw [hmul]; rfl, rfl⟩
  · rw [both_not hf]
    have hq : 9223372036854775808 / (y : Int) < (x : Int) := by
      have := HQ.out
      unfold Mn.Fit at hf
      omega
    clear hf
    go_enter Try.func32, Try.ntmps32
    go_wp2_with fail
    refine (size_any _ _ HA.out).mono ?_
    rintro e w1 ⟨rfl, hw1⟩
    subst hw1
    rw [Int.natAbs_neg, Int.natAbs_natCast]
    go_wp2_with fail
    refine (size_any _ _ HB.out).mono ?_
    rintro e w2 ⟨rfl, hw2⟩
    subst hw2
    rw [Int.natAbs_natCast]
    go_wp2
    go_ret2
    exact ⟨rfl, rfl⟩
set_option maxHeartbeats 1000000 in
theorem refMul_nn (x y : Nat) (w : World) (hx : 0 < x) (hy : 0 < y) (ha : Mn.Fit (-(x : Int))) (hb : Mn.Fit (-(y : Int))) :
    Calls Try.prog 32 #[.int .i64 (-(x : Int)), .int .i64 (-(y : Int))] w fun e w' => e = both (Mn.amt ((-(x : Int)) * (-(y : Int)))) (Mn.err ((-(x : Int)) * (-(y : Int)))) ∧ w' = w := by
  have HA := Lib.hid ha
  have HB := Lib.hid hb
  obtain ⟨ha0, ha1⟩ := ha
  obtain ⟨hb0, hb1⟩ := hb
  have HQ := Lib.hid (div_lt 9223372036854775807 x y hy)
  have hx0 : ((x : Int) == 0) = false := beq_eq_false_iff_ne.2 (by omega)
  have hy0 : ((y : Int) == 0) = false := beq_eq_false_iff_ne.2 (by omega)
  have hmul := Int.neg_mul_neg (x : Int) (y : Int)
  have hpos : 0 < (x : Int) * (y : Int) := Int.mul_pos (by omega) (by omega)
  by_cases hf : Mn.Fit ((-(x : Int)) * (-(y : Int)))
  · rw [both_fit hf]
    obtain ⟨hf0, hf1⟩ := hf
    have hq : ¬ 9223372036854775807 / (y : Int) < (x : Int) := by
      have := HQ.out
      omega
    go_enter Try.func32, Try.ntmps32
    go_wp2_with fail
    refine (size_any _ _ HA.out).mono ?_
    rintro e w1 ⟨rfl, hw1⟩
    subst hw1
    rw [Int.natAbs_neg, Int.natAbs_natCast]
    go_wp2_with fail
    refine (size_any _ _ HB.out).mono ?_
    rintro e w2 ⟨rfl, hw2⟩
    subst hw2
    rw [Int.natAbs_neg, Int.natAbs_natCast]
    go_wp2
    go_ret2
    exact ⟨by rw [hmul]; rfl, rfl⟩
  · rw [both_not hf]
    have hq : 9223372036854775807 / (y : Int) < (x : Int) := by
      have := HQ.out
      unfold Mn.Fit at hf
      omega
    clear hf
    go_enter Try.func32, Try.ntmps32
    go_wp2_with fail
    refine (size_any _ _ HA.out).mono ?_
    rintro e w1 ⟨rfl, hw1⟩
    subst hw1
    rw [Int.natAbs_neg, Int.natAbs_natCast]
    go_wp2_with fail
    refine (size_any _ _ HB.out).mono ?_
    rintro e w2 ⟨rfl, hw2⟩
    subst hw2
    rw [Int.natAbs_neg, Int.natAbs_natCast]
    go_wp2
    go_ret2
    exact ⟨rfl, rfl⟩
set_option maxHeartbeats 1000000 in
theorem refMul_any (a b : Int) (w : World) (ha : Mn.Fit a) (hb : Mn.Fit b) :
    Calls Try.prog 32 #[.int .i64 a, .int .i64 b] w fun e w' => e = both (Mn.amt (a * b)) (Mn.err (a * b)) ∧ w' = w := by
  have HA := Lib.hid ha
  have HB := Lib.hid hb
  clear ha hb
  by_cases h0 : a = 0 ∨ b = 0
  · have hf : a * b = 0 := by
      rcases h0 with rfl | rfl
      · exact Int.zero_mul _
      · exact Int.mul_zero _
    rw [hf, both_fit ⟨by omega, by omega⟩]
    clear hf
    go_enter Try.func32, Try.ntmps32
    go_wp2_with fail
    refine (size_any a _ HA.out).mono ?_
    rintro e w1 ⟨rfl, hw1⟩
    subst hw1
    go_wp2_with fail
    refine (size_any b _ HB.out).mono ?_
    rintro e w2 ⟨rfl, hw2⟩
    subst hw2
    rcases h0 with rfl | rfl
    · go_wp2
      go_ret2
      exact ⟨rfl, rfl⟩
    · by_cases ha : a = 0
      · subst ha
        go_wp2
        go_ret2
        exact ⟨rfl, rfl⟩
      · obtain ⟨x, hx⟩ : ∃ x : Nat, a.natAbs = x := ⟨_, rfl⟩
        have hx0 : ((x : Int) == 0) = false := beq_eq_false_iff_ne.2 (by omega)
        rw [hx]
        go_wp2
        go_ret2
        exact ⟨rfl, rfl⟩
  have split : ∀ z : Int, z ≠ 0 → ∃ x : Nat, 0 < x ∧ (z = x ∨ z = -(x : Int)) := fun z hz => ⟨z.natAbs, by omega, by omega⟩
  obtain ⟨x, hx, hx1⟩ := split a (fun h => h0 (.inl h))
  obtain ⟨y, hy, hy1⟩ := split b (fun h => h0 (.inr h))
  clear h0 split
  rcases hx1 with rfl | rfl
  · rcases hy1 with rfl | rfl
    · exact refMul_pp x y w hx hy HA.out HB.out
    · exact refMul_pn x y w hx hy HA.out HB.out
  · rcases hy1 with rfl | rfl
    · exact refMul_np x y w hx hy HA.out HB.out
    · exact refMul_nn x y w hx hy HA.out HB.out
end Go.Proofs.Ythcaecinjmnlbaa

/- THE DOCUMENT's OWN ANSWER: impostref3's size, Tax, Within. -/
namespace Go.Proofs.Ythcaecinjmnlbaa
open Go.RowKit

theorem val_fit {n : Int} {bp all s : Nat} (h : Sh.sh n.natAbs bp all = s) (hs : s ≤ 9223372036854775807) : both (Sh.val n bp all) (Sh.why n bp all) = both (Sh.side n s) 0 := by
  unfold Sh.val Sh.why
  rw [h, if_pos hs, if_pos hs]
theorem val_not {n : Int} {bp all s : Nat} (h : Sh.sh n.natAbs bp all = s) (hs : ¬ s ≤ 9223372036854775807) : both (Sh.val n bp all) (Sh.why n bp all) = both 0 7 := by
  unfold Sh.val Sh.why
  rw [h, if_neg hs, if_neg hs]
set_option maxHeartbeats 1000000 in
theorem refTax_right (n : Int) (b : Nat) (w : World) (hn : Fit n) (hb : b ≤ 100000) :
    Calls Try.prog 34 #[.int .i64 n, .int .i64 b] w fun e w' => e = both (Sh.val n b 10000) (Sh.why n b 10000) ∧ w' = w := by
  have HN := Lib.hid hn
  obtain ⟨hn0, hn1⟩ := hn
  have hs := Sh.sh_split n.natAbs b 10000 (by omega)
  have hl := Sh.last_le (n.natAbs % 10000) b 10000 (Nat.mod_lt _ (by omega))
  rw [show 2 * 10000 = 20000 from rfl, Sh.sh_half] at hs hl
  obtain ⟨u, hu⟩ : ∃ u, n.natAbs = u := ⟨_, rfl⟩
  have hq : (u : Int) / 10000 = ((u / 10000 : Nat) : Int) := by omega
  have hr : (u : Int) % 10000 = ((u % 10000 : Nat) : Int) := by omega
  have hr1 : u % 10000 < 10000 := Nat.mod_lt _ (by omega)
  have hq1 : u / 10000 ≤ 922337203685477 := by omega
  have hm : (u % 10000) * b ≤ 10000 * 100000 := Nat.mul_le_mul (by omega) hb
  rw [hu] at hl
  have hs' := hs
  rw [hu] at hs'
  generalize u / 10000 = q at hs' hq hq1
  generalize u % 10000 = r at hs' hl hr hr1 hm
  have hm2 : ((r * b : Nat) : Int) = (r : Int) * (b : Int) := Int.natCast_mul _ _
  have hm1 : (r : Int) * (b : Int) ≤ 1000000000 := by omega
  have hm0 : 0 ≤ (r : Int) * (b : Int) := Int.mul_nonneg (by omega) (by omega)
  have hlast : ((r : Int) * (b : Int) + 5000) / 10000 = (((r * b + 5000) / 10000 : Nat) : Int) := by omega
  generalize (r * b + 5000) / 10000 = l at hs' hl hlast
  have hp : ((q * b : Nat) : Int) = (q : Int) * (b : Int) := Int.natCast_mul _ _
  have hp0 : 0 ≤ (q : Int) * (b : Int) := by omega
  have hsh : Sh.sh n.natAbs b 10000 = q * b + l := by rw [hu]; exact hs'
  clear hs hm hm2 hs'
  by_cases hf : q * b + l ≤ 9223372036854775807
  · rw [val_fit hsh hf]
    clear hsh
    have hp1 : (q : Int) * (b : Int) ≤ 9223372036854775807 - l := by omega
    have HE : Hid ((q : Int) * (b : Int) + l = ((q * b + l : Nat) : Int)) := Lib.hid (by omega)
    have hc : 0 < b → ¬ 9223372036854775807 / (b : Int) < (q : Int) := by
      intro h0
      rw [Int.not_lt, Int.le_ediv_iff_mul_le (by omega)]
      omega
    clear hf hp
    have hcc : ¬ 0 < b ∨ (0 < b ∧ ¬ 9223372036854775807 / (b : Int) < (q : Int)) := by
      by_cases h : 0 < b
      · exact .inr ⟨h, hc h⟩
      · exact .inl h
    clear hc
    go_enter Try.func34, Try.ntmps34
    go_wp2_with fail
    refine (size_any _ _ HN.out).mono ?_
    rintro e w1 ⟨rfl, hw1⟩
    subst hw1
    rw [hu]
    clear hu
    by_cases hneg : n < 0
    · have HS : Hid (-((q : Int) * (b : Int) + l) = Sh.side n (q * b + l)) := Lib.hid (by rw [Sh.side, if_pos hneg, ← HE.out])
      rcases hcc with h0 | ⟨h0, hc⟩
      · go_wp2_with fail
        go_ret2
        exact ⟨both_eq HS.out rfl, rfl⟩
      · go_wp2_with fail
        go_ret2
        exact ⟨both_eq HS.out rfl, rfl⟩
    · have HS : Hid ((q : Int) * (b : Int) + l = Sh.side n (q * b + l)) := Lib.hid (by rw [Sh.side, if_neg hneg, ← HE.out])
      rcases hcc with h0 | ⟨h0, hc⟩
      · go_wp2_with fail
        go_ret2
        exact ⟨both_eq HS.out rfl, rfl⟩
      · go_wp2_with fail
        go_ret2
        exact ⟨both_eq HS.out rfl, rfl⟩
  · rw [val_not hsh hf]
    clear hsh
    have h0 : 0 < b := by
      refine Nat.pos_of_ne_zero fun h => ?_
      subst h
      omega
    have hd : 9223372036854775807 / (b : Int) < (q : Int) ↔ 9223372036854775807 < (q : Int) * (b : Int) := Int.ediv_lt_iff_lt_mul (by omega)
    by_cases hc : 9223372036854775807 / (b : Int) < (q : Int)
    · clear hd hf hp
      go_enter Try.func34, Try.ntmps34
      go_wp2_with fail
      refine (size_any _ _ HN.out).mono ?_
      rintro e w1 ⟨rfl, hw1⟩
      subst hw1
      rw [hu]
      clear hu
      go_wp2_with fail
      go_ret2
      exact ⟨rfl, rfl⟩
    · have hp1 : (q : Int) * (b : Int) ≤ 9223372036854775807 := by omega
      have hov : 9223372036854775807 < (q : Int) * (b : Int) + l := by omega
      clear hd hf hp
      go_enter Try.func34, Try.ntmps34
      go_wp2_with fail
      refine (size_any _ _ HN.out).mono ?_
      rintro e w1 ⟨rfl, hw1⟩
      subst hw1
      rw [hu]
      clear hu
      go_wp2_with fail
      go_ret2
      exact ⟨rfl, rfl⟩
theorem refTax_any (n bp : Int) (w : World) (hn : Fit n) (hb : Fit bp) :
    Calls Try.prog 34 #[.int .i64 n, .int .i64 bp] w fun e w' => e = both (Sh.taxV n bp) (Sh.taxE n bp) ∧ w' = w := by
  by_cases h : Sh.Right bp
  · rw [(right_if h n).1]
    obtain ⟨u, rfl⟩ : ∃ u : Nat, bp = u := ⟨bp.toNat, by unfold Sh.Right at h; omega⟩
    rw [Int.toNat_natCast]
    exact refTax_right n u w hn (by unfold Sh.Right at h; omega)
  · rw [(right_not h n).1]
    obtain ⟨hb0, hb1⟩ := hb
    go_enter Try.func34, Try.ntmps34
    by_cases h0 : bp < 0
    · clear h
      go_wp2_with fail
      go_ret2
      exact ⟨rfl, rfl⟩
    · have h1 : 100000 < bp := by unfold Sh.Right at h; omega
      clear h
      go_wp2_with fail
      go_ret2
      exact ⟨rfl, rfl⟩
end Go.Proofs.Ythcaecinjmnlbaa
