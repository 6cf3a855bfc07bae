/- THE WALK OF MoneyUndoes. -/
import Derived.Test.YtagofjnckdhopaaDoorMRuns
namespace Go.Proofs.YtagofjnckdhopaaDoor
open Go.RowKit

theorem fit_in {a : Int} (h : (Lit.int .i64 a).wf = true) : Mn.Fit a := by
  simpa [Lit.wf, IntKind.min, IntKind.max, IntKind.signed, IntKind.bits, Mn.Fit] using h
theorem i64_and1 (n : Int) : bits .and .i64 n 1 = n % 2 := by
  have h1 : (BitVec.ofInt 64 1).toNat = 2 ^ 1 - 1 := by decide
  have key : (BitVec.ofInt 64 n &&& BitVec.ofInt 64 1).toNat = (n % ((2 ^ 64 : Nat) : Int)).toNat % 2 ^ 1 := by
    rw [BitVec.toNat_and, BitVec.toNat_ofInt, h1, Nat.and_two_pow_sub_one_eq_mod]
  show IntKind.i64.wrap ((BitVec.ofInt 64 n &&& BitVec.ofInt 64 1).toNat : Nat) = n % 2
  rw [key, IntKind.wrap_i64]
  omega
theorem and_parity (x y : Nat) : (x &&& y) % 2 = (x % 2) * (y % 2) := by
  have h := Nat.and_mod_two_pow (a := x) (b := y) (n := 1)
  rw [Nat.pow_one] at h
  rw [h]
  rcases Nat.mod_two_eq_zero_or_one x with hx | hx
  · rw [hx]; simp
  · rcases Nat.mod_two_eq_zero_or_one y with hy | hy
    · rw [hx, hy]; decide
    · rw [hx, hy]; decide
theorem wrap_par (c : Int) : IntKind.i64.wrap c % 2 = c % 2 := by
  rw [IntKind.wrap_i64]
  omega
theorem big_par (a : Int) : (a % ((2 ^ 64 : Nat) : Int)).toNat % 2 = (a % 2).toNat := by omega
theorem i64_parity (a b : Int) : (bits .and .i64 a b) % 2 = (a % 2) * (b % 2) := by
  show (IntKind.i64.wrap ((BitVec.ofInt 64 a &&& BitVec.ofInt 64 b).toNat : Nat)) % 2 = _
  rw [BitVec.toNat_and, BitVec.toNat_ofInt, BitVec.toNat_ofInt, wrap_par]
  have h := and_parity (a % ((2 ^ 64 : Nat) : Int)).toNat (b % ((2 ^ 64 : Nat) : Int)).toNat
  rw [big_par, big_par] at h
  generalize (a % ((2 ^ 64 : Nat) : Int)).toNat &&& (b % ((2 ^ 64 : Nat) : Int)).toNat = c at h ⊢
  rcases Int.emod_two_eq a with h1 | h1
  · rw [h1] at h ⊢
    rw [Int.zero_mul]
    simp at h
    omega
  · rcases Int.emod_two_eq b with h2 | h2
    · rw [h1, h2] at h ⊢
      simp at h ⊢
      omega
    · rw [h1, h2] at h ⊢
      simp at h ⊢
      omega
/-- the half of both -/
theorem half_is (a b : Int) : ∃ c d : Int, bits .and .i64 a b = c ∧ bits .and .i64 c 1 = d ∧ 0 ≤ d ∧ d ≤ 1 ∧ a / 2 + b / 2 + d = (a + b) / 2 := by
  refine ⟨_, _, rfl, i64_and1 _, by omega, by omega, ?_⟩
  rw [i64_parity]
  rcases Int.emod_two_eq a with h1 | h1
  · rw [h1, Int.zero_mul]
    omega
  · rcases Int.emod_two_eq b with h2 | h2
    · rw [h1, h2]; omega
    · rw [h1, h2]; omega
set_option maxRecDepth 100000 in
set_option maxHeartbeats 2000000 in
theorem moneyUndoes_walk (a b : Int) (w : World) (ha : (Lit.int .i64 a).wf = true) (hb : (Lit.int .i64 b).wf = true) (ht : Tab w) :
    Calls Tryd.prog 8 #[.int .i64 a, .int .i64 b] w fun e w' => e = .returned (.bool true) ∧ Below w.heap.size w w' := by
  have HA := Lib.hid (fit_in ha)
  have HB := Lib.hid (fit_in hb)
  have HT := Lib.hid ht
  clear ha hb ht
  obtain ⟨c, d, hc, hd, hd0, hd1, hh⟩ := half_is a b
  obtain ⟨r, hr⟩ : ∃ p, both (Mn.amt (a * b)) (Mn.err (a * b)) = both p.1 p.2 := ⟨(_, _), rfl⟩
  obtain ⟨r1, r2⟩ := r
  have HR := Lib.hid hr
  clear hr
  go_enter Tryd.func8, Tryd.ntmps8
  go_wp2_with fail
  refine (sub_any a b _ HA.out HB.out).mono ?_
  rintro e w1 ⟨rfl, hw1⟩
  subst hw1
  by_cases hs : Mn.Fit (a - b)
  · rw [both_fit hs]
    unfold both
    go_wp2_with fail
    refine (add_any (a - b) b _ hs HB.out).mono ?_
    rintro e w1 ⟨rfl, hw1⟩
    subst hw1
    rw [Int.sub_add_cancel, both_fit HA.out]
    unfold both
    clear hs
    go_wp2_with fail
    refine (add_any a b _ HA.out HB.out).mono ?_
    rintro e w1 ⟨rfl, hw1⟩
    subst hw1
    by_cases hf : Mn.Fit (a + b)
    · rw [both_fit hf]
      unfold both
      go_wp2_with fail
      refine (add_any b a _ HB.out HA.out).mono ?_
      rintro e w1 ⟨rfl, hw1⟩
      subst hw1
      rw [Int.add_comm b a, both_fit hf]
      unfold both
      go_wp2_with fail
      refine (mul_any a b _ HA.out HB.out).mono ?_
      rintro e w1 ⟨rfl, hw1⟩
      subst hw1
      rw [HR.out]
      unfold both
      go_wp2_with fail
      refine (mul_any b a _ HB.out HA.out).mono ?_
      rintro e w1 ⟨rfl, hw1⟩
      subst hw1
      rw [Int.mul_comm b a, HR.out]
      unfold both
      obtain ⟨ha0, ha1⟩ := HA.out
      obtain ⟨hb0, hb1⟩ := HB.out
      have HF := Lib.hid hf
      clear hf
      have h1 : ¬ (a + b) / 2 < -4611686018427387904 := by have := HF.out.1; omega
      have h2 : (a + b) / 2 < 4611686018427387904 := by have := HF.out.2; omega
      obtain ⟨hf0, hf1⟩ := HF.out
      go_wp2_with fail
      refine (runs_any _ HT.out).mono ?_
      rintro e w2 ⟨rfl, b2⟩
      have HB2 := Lib.hid b2
      clear b2
      go_wp2_with fail
      go_ret
      exact ⟨rfl, HB2.out⟩
    · rw [both_not hf]
      unfold both
      go_wp2_with fail
      refine (add_any b a _ HB.out HA.out).mono ?_
      rintro e w1 ⟨rfl, hw1⟩
      subst hw1
      rw [Int.add_comm b a, both_not hf]
      unfold both
      go_wp2_with fail
      refine (mul_any a b _ HA.out HB.out).mono ?_
      rintro e w1 ⟨rfl, hw1⟩
      subst hw1
      rw [HR.out]
      unfold both
      go_wp2_with fail
      refine (mul_any b a _ HB.out HA.out).mono ?_
      rintro e w1 ⟨rfl, hw1⟩
      subst hw1
      rw [Int.mul_comm b a, HR.out]
      unfold both
      obtain ⟨ha0, ha1⟩ := HA.out
      obtain ⟨hb0, hb1⟩ := HB.out
      have HF := Lib.hid hf
      clear hf
      by_cases h1 : (a + b) / 2 < -4611686018427387904
      · go_wp2_with fail
        refine (runs_any _ HT.out).mono ?_
        rintro e w2 ⟨rfl, b2⟩
        have HB2 := Lib.hid b2
        clear b2
        go_wp2_with fail
        go_ret
        exact ⟨rfl, HB2.out⟩
      · have h2 : ¬ (a + b) / 2 < 4611686018427387904 := by
          intro h
          exact HF.out ⟨by omega, by omega⟩
        go_wp2_with fail
        refine (runs_any _ HT.out).mono ?_
        rintro e w2 ⟨rfl, b2⟩
        have HB2 := Lib.hid b2
        clear b2
        go_wp2_with fail
        go_ret
        exact ⟨ret_bool (by rw [decide_eq_false (p := (a + b) / 2 < 4611686018427387904) (by omega)]; rfl), HB2.out⟩
  · rw [both_not hs]
    unfold both
    clear hs
    go_wp2_with fail
    refine (add_any a b _ HA.out HB.out).mono ?_
    rintro e w1 ⟨rfl, hw1⟩
    subst hw1
    by_cases hf : Mn.Fit (a + b)
    · rw [both_fit hf]
      unfold both
      go_wp2_with fail
      refine (add_any b a _ HB.out HA.out).mono ?_
      rintro e w1 ⟨rfl, hw1⟩
      subst hw1
      rw [Int.add_comm b a, both_fit hf]
      unfold both
      go_wp2_with fail
      refine (mul_any a b _ HA.out HB.out).mono ?_
      rintro e w1 ⟨rfl, hw1⟩
      subst hw1
      rw [HR.out]
      unfold both
      go_wp2_with fail
      refine (mul_any b a _ HB.out HA.out).mono ?_
      rintro e w1 ⟨rfl, hw1⟩
      subst hw1
      rw [Int.mul_comm b a, HR.out]
      unfold both
      obtain ⟨ha0, ha1⟩ := HA.out
      obtain ⟨hb0, hb1⟩ := HB.out
      have HF := Lib.hid hf
      clear hf
      have h1 : ¬ (a + b) / 2 < -4611686018427387904 := by have := HF.out.1; omega
      have h2 : (a + b) / 2 < 4611686018427387904 := by have := HF.out.2; omega
      obtain ⟨hf0, hf1⟩ := HF.out
      go_wp2_with fail
      refine (runs_any _ HT.out).mono ?_
      rintro e w2 ⟨rfl, b2⟩
      have HB2 := Lib.hid b2
      clear b2
      go_wp2_with fail
      go_ret
      exact ⟨rfl, HB2.out⟩
    · rw [both_not hf]
      unfold both
      go_wp2_with fail
      refine (add_any b a _ HB.out HA.out).mono ?_
      rintro e w1 ⟨rfl, hw1⟩
      subst hw1
      rw [Int.add_comm b a, both_not hf]
      unfold both
      go_wp2_with fail
      refine (mul_any a b _ HA.out HB.out).mono ?_
      rintro e w1 ⟨rfl, hw1⟩
      subst hw1
      rw [HR.out]
      unfold both
      go_wp2_with fail
      refine (mul_any b a _ HB.out HA.out).mono ?_
      rintro e w1 ⟨rfl, hw1⟩
      subst hw1
      rw [Int.mul_comm b a, HR.out]
      unfold both
      obtain ⟨ha0, ha1⟩ := HA.out
      obtain ⟨hb0, hb1⟩ := HB.out
      have HF := Lib.hid hf
      clear hf
      by_cases h1 : (a + b) / 2 < -4611686018427387904
      · go_wp2_with fail
        refine (runs_any _ HT.out).mono ?_
        rintro e w2 ⟨rfl, b2⟩
        have HB2 := Lib.hid b2
        clear b2
        go_wp2_with fail
        go_ret
        exact ⟨rfl, HB2.out⟩
      · have h2 : ¬ (a + b) / 2 < 4611686018427387904 := by
          intro h
          exact HF.out ⟨by omega, by omega⟩
        go_wp2_with fail
        refine (runs_any _ HT.out).mono ?_
        rintro e w2 ⟨rfl, b2⟩
        have HB2 := Lib.hid b2
        clear b2
        go_wp2_with fail
        go_ret
        exact ⟨ret_bool (by rw [decide_eq_false (p := (a + b) / 2 < 4611686018427387904) (by omega)]; rfl), HB2.out⟩
end Go.Proofs.YtagofjnckdhopaaDoor
