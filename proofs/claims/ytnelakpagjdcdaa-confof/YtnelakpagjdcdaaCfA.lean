/- CONTRACTS OF PACKAGE conf: numbers. (By gencfa.py.) -/
import Derived.Test.YtnelakpagjdcdaaCfW
set_option maxRecDepth 100000
set_option linter.unusedVariables false
namespace Go.Proofs.Ytnelakpagjdcdaa.Cf
open Go.RowKit

def hasB (m id : Int) : Bool := decide (0 ≤ id) && (decide (id < 7) && has m id.toNat)
theorem hasB_at (m : Int) (k : Nat) (h : k < 7) : hasB m (k : Int) = has m k := by
  unfold hasB
  rw [decide_eq_true (show (0 : Int) ≤ (k : Int) by omega), decide_eq_true (show (k : Int) < 7 by omega)]
  rfl
theorem and_one (x : Int) : bits .and .i64 x 1 = x % 2 := by
  have e : bits .and .i64 x 1 = IntKind.i64.wrap ((BitVec.ofInt 64 x &&& BitVec.ofInt 64 1).toNat : Nat) := rfl
  have o : (BitVec.ofInt 64 1).toNat = 1 := rfl
  rw [e, BitVec.toNat_and, o, Nat.and_one_is_mod, BitVec.toNat_ofInt, IntKind.wrap_i64]
  omega
theorem has_bit (m : Int) (k : Nat) (h : k < 7) : (bits .and .i64 (m / 2 ^ k) 1 == 1) = has m k := by
  rw [and_one, has_is m k h, Bool.eq_iff_iff]
  simp
theorem cnt_up (m : Int) : cnt m = up (has m) 7 := by
  unfold cnt c7
  simp only [up]
  omega
theorem cnt_le (m : Int) : cnt m ≤ 7 := by
  have h : ∀ b : Bool, b.toNat ≤ 1 := by decide
  unfold cnt c7
  have := h (has m 0)
  have := h (has m 1)
  have := h (has m 2)
  have := h (has m 3)
  have := h (has m 4)
  have := h (has m 5)
  have := h (has m 6)
  omega
theorem up_le (f : Nat → Bool) : ∀ k, up f k ≤ k
  | 0 => Nat.le_refl _
  | k + 1 => by
    have h : ∀ b : Bool, b.toNat ≤ 1 := by decide
    have := h (f k)
    have := up_le f k
    rw [up]
    omega
theorem cf_right (m : Int) (w : World) : Calls Try.prog 16 #[.int .i64 m] w fun e w' => e = .returned (.bool (rightB m)) ∧ w' = w := by
  go_enter Try.func16, Try.ntmps16
  go_wp2
  all_goals go_ret
  all_goals refine ⟨ret_bool ?_, rfl⟩
  all_goals (unfold rightB; rw [Bool.eq_iff_iff]; simp; omega)
theorem rf_right (m : Int) (w : World) : Calls Try.prog 14 #[.int .i64 m] w fun e w' => e = .returned (.bool (rightB m)) ∧ w' = w := by
  go_enter Try.func14, Try.ntmps14
  go_wp2
  all_goals go_ret
  all_goals refine ⟨ret_bool ?_, rfl⟩
  all_goals (unfold rightB; rw [Bool.eq_iff_iff]; simp; omega)
theorem cf_has (m id : Int) (w : World) : Calls Try.prog 17 #[.int .i64 m, .int .i64 id] w fun e w' => e = .returned (.bool (hasB m id)) ∧ w' = w := by
  go_enter Try.func17, Try.ntmps17
  go_wp2
  all_goals go_ret
  all_goals refine ⟨ret_bool ?_, rfl⟩
  · rename_i h1 h2
    rw [has_bit m id.toNat (by omega)]
    unfold hasB
    rw [decide_eq_true h1, decide_eq_true h2]
    rfl
  · rename_i h1 h2
    unfold hasB
    rw [decide_eq_false (show ¬ id < 7 by omega), Bool.false_and, Bool.and_false]
  · rename_i h1
    unfold hasB
    rw [decide_eq_false (show ¬ 0 ≤ id by omega), Bool.false_and]
theorem rf_has (m id : Int) (w : World) : Calls Try.prog 13 #[.int .i64 m, .int .i64 id] w fun e w' => e = .returned (.bool (hasB m id)) ∧ w' = w := by
  go_enter Try.func13, Try.ntmps13
  go_wp2
  all_goals go_ret
  all_goals refine ⟨ret_bool ?_, rfl⟩
  · rename_i h1 h2
    rw [has_bit m id.toNat (by omega)]
    unfold hasB
    rw [decide_eq_true h1, decide_eq_true h2]
    rfl
  · rename_i h1 h2
    unfold hasB
    rw [decide_eq_false (show ¬ id < 7 by omega), Bool.false_and, Bool.and_false]
  · rename_i h1
    unfold hasB
    rw [decide_eq_false (show ¬ 0 ≤ id by omega), Bool.false_and]
theorem cf_count (m : Int) (w : World) : Calls Try.prog 8 #[.int .i64 m] w fun e w' => e = .returned (.int .i64 (cnt m : Int)) ∧ w' = w := by
  go_enter Try.func8, Try.ntmps8
  go_wp2
  go_loopw [3, 4, 5] (fun t _ i wr => ∃ k : Nat, wr = w ∧ k ≤ 7 ∧ i = .int .i64 k ∧ t = .int .i64 (up (has m) k : Nat)) (fun _ _ i _ => 7 - (intOf i).toNat)
  case atStart => exact ⟨0, rfl, by omega, rfl, rfl⟩
  case round =>
    obtain ⟨k, rfl, hk, rfl, rfl⟩ := hrel
    by_cases hlt : k < 7
    · have hlt' : (k : Int) < 7 := by omega
      have hu := up_le (has m) k
      have HU := Lib.hid (up_next (has m) k)
      have CH := Lib.hid (cf_has m k wr)
      rw [hasB_at m k hlt] at CH
      generalize hx : up (has m) k = x at *
      go_wp2_with (go_at_call 17; refine CH.out.mono ?_; rintro e u ⟨rfl, hu'⟩; rw [hu']; clear hu' u)
      all_goals go_roundw
      case rel =>
        rename_i hb
        refine ⟨k + 1, trivial, by omega, by go_num, ?_⟩
        rw [HU.out, hb]
        go_num
      case measure => simp [intOf]; omega
      case rel =>
        rename_i hb
        refine ⟨k + 1, trivial, by omega, by go_num, ?_⟩
        rw [HU.out, hb]
        go_num
      case measure => simp [intOf]; omega
    · obtain rfl : k = 7 := by omega
      go_wp2
      go_ret
      exact ⟨by rw [cnt_up]; rfl, rfl⟩
theorem rf_count (m : Int) (w : World) : Calls Try.prog 15 #[.int .i64 m] w fun e w' => e = .returned (.int .i64 (cnt m : Int)) ∧ w' = w := by
  go_enter Try.func15, Try.ntmps15
  go_wp2
  go_loopw [3, 4] (fun t i wr => ∃ k : Nat, wr = w ∧ k ≤ 7 ∧ i = .int .i64 k ∧ t = .int .i64 (up (has m) k : Nat)) (fun _ i _ => 7 - (intOf i).toNat)
  case atStart => exact ⟨0, rfl, by omega, rfl, rfl⟩
  case round =>
    obtain ⟨k, rfl, hk, rfl, rfl⟩ := hrel
    by_cases hlt : k < 7
    · have hlt' : (k : Int) < 7 := by omega
      have hu := up_le (has m) k
      have HU := Lib.hid (up_next (has m) k)
      have CH := Lib.hid (rf_has m k wr)
      rw [hasB_at m k hlt] at CH
      generalize hx : up (has m) k = x at *
      go_wp2_with (go_at_call 13; refine CH.out.mono ?_; rintro e u ⟨rfl, hu'⟩; rw [hu']; clear hu' u)
      all_goals go_roundw
      case rel =>
        rename_i hb
        refine ⟨k + 1, trivial, by omega, by go_num, ?_⟩
        rw [HU.out, hb]
        go_num
      case measure => simp [intOf]; omega
      case rel =>
        rename_i hb
        refine ⟨k + 1, trivial, by omega, by go_num, ?_⟩
        rw [HU.out, hb]
        go_num
      case measure => simp [intOf]; omega
    · obtain rfl : k = 7 := by omega
      go_wp2
      go_ret
      exact ⟨by rw [cnt_up]; rfl, rfl⟩
set_option maxHeartbeats 400000 in
theorem cf_most (m y : Int) (w : World) : Calls Try.prog 11 #[.int .i64 m, .int .i64 y] w fun e w' => e = .returned (.bool (mostB m y)) ∧ w' = w := by
  have CR := Lib.hid (cf_right m w)
  have C1 := Lib.hid (cf_count (bits .and .i64 m y) w)
  have C2 := Lib.hid (cf_count m w)
  have HE : Hid (mostB m y = (rightB m && decide (cnt m < 2 * cnt (bits .and .i64 m y)))) := Lib.hid rfl
  have h1 := cnt_le m
  have h2 := cnt_le (bits .and .i64 m y)
  generalize rightB m = r at *
  generalize mostB m y = z at *
  generalize cnt m = a at *
  generalize cnt (bits .and .i64 m y) = b at *
  go_enter Try.func11, Try.ntmps11
  go_wp2_with fail
  cases r
  · refine CR.out.mono ?_
    rintro e u ⟨rfl, hu⟩
    rw [hu]
    clear hu u
    go_wp2_with fail
    go_ret
    exact ⟨ret_bool (by rw [HE.out]; rfl), rfl⟩
  · refine CR.out.mono ?_
    rintro e u ⟨rfl, hu⟩
    rw [hu]
    clear hu u
    go_wp2_with fail
    refine C1.out.mono ?_
    rintro e u ⟨rfl, hu⟩
    rw [hu]
    clear hu u
    go_wp2_with fail
    refine C2.out.mono ?_
    rintro e u ⟨rfl, hu⟩
    rw [hu]
    clear hu u
    go_wp2_with fail
    go_ret
    refine ⟨ret_bool ?_, rfl⟩
    rw [HE.out]
    simp
    omega
set_option maxHeartbeats 400000 in
theorem rf_most (m y : Int) (w : World) : Calls Try.prog 18 #[.int .i64 m, .int .i64 y] w fun e w' => e = .returned (.bool (mostB m y)) ∧ w' = w := by
  have CR := Lib.hid (rf_right m w)
  have C1 := Lib.hid (rf_count (bits .and .i64 m y) w)
  have C2 := Lib.hid (rf_count m w)
  have HE : Hid (mostB m y = (rightB m && decide (cnt m < 2 * cnt (bits .and .i64 m y)))) := Lib.hid rfl
  have h1 := cnt_le m
  have h2 := cnt_le (bits .and .i64 m y)
  generalize rightB m = r at *
  generalize mostB m y = z at *
  generalize cnt m = a at *
  generalize cnt (bits .and .i64 m y) = b at *
  go_enter Try.func18, Try.ntmps18
  go_wp2_with fail
  cases r
  · refine CR.out.mono ?_
    rintro e u ⟨rfl, hu⟩
    rw [hu]
    clear hu u
    go_wp2_with fail
    go_ret
    exact ⟨ret_bool (by rw [HE.out]; rfl), rfl⟩
  · refine CR.out.mono ?_
    rintro e u ⟨rfl, hu⟩
    rw [hu]
    clear hu u
    go_wp2_with fail
    refine C1.out.mono ?_
    rintro e u ⟨rfl, hu⟩
    rw [hu]
    clear hu u
    go_wp2_with fail
    refine C2.out.mono ?_
    rintro e u ⟨rfl, hu⟩
    rw [hu]
    clear hu u
    go_wp2_with fail
    go_ret
    refine ⟨ret_bool ?_, rfl⟩
    rw [HE.out]
    simp
    omega
set_option maxHeartbeats 400000 in
theorem cf_may (m n : Int) (w : World) : Calls Try.prog 12 #[.int .i64 m, .int .i64 n] w fun e w' => e = .returned (.bool (mayB m n)) ∧ w' = w := by
  have CR := Lib.hid (cf_right m w)
  have CS := Lib.hid (cf_right n w)
  have C1 := Lib.hid (cf_count (bits .xor .i64 m n) w)
  have HE : Hid (mayB m n = (rightB m && (rightB n && decide (cnt (bits .xor .i64 m n) = 1)))) := Lib.hid rfl
  generalize rightB m = r at *
  generalize rightB n = s at *
  generalize mayB m n = z at *
  generalize cnt (bits .xor .i64 m n) = b at *
  go_enter Try.func12, Try.ntmps12
  go_wp2_with fail
  cases r
  · refine CR.out.mono ?_
    rintro e u ⟨rfl, hu⟩
    rw [hu]
    clear hu u
    go_wp2_with fail
    go_ret
    exact ⟨ret_bool (by rw [HE.out]; rfl), rfl⟩
  cases s
  · refine CR.out.mono ?_
    rintro e u ⟨rfl, hu⟩
    rw [hu]
    clear hu u
    go_wp2_with fail
    refine CS.out.mono ?_
    rintro e u ⟨rfl, hu⟩
    rw [hu]
    clear hu u
    go_wp2_with fail
    go_ret
    exact ⟨ret_bool (by rw [HE.out]; rfl), rfl⟩
  · refine CR.out.mono ?_
    rintro e u ⟨rfl, hu⟩
    rw [hu]
    clear hu u
    go_wp2_with fail
    refine CS.out.mono ?_
    rintro e u ⟨rfl, hu⟩
    rw [hu]
    clear hu u
    go_wp2_with fail
    refine C1.out.mono ?_
    rintro e u ⟨rfl, hu⟩
    rw [hu]
    clear hu u
    go_wp2_with fail
    go_ret
    refine ⟨ret_bool ?_, rfl⟩
    rw [HE.out, Bool.eq_iff_iff]
    simp
    omega
end Go.Proofs.Ytnelakpagjdcdaa.Cf
