/- THE WALK OF DateMonths. -/
import Derived.Test.YtekegbnmmjhfiabDLaws
namespace Go.Proofs.Ytekegbnmmjhfiab
open Go.RowKit

/-- the days of a month that were met ahead of d -/
def met (y m d : Int) : Int := if d ≤ 1 then 0 else if d - 1 ≤ Dt.len y m then d - 1 else Dt.len y m
theorem met_bd (y m d : Int) : 0 ≤ met y m d ∧ met y m d ≤ 31 := by
  have := Dt.len_bd y m
  unfold met
  split
  · omega
  · split <;> omega
theorem met_yes {y m d : Int} (h0 : 1 ≤ d) (h1 : d ≤ Dt.len y m) : met y m d = d - 1 ∧ met y m (d + 1) = d := by
  unfold met
  refine ⟨?_, ?_⟩
  · split
    · omega
    · rw [if_pos (by omega)]
  · rw [if_neg (by omega), if_pos (by omega)]
    omega
theorem met_no {y m d : Int} (h : ¬ (1 ≤ d ∧ d ≤ Dt.len y m)) : met y m (d + 1) = met y m d := by
  have := Dt.len_bd y m
  unfold met
  by_cases h0 : d ≤ 0
  · rw [if_pos (by omega), if_pos (by omega)]
  · by_cases h1 : d = 1
    · subst h1
      rw [if_neg (show ¬ (1 : Int) + 1 ≤ 1 by omega), if_pos (show (1 : Int) ≤ 1 by omega), if_neg (show ¬ (1 : Int) + 1 - 1 ≤ Dt.len y m by omega)]
      omega
    · rw [if_neg (show ¬ d + 1 ≤ 1 by omega), if_neg (show ¬ d ≤ 1 by omega), if_neg (show ¬ d + 1 - 1 ≤ Dt.len y m by omega)]
      split <;> omega
theorem met_all (y m : Int) : met y m 34 = Dt.len y m := by
  have := Dt.len_bd y m
  unfold met
  rw [if_neg (by omega)]
  split <;> omega
theorem cum_lo (y k : Int) (hk : k ≤ 1) : Dt.cum y k = 0 := by
  unfold Dt.cum
  rw [if_pos hk, if_pos (show k ≤ 2 by omega)]
  rfl
theorem cum_hi (y k : Int) (hk : 13 ≤ k) : Dt.cum y k = 365 + Dt.lp y := by
  unfold Dt.cum
  rw [if_neg (show ¬ k ≤ 1 by omega), if_neg (show ¬ k = 2 by omega), if_neg (show ¬ k = 3 by omega), if_neg (show ¬ k = 4 by omega), if_neg (show ¬ k = 5 by omega), if_neg (show ¬ k = 6 by omega), if_neg (show ¬ k = 7 by omega), if_neg (show ¬ k = 8 by omega), if_neg (show ¬ k = 9 by omega), if_neg (show ¬ k = 10 by omega), if_neg (show ¬ k = 11 by omega), if_neg (show ¬ k = 12 by omega), if_neg (show ¬ k ≤ 2 by omega)]
theorem cum_next (y m : Int) : Dt.cum y (m + 1) = Dt.cum y m + Dt.len y m := by
  by_cases h : 1 ≤ m ∧ m ≤ 12
  · exact Dt.cum_succ y m h.1 h.2
  · rw [Dt.len_0 (by omega)]
    by_cases h1 : m ≤ 0
    · rw [cum_lo y _ (by omega), cum_lo y _ (by omega)]
      rfl
    · rw [cum_hi y _ (by omega), cum_hi y _ (by omega)]
      omega
theorem cum_all (y m : Int) : 0 ≤ Dt.cum y m ∧ Dt.cum y m ≤ 366 := by
  have := Dt.lp_01 y
  by_cases h : m ≤ 1
  · rw [cum_lo y m h]; omega
  · by_cases h1 : m ≤ 13
    · exact Dt.cum_bd (by omega) h1
    · rw [cum_hi y m (by omega)]; omega
theorem cum_first (y : Int) : Dt.cum y (-1) = 0 := rfl
theorem cum_last (y : Int) : Dt.cum y 15 = 365 + Dt.lp y := rfl
theorem right_met {y m d : Int} (h0 : 1 ≤ y) (h1 : y ≤ 9999) : Dt.rightB y m d = decide (1 ≤ d ∧ d ≤ Dt.len y m) := by
  unfold Dt.rightB
  rw [Bool.eq_iff_iff, decide_eq_true_iff, decide_eq_true_iff]
  exact ⟨fun h => h.2.2, fun h => ⟨h0, h1, h⟩⟩
set_option maxHeartbeats 4000000 in
theorem dateMonths_walk (a : Int) (w : World) (ha : (Lit.int .i64 a).wf = true) :
    Calls Try.prog 4 #[.int .i64 a] w fun e w' => e = .returned (.bool true) ∧ Below w.heap.size w w' := by
  have Ha := Lib.hid (fit_in ha)
  clear ha
  go_enter Try.func4, Try.ntmps4
  go_wp2_with fail
  refine (bookWithin_any a 1 9999 _ Ha.out (by omega) (by omega) (by omega)).mono ?_
  rintro e wx ⟨⟨y, rfl, hy0, hy1⟩, hx⟩
  replace hx := hx.symm
  subst hx
  go_wp2
  go_loopw [4, 5] (fun v4 v5 wr => ∃ m : Int, -1 ≤ m ∧ m ≤ 15 ∧ v5 = .int .i64 m ∧ v4 = .int .i64 (Dt.cum y m) ∧ Hid (Below w.heap.size w wr)) (fun _ v5 _ => (15 - intOf v5).toNat)
  case atStart => exact ⟨-1, by omega, by omega, rfl, rfl, Below.refl _ _⟩
  case round =>
    obtain ⟨m, hm0, hm1, rfl, rfl, HB⟩ := hrel
    have hcb := cum_all y m
    by_cases hlt : m < 15
    · go_wp2
      go_loopw [4, 6, 7] (fun v4 v6 v7 wr => ∃ d : Int, -1 ≤ d ∧ d ≤ 34 ∧ v7 = .int .i64 d ∧ v6 = .int .i64 (met y m d) ∧ v4 = .int .i64 (Dt.cum y m + met y m d) ∧ Hid (Below w.heap.size w wr)) (fun _ _ v7 _ => (34 - intOf v7).toNat)
      case atStart => exact ⟨-1, by omega, by omega, rfl, rfl, by rw [show met y m (-1) = 0 from rfl, Int.add_zero], HB.out⟩
      case round =>
        rename World => wz
        obtain ⟨d, hd0, hd1, rfl, rfl, rfl, HB⟩ := hrel
        have hmb := met_bd y m d
        by_cases hdl : d < 34
        · go_wp2_with fail
          refine (day_any y m d w _ HB.out).mono ?_
          rintro e w2 ⟨rfl, b2⟩
          have HB2 := Lib.hid b2
          clear b2
          unfold dayV
          go_wp2_with fail
          refine (right_date y m d w _ HB2.out ⟨by omega, by omega⟩ ⟨by omega, by omega⟩ ⟨by omega, by omega⟩).mono ?_
          rintro e w3 ⟨rfl, b3⟩
          have HB3 := Lib.hid b3
          clear b3
          rw [right_met (by omega) (by omega)]
          by_cases hr : 1 ≤ d ∧ d ≤ Dt.len y m
          · rw [decide_eq_true hr]
            obtain ⟨hr0, hr1⟩ := hr
            obtain ⟨e1, e2⟩ := met_yes hr0 hr1
            obtain ⟨hm2, hm3⟩ := Dt.len_month (y := y) (m := m) (by omega)
            have HE2 := Lib.hid e2
            clear e2
            have e3 : (d != d - 1 + 1) = false := by simp
            go_wp2_with fail
            go_roundw
            case rel => exact ⟨d + 1, by omega, by omega, rfl, by rw [HE2.out], by rw [HE2.out]; exact congrArg (Value.int .i64) (by omega), HB3.out⟩
            case measure => simp [intOf]; omega
          · rw [decide_eq_false hr]
            have HE2 := Lib.hid (met_no hr)
            clear hr
            go_wp2_with fail
            go_roundw
            case rel => exact ⟨d + 1, by omega, by omega, rfl, by rw [HE2.out], by rw [HE2.out], HB3.out⟩
            case measure => simp [intOf]; omega
        · obtain rfl : d = 34 := by omega
          have HC := Lib.hid (cum_next y m)
          have HA := Lib.hid (met_all y m)
          go_wp2_with fail
          go_roundw
          case rel => exact ⟨m + 1, by omega, by omega, rfl, by rw [HC.out, HA.out], HB.out⟩
          case measure => simp [intOf]; omega
    · obtain rfl : m = 15 := by omega
      have hlp := Dt.lp_01 (y : Int)
      rw [cum_last]
      go_wp2_with fail
      refine (day_any y 2 29 w _ HB.out).mono ?_
      rintro e w2 ⟨rfl, b2⟩
      have HB2 := Lib.hid b2
      clear b2
      unfold dayV
      go_wp2_with fail
      refine (right_date y 2 29 w _ HB2.out ⟨by omega, by omega⟩ (fit_lit rfl) (fit_lit rfl)).mono ?_
      rintro e w3 ⟨rfl, b3⟩
      have HB3 := Lib.hid b3
      clear b3
      rw [leap_29 (by omega) (by omega)]
      rcases (by omega : Dt.lp (y : Int) = 1 ∨ Dt.lp (y : Int) = 0) with h1 | h1
      · rw [h1]
        go_wp2_with fail
        refine (runs_any w _ HB3.out).mono ?_
        rintro e w4 ⟨rfl, b4⟩
        have HB4 := Lib.hid b4
        clear b4
        go_wp2_with fail
        go_ret
        exact ⟨rfl, HB4.out⟩
      · rw [h1]
        go_wp2_with fail
        refine (runs_any w _ HB3.out).mono ?_
        rintro e w4 ⟨rfl, b4⟩
        have HB4 := Lib.hid b4
        clear b4
        go_wp2_with fail
        go_ret
        exact ⟨rfl, HB4.out⟩
end Go.Proofs.Ytekegbnmmjhfiab
