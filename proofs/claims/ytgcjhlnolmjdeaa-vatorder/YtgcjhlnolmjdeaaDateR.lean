/- CONTRACTS OF PACKAGE date: Right, ahead, Days. -/
import Derived.Test.YtgcjhlnolmjdeaaDateL
namespace Go.Proofs.Ytgcjhlnolmjdeaa
open Go.RowKit

theorem right_years {y m d : Int} (h : 1 ≤ y ∧ y ≤ 9999) : Dt.rightB y m d = decide (1 ≤ d ∧ d ≤ Dt.len y m) := by
  unfold Dt.rightB
  rw [Bool.eq_iff_iff, decide_eq_true_iff, decide_eq_true_iff]
  exact ⟨fun k => k.2.2, fun k => ⟨h.1, h.2, k⟩⟩
theorem right_noyear {y m d : Int} (h : ¬ (1 ≤ y ∧ y ≤ 9999)) : Dt.rightB y m d = false := by
  rw [Bool.eq_false_iff]
  intro k
  rw [Dt.right_iff] at k
  omega
set_option maxHeartbeats 1000000 in
theorem right_date (y m d : Int) (w0 w : World) (hw : Below w0.heap.size w0 w) (_hy : Fit y) (_hm : Fit m) (_hd : Fit d) :
    Calls Try.prog 30 #[dayV y m d] w fun e w' => e = .returned (.bool (Dt.rightB y m d)) ∧ Below w0.heap.size w0 w' := by
  have HW := Lib.hid hw
  clear hw
  unfold dayV
  by_cases h1 : 1 ≤ y ∧ y ≤ 9999
  · have HR := Lib.hid (right_years (m := m) (d := d) h1)
    have hd1 : decide (1 ≤ y ∧ y ≤ 9999) = true := decide_eq_true h1
    go_enter Try.func30, Try.ntmps30
    go_wp2
    go_quiet (first | (go_at_call 38; exact Calls.quiet_of_same (length_date _ _ _ (by omega) (by omega))) | (go_at_call 37; exact Calls.quiet_of_same (within_date _ _ _ _)))
    go_wp2
    go_ret
    exact ⟨ret_bool (by rw [HR.out, Bool.decide_and]), below_drewN (below_box HW.out _) _⟩
  · have HR := Lib.hid (right_noyear (m := m) (d := d) h1)
    have hd1 : decide (1 ≤ y ∧ y ≤ 9999) = false := decide_eq_false h1
    go_enter Try.func30, Try.ntmps30
    go_wp2
    go_quiet (first | (go_at_call 38; exact Calls.quiet_of_same (length_date _ _ _ (by omega) (by omega))) | (go_at_call 37; exact Calls.quiet_of_same (within_date _ _ _ _)))
    go_wp2
    go_ret
    exact ⟨ret_bool HR.out.symm, below_drewN (below_box HW.out _) _⟩
theorem ahead_date (y : Int) (w : World) (h0 : 1 ≤ y) (h1 : y ≤ 10000) :
    Calls Try.prog 45 #[.int .i64 y] w fun e w' => e = .returned (.int .i64 (Dt.yd y)) ∧ w' = w := by
  have HY : Hid (Dt.yd y = (y - 1) * 365 + (y - 1) / 4 - (y - 1) / 100 + (y - 1) / 400) := Lib.hid (by unfold Dt.yd; omega)
  go_enter Try.func45, Try.ntmps45
  go_wp2
  go_ret
  exact ⟨ret_int HY.out.symm, rfl⟩
set_option maxHeartbeats 1000000 in
theorem days_date (y m d : Int) (w0 w : World) (hw : Below w0.heap.size w0 w) (hy : Fit y) (hm : Fit m) (hd : Fit d) :
    Calls Try.prog 39 #[dayV y m d] w fun e w' => e = .returned (.int .i64 (Dt.days y m d)) ∧ Below w0.heap.size w0 w' := by
  have HW := Lib.hid hw
  clear hw
  by_cases h : Dt.rightB y m d = true
  · rw [Dt.days_right h]
    obtain ⟨h1, h2, h3, h4, h5, h6⟩ := Dt.right_bd h
    have hn := Lib.hid (Dt.num_bd h)
    obtain ⟨hy0, hy1⟩ := Dt.yd_bd h1 (show y ≤ 10000 by omega)
    unfold dayV
    go_enter Try.func39, Try.ntmps39
    go_wp2_with fail
    refine (right_date y m d _ _ (Below.refl _ _) hy hm hd).mono ?_
    rintro e w1 ⟨rfl, b1⟩
    have HB1 := Lib.hid ((below_box HW.out _).trans (b1.mono (below_box HW.out _).size))
    obtain ⟨hc, hf⟩ := bcell b1
    clear b1 hy hm hd
    rw [h]
    go_wp2
    go_quiet ((go_at_call 45; exact Calls.quiet_of_same (ahead_date _ _ (by omega) (by omega))))
    go_wp2
    go_loop [3, 4] (fun n i => ∃ k : Int, 1 ≤ k ∧ k ≤ m ∧ i = .int .i64 k ∧ n = .int .i64 (Dt.yd y + d - 1 + Dt.cum y k)) (fun _ i => (m - intOf i).toNat)
    case atStart => exact ⟨1, by omega, h3, rfl, by rw [Dt.cum_1, Int.add_zero]⟩
    case round =>
      obtain ⟨k, hk0, hk1, rfl, rfl⟩ := hrel
      have hcb := Dt.cum_bd (y := y) hk0 (show k ≤ 13 by omega)
      by_cases hlt : k < m
      · have hlb := Dt.len_bd y k
        have HS := Lib.hid (Dt.cum_succ y k hk0 (by omega))
        go_wp2_with fail
        refine (length_date y k _ (by omega) (by omega)).mono ?_
        rintro e w2 ⟨rfl, hw2⟩
        subst hw2
        go_wp2
        go_round
        case rel => exact ⟨k + 1, by omega, by omega, rfl, by rw [HS.out, ← Int.add_assoc]⟩
        case measure => simp [intOf]; omega
      · obtain rfl : k = m := by omega
        go_wp2
        go_ret
        exact ⟨ret_int (by unfold Dt.num; omega), below_drewN HB1.out _⟩
  · have h' : Dt.rightB y m d = false := by simpa using h
    rw [Dt.days_not h']
    unfold dayV
    go_enter Try.func39, Try.ntmps39
    go_wp2_with fail
    refine (right_date y m d w0 _ (below_box HW.out _) hy hm hd).mono ?_
    rintro e w1 ⟨rfl, b1⟩
    have HB1 := Lib.hid b1
    clear b1
    rw [h']
    go_wp2
    go_ret
    exact ⟨rfl, HB1.out⟩
end Go.Proofs.Ytgcjhlnolmjdeaa
