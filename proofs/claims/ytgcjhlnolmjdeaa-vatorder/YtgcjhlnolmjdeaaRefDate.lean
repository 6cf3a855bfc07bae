/- THE DOCUMENT's OWN ANSWER: impostref3's leap, Length, Right, Days. -/
import Derived.Test.YtgcjhlnolmjdeaaDayK
namespace Go.Proofs.Ytgcjhlnolmjdeaa
open Go.RowKit

theorem leap_any (y : Int) (w : World) (h0 : 0 ≤ y) (h1 : y ≤ 10000) :
    Calls Try.prog 43 #[.int .i64 y] w fun e w' => e = .returned (.bool (Dt.leapB y)) ∧ w' = w := by
  go_enter Try.func43, Try.ntmps43
  by_cases a1 : y % 4 = 0
  · by_cases a2 : y % 100 = 0
    · go_wp2
      go_ret
      refine ⟨ret_bool ?_, rfl⟩
      rw [Bool.eq_iff_iff, Dt.leap_iff, beq_iff_eq]
      omega
    · have a3 : (y % 100 != 0) = true := bne_iff_ne.2 a2
      go_wp2
      go_ret
      exact ⟨ret_bool ((Dt.leap_iff y).2 ⟨a1, .inl a2⟩).symm, rfl⟩
  · have a2 : (y % 4 == 0) = false := beq_eq_false_iff_ne.2 a1
    go_wp2
    go_ret
    refine ⟨ret_bool ?_, rfl⟩
    rw [eq_comm, Bool.eq_false_iff]
    intro h
    exact a1 ((Dt.leap_iff y).1 h).1
theorem length_any (y m : Int) (w : World) (h0 : 0 ≤ y) (h1 : y ≤ 10000) :
    Calls Try.prog 35 #[.int .i64 y, .int .i64 m] w fun e w' => e = .returned (.int .i64 (Dt.len y m)) ∧ w' = w := by
  by_cases h : m < 1 ∨ 12 < m
  · have HL := Lib.hid (Dt.len_0 (y := y) h)
    have e1 : (m == 1) = false := beq_eq_false_iff_ne.2 (by omega)
    have e2 : (m == 2) = false := beq_eq_false_iff_ne.2 (by omega)
    have e3 : (m == 3) = false := beq_eq_false_iff_ne.2 (by omega)
    have e4 : (m == 4) = false := beq_eq_false_iff_ne.2 (by omega)
    have e5 : (m == 5) = false := beq_eq_false_iff_ne.2 (by omega)
    have e6 : (m == 6) = false := beq_eq_false_iff_ne.2 (by omega)
    have e7 : (m == 7) = false := beq_eq_false_iff_ne.2 (by omega)
    have e8 : (m == 8) = false := beq_eq_false_iff_ne.2 (by omega)
    have e9 : (m == 9) = false := beq_eq_false_iff_ne.2 (by omega)
    have e10 : (m == 10) = false := beq_eq_false_iff_ne.2 (by omega)
    have e11 : (m == 11) = false := beq_eq_false_iff_ne.2 (by omega)
    have e12 : (m == 12) = false := beq_eq_false_iff_ne.2 (by omega)
    clear h
    go_enter Try.func35, Try.ntmps35
    go_wp2_with fail
    go_ret
    exact ⟨ret_int HL.out.symm, rfl⟩
  · have hm : m = 1 ∨ m = 2 ∨ m = 3 ∨ m = 4 ∨ m = 5 ∨ m = 6 ∨ m = 7 ∨ m = 8 ∨ m = 9 ∨ m = 10 ∨ m = 11 ∨ m = 12 := by omega
    clear h
    by_cases h2 : m = 2
    · subst h2
      clear hm
      by_cases hl : Dt.leapB y = true
      · have HL : Hid (Dt.len y 2 = 29) := Lib.hid (by rw [Dt.len_2, Dt.lp_true hl]; rfl)
        go_enter Try.func35, Try.ntmps35
        go_wp2_with fail
        refine (leap_any y _ h0 h1).mono ?_
        rintro e w1 ⟨rfl, hw1⟩
        subst hw1
        rw [hl]
        go_wp2_with fail
        go_ret
        exact ⟨ret_int HL.out.symm, rfl⟩
      · have hl' : Dt.leapB y = false := by simpa using hl
        have HL : Hid (Dt.len y 2 = 28) := Lib.hid (by rw [Dt.len_2, Dt.lp_false hl']; rfl)
        clear hl
        go_enter Try.func35, Try.ntmps35
        go_wp2_with fail
        refine (leap_any y _ h0 h1).mono ?_
        rintro e w1 ⟨rfl, hw1⟩
        subst hw1
        rw [hl']
        go_wp2_with fail
        go_ret
        exact ⟨ret_int HL.out.symm, rfl⟩
    · by_cases h3 : m = 4 ∨ m = 6 ∨ m = 9 ∨ m = 11
      · have HL := Lib.hid (Dt.len_30 (y := y) h3)
        clear hm h2
        rcases h3 with rfl | rfl | rfl | rfl
        all_goals
          go_enter Try.func35, Try.ntmps35
          go_wp2_with fail
          go_ret
          exact ⟨ret_int HL.out.symm, rfl⟩
      · have h4 : m = 1 ∨ m = 3 ∨ m = 5 ∨ m = 7 ∨ m = 8 ∨ m = 10 ∨ m = 12 := by omega
        have HL := Lib.hid (Dt.len_31 (y := y) h4)
        clear hm h2 h3
        rcases h4 with rfl | rfl | rfl | rfl | rfl | rfl | rfl
        all_goals
          go_enter Try.func35, Try.ntmps35
          go_wp2_with fail
          go_ret
          exact ⟨ret_int HL.out.symm, rfl⟩
set_option maxHeartbeats 1000000 in
theorem refRight_any (y m d : Int) (w0 w : World) (hw : Below w0.heap.size w0 w) :
    Calls Try.prog 25 #[dayV y m d] w fun e w' => e = .returned (.bool (Dt.rightB y m d)) ∧ Below w0.heap.size w0 w' := by
  have HW := Lib.hid hw
  clear hw
  unfold dayV
  by_cases h1 : 1 ≤ y
  · by_cases h2 : y ≤ 9999
    · by_cases h3 : 1 ≤ d
      · have HR := Lib.hid (right_len (m := m) h1 h2 h3)
        go_enter Try.func25, Try.ntmps25
        go_wp2
        go_quiet ((go_at_call 35; exact Calls.quiet_of_same (length_any _ _ _ (by omega) (by omega))))
        go_wp2
        go_ret
        exact ⟨ret_bool HR.out.symm, below_drewN (below_box HW.out _) _⟩
      · have HR := Lib.hid (right_none (y := y) (m := m) (.inr (.inr h3)))
        have hf : decide (1 ≤ d) = false := decide_eq_false h3
        go_enter Try.func25, Try.ntmps25
        go_wp2
        go_quiet (fail)
        go_wp2
        go_ret
        exact ⟨ret_bool HR.out.symm, below_drewN (below_box HW.out _) _⟩
    · have HR := Lib.hid (right_none (m := m) (d := d) (.inr (.inl h2)))
      have hf : decide (y ≤ 9999) = false := decide_eq_false h2
      go_enter Try.func25, Try.ntmps25
      go_wp2
      go_quiet (fail)
      go_wp2
      go_ret
      exact ⟨ret_bool HR.out.symm, below_drewN (below_box HW.out _) _⟩
  · have HR := Lib.hid (right_none (m := m) (d := d) (.inl h1))
    have hf : decide (1 ≤ y) = false := decide_eq_false h1
    go_enter Try.func25, Try.ntmps25
    go_wp2
    go_quiet (fail)
    go_wp2
    go_ret
    exact ⟨ret_bool HR.out.symm, below_drewN (below_box HW.out _) _⟩
set_option maxHeartbeats 1000000 in
theorem refDays_any (y m d : Int) (w0 w : World) (hw : Below w0.heap.size w0 w) :
    Calls Try.prog 26 #[dayV y m d] w fun e w' => e = .returned (.int .i64 (Dt.days y m d)) ∧ Below w0.heap.size w0 w' := by
  have HW := Lib.hid hw
  clear hw
  unfold dayV
  by_cases h : Dt.rightB y m d = true
  · rw [Dt.days_right h]
    obtain ⟨h1, h2, h3, h4, h5, h6⟩ := Dt.right_bd h
    have hn := Lib.hid (Dt.num_bd h)
    obtain ⟨hy0, hy1⟩ := Dt.yd_bd h1 (show y ≤ 10000 by omega)
    go_enter Try.func26, Try.ntmps26
    go_wp2_with fail
    refine (refRight_any y m d _ _ (Below.refl _ _)).mono ?_
    rintro e w1 ⟨rfl, b1⟩
    have HB1 := Lib.hid ((below_box HW.out _).trans (b1.mono (below_box HW.out _).size))
    obtain ⟨hc, hf⟩ := bcell b1
    clear b1
    rw [h]
    go_wp2
    go_loop [4, 5] (fun n i => ∃ k : Int, 1 ≤ k ∧ k ≤ m ∧ i = .int .i64 k ∧ n = .int .i64 (Dt.yd y + Dt.cum y k)) (fun _ i => (m - intOf i).toNat)
    case atStart => exact ⟨1, by omega, h3, rfl, by rw [Dt.cum_1, Int.add_zero]; rfl⟩
    case round =>
      obtain ⟨k, hk0, hk1, rfl, rfl⟩ := hrel
      have hcb := Dt.cum_bd (y := y) hk0 (show k ≤ 13 by omega)
      by_cases hlt : k < m
      · have hlb := Dt.len_bd y k
        have HS := Lib.hid (Dt.cum_succ y k hk0 (by omega))
        go_wp2_with fail
        refine (length_any y k _ (by omega) (by omega)).mono ?_
        rintro e w2 ⟨rfl, hw2⟩
        subst hw2
        go_wp2
        go_round
        case rel => exact ⟨k + 1, by omega, by omega, rfl, by rw [HS.out, ← Int.add_assoc]⟩
        case measure => simp [intOf]; omega
      · obtain rfl : k = m := by omega
        go_wp2
        go_ret
        exact ⟨rfl, HB1.out⟩
  · have h' : Dt.rightB y m d = false := by simpa using h
    rw [Dt.days_not h']
    go_enter Try.func26, Try.ntmps26
    go_wp2_with fail
    refine (refRight_any y m d w0 _ (below_box HW.out _)).mono ?_
    rintro e w1 ⟨rfl, b1⟩
    have HB1 := Lib.hid b1
    clear b1
    rw [h']
    go_wp2
    go_ret
    exact ⟨rfl, HB1.out⟩
end Go.Proofs.Ytgcjhlnolmjdeaa
