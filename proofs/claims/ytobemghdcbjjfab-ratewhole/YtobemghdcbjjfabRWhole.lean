/- THE WALK OF RateWhole. -/
import Derived.Test.YtobemghdcbjjfabRRuns
namespace Go.Proofs.Ytobemghdcbjjfab
open Go.RowKit

set_option maxHeartbeats 4000000 in
theorem rateWhole_walk (n bp : Int) (w : World) (hn : (Lit.int .i64 n).wf = true) (hbp : (Lit.int .i64 bp).wf = true) :
    Calls Try.prog 4 #[.int .i64 n, .int .i64 bp] w fun e w' => e = .returned (.bool true) ∧ Below w.heap.size w w' := by
  have Hn := Lib.hid (fit_in hn)
  have Hbp := Lib.hid (fit_in hbp)
  have HB0 := Lib.hid (Below.refl w.heap.size w)
  obtain ⟨hn0, hn1⟩ := fit_in hn
  obtain ⟨hb0, hb1⟩ := fit_in hbp
  clear hn hbp
  by_cases hl : n = -9223372036854775808
  · subst hl
    go_enter Try.func4, Try.ntmps4
    go_wp2_with fail
    refine (runs_any w _ HB0.out).mono ?_
    rintro e w1 ⟨rfl, b1⟩
    have HB1 := Lib.hid b1
    clear b1
    go_wp2_with fail
    go_ret
    exact ⟨rfl, HB1.out⟩
  · have hl' : (n == -9223372036854775808) = false := beq_eq_false_iff_ne.2 hl
    obtain ⟨HW1, HW2⟩ := Sh.tax_whole n (by omega) hn1
    obtain ⟨HN1, HN2⟩ := Sh.tax_none n
    obtain ⟨HI1, HI2⟩ := Sh.in_none n
    have HTB := Lib.hid (Sh.tax_bad n bp)
    have HIB := Lib.hid (Sh.in_bad n bp)
    have HA := Lib.hid HW1
    have HA2 := Lib.hid HW2
    have HC := Lib.hid HN1
    have HC2 := Lib.hid HN2
    have HD := Lib.hid HI1
    have HD2 := Lib.hid HI2
    clear HW1 HW2 HN1 HN2 HI1 HI2
    go_enter Try.func4, Try.ntmps4
    go_wp2_with fail
    refine (tax_any n 10000 w _ HB0.out Hn.out ⟨by omega, by omega⟩).mono ?_
    rintro e w1 ⟨rfl, b1⟩
    have HB1 := Lib.hid b1
    clear b1
    rw [HA.out, HA2.out]
    unfold both
    go_wp2_with fail
    refine (tax_any n 0 w _ HB1.out Hn.out ⟨by omega, by omega⟩).mono ?_
    rintro e w2 ⟨rfl, b2⟩
    have HB2 := Lib.hid b2
    clear b2
    rw [HC.out, HC2.out]
    unfold both
    go_wp2_with fail
    refine (within_any n 0 w _ HB2.out Hn.out ⟨by omega, by omega⟩).mono ?_
    rintro e w3 ⟨rfl, b3⟩
    have HB3 := Lib.hid b3
    clear b3
    rw [HD.out, HD2.out]
    unfold both
    go_wp2_with fail
    refine (tax_any n bp w _ HB3.out Hn.out Hbp.out).mono ?_
    rintro e w4 ⟨rfl, b4⟩
    have HB4 := Lib.hid b4
    clear b4
    unfold both
    go_wp2_with fail
    refine (within_any n bp w _ HB4.out Hn.out Hbp.out).mono ?_
    rintro e w5 ⟨rfl, b5⟩
    have HB5 := Lib.hid b5
    clear b5
    unfold both
    clear HA HA2 HC HC2 HD HD2
    generalize Sh.taxV n bp = x1 at *
    generalize Sh.inV n bp = x2 at *
    obtain ⟨k, hk⟩ : ∃ k, Sh.taxE n bp = k := ⟨_, rfl⟩
    obtain ⟨l, hl2⟩ : ∃ l, Sh.inE n bp = l := ⟨_, rfl⟩
    rw [hk] at HTB ⊢
    rw [hl2] at HIB ⊢
    clear hk hl2
    by_cases hr : Sh.Right bp
    · have hk : (k == 1) = false := beq_eq_false_iff_ne.2 fun h => HTB.out.1 h hr
      have hl2 : (l == 1) = false := beq_eq_false_iff_ne.2 fun h => HIB.out.1 h hr
      obtain ⟨hr0, hr1⟩ := hr
      have hr2 : ¬ bp < 0 := by omega
      have hr3 : ¬ 100000 < bp := by omega
      clear HTB HIB
      go_wp2_with fail
      refine (runs_any w _ HB5.out).mono ?_
      rintro e w6 ⟨rfl, b6⟩
      have HB6 := Lib.hid b6
      clear b6
      go_wp2_with fail
      go_ret
      exact ⟨ret_bool (by rw [decide_eq_false (Int.not_lt.2 hr2), decide_eq_false (Int.not_lt.2 hr3)]; rfl), HB6.out⟩
    · have hk : k = 1 := HTB.out.2 hr
      have hl2 : l = 1 := HIB.out.2 hr
      subst hk hl2
      have hr2 : bp < 0 ∨ 100000 < bp := by unfold Sh.Right at hr; omega
      clear hr HTB HIB
      rcases hr2 with hr2 | hr2
      · go_wp2_with fail
        refine (runs_any w _ HB5.out).mono ?_
        rintro e w6 ⟨rfl, b6⟩
        have HB6 := Lib.hid b6
        clear b6
        go_wp2_with fail
        go_ret
        exact ⟨rfl, HB6.out⟩
      · have hr3 : ¬ bp < 0 := by omega
        go_wp2_with fail
        refine (runs_any w _ HB5.out).mono ?_
        rintro e w6 ⟨rfl, b6⟩
        have HB6 := Lib.hid b6
        clear b6
        go_wp2_with fail
        go_ret
        exact ⟨rfl, HB6.out⟩
end Go.Proofs.Ytobemghdcbjjfab
