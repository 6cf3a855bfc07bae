/- THE WALK OF RateMirrors. -/
import Derived.Test.YtobemghdcbjjfaaRRuns
namespace Go.Proofs.Ytobemghdcbjjfaa
open Go.RowKit

theorem val_bound (n : Int) (bp all : Nat) : -9223372036854775807 ≤ Sh.val n bp all ∧ Sh.val n bp all ≤ 9223372036854775807 := by
  unfold Sh.val Sh.side
  split
  · split
    · exact ⟨by omega, by omega⟩
    · exact ⟨by omega, by omega⟩
  · exact ⟨by omega, by omega⟩
theorem tax_bound (n bp : Int) : -9223372036854775807 ≤ Sh.taxV n bp ∧ Sh.taxV n bp ≤ 9223372036854775807 := by
  unfold Sh.taxV
  split
  · exact val_bound _ _ _
  · exact ⟨by omega, by omega⟩
theorem in_bound (n bp : Int) : -9223372036854775807 ≤ Sh.inV n bp ∧ Sh.inV n bp ≤ 9223372036854775807 := by
  unfold Sh.inV
  split
  · exact val_bound _ _ _
  · exact ⟨by omega, by omega⟩
set_option maxHeartbeats 2000000 in
theorem rateMirrors_walk (n bp : Int) (w : World) (hn : (Lit.int .i64 n).wf = true) (hb : (Lit.int .i64 bp).wf = true) :
    Calls Try.prog 6 #[.int .i64 n, .int .i64 bp] w fun e w' => e = .returned (.bool true) ∧ Below w.heap.size w w' := by
  have Hn := Lib.hid (fit_in hn)
  have Hbp := Lib.hid (fit_in hb)
  have HB0 := Lib.hid (Below.refl w.heap.size w)
  obtain ⟨hn0, hn1⟩ := fit_in hn
  clear hn hb
  by_cases hl : n = -9223372036854775808
  · subst hl
    go_enter Try.func6, Try.ntmps6
    go_wp2_with fail
    refine (runs_any w _ HB0.out).mono ?_
    rintro e w1 ⟨rfl, b1⟩
    have HB1 := Lib.hid b1
    clear b1
    go_wp2_with fail
    go_ret
    exact ⟨rfl, HB1.out⟩
  · have hl' : (n == -9223372036854775808) = false := beq_eq_false_iff_ne.2 hl
    have HT := Lib.hid (Sh.tax_neg n bp)
    have HI := Lib.hid (Sh.in_neg n bp)
    obtain ⟨hp0, hp1⟩ := tax_bound n bp
    obtain ⟨hq0, hq1⟩ := in_bound n bp
    go_enter Try.func6, Try.ntmps6
    go_wp2_with fail
    refine (tax_any n bp w _ HB0.out Hn.out Hbp.out).mono ?_
    rintro e w1 ⟨rfl, b1⟩
    have HB1 := Lib.hid b1
    clear b1
    unfold both
    go_wp2_with fail
    refine (tax_any (-n) bp w _ HB1.out ⟨by omega, by omega⟩ Hbp.out).mono ?_
    rintro e w2 ⟨rfl, b2⟩
    have HB2 := Lib.hid b2
    clear b2
    rw [HT.out.1, HT.out.2]
    unfold both
    go_wp2_with fail
    refine (within_any n bp w _ HB2.out Hn.out Hbp.out).mono ?_
    rintro e w3 ⟨rfl, b3⟩
    have HB3 := Lib.hid b3
    clear b3
    unfold both
    go_wp2_with fail
    refine (within_any (-n) bp w _ HB3.out ⟨by omega, by omega⟩ Hbp.out).mono ?_
    rintro e w4 ⟨rfl, b4⟩
    have HB4 := Lib.hid b4
    clear b4
    rw [HI.out.1, HI.out.2]
    unfold both
    clear HT HI
    generalize Sh.taxV n bp = p1 at *
    generalize Sh.taxE n bp = p2 at *
    generalize Sh.inV n bp = q1 at *
    generalize Sh.inE n bp = q2 at *
    go_wp2_with fail
    refine (runs_any w _ HB4.out).mono ?_
    rintro e w5 ⟨rfl, b5⟩
    have HB5 := Lib.hid b5
    clear b5
    go_wp2_with fail
    go_ret
    exact ⟨rfl, HB5.out⟩
end Go.Proofs.Ytobemghdcbjjfaa
