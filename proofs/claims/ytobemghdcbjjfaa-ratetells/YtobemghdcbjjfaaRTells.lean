/- THE WALK OF RateTells. -/
import Derived.Test.YtobemghdcbjjfaaRRuns
import Derived.Test.YtobemghdcbjjfaaRefRate
namespace Go.Proofs.Ytobemghdcbjjfaa
open Go.RowKit

set_option maxHeartbeats 2000000 in
theorem rateTells_walk (n bp : Int) (w : World) (hn : (Lit.int .i64 n).wf = true) (hb : (Lit.int .i64 bp).wf = true) :
    Calls Try.prog 4 #[.int .i64 n, .int .i64 bp] w fun e w' => e = .returned (.bool true) ∧ Below w.heap.size w w' := by
  have HN := Lib.hid (fit_in hn)
  have HB := Lib.hid (fit_in hb)
  have HB0 := Lib.hid (Below.refl w.heap.size w)
  clear hn hb
  obtain ⟨⟨p1, p2⟩, hp⟩ : ∃ p, both (Sh.taxV n bp) (Sh.taxE n bp) = both p.1 p.2 := ⟨(_, _), rfl⟩
  obtain ⟨⟨q1, q2⟩, hq⟩ : ∃ p, both (Sh.inV n bp) (Sh.inE n bp) = both p.1 p.2 := ⟨(_, _), rfl⟩
  have HP := Lib.hid hp
  have HQ := Lib.hid hq
  clear hp hq
  go_enter Try.func4, Try.ntmps4
  go_wp2_with fail
  refine (tax_any n bp w _ HB0.out HN.out HB.out).mono ?_
  rintro e w1 ⟨rfl, b1⟩
  have HB1 := Lib.hid b1
  clear b1
  rw [HP.out]
  unfold both
  go_wp2_with fail
  refine (within_any n bp w _ HB1.out HN.out HB.out).mono ?_
  rintro e w2 ⟨rfl, b2⟩
  have HB2 := Lib.hid b2
  clear b2
  rw [HQ.out]
  unfold both
  go_wp2_with fail
  refine (refTax_any n bp _ HN.out HB.out).mono ?_
  rintro e w3 ⟨rfl, hw3⟩
  subst hw3
  rw [HP.out]
  unfold both
  go_wp2_with fail
  refine (refWithin_any n bp w _ HB2.out HN.out HB.out).mono ?_
  rintro e w4 ⟨rfl, b4⟩
  have HB4 := Lib.hid b4
  clear b4
  rw [HQ.out]
  unfold both
  go_wp2_with fail
  refine (runs_any w _ HB4.out).mono ?_
  rintro e w5 ⟨rfl, b5⟩
  have HB5 := Lib.hid b5
  clear b5
  go_wp2_with fail
  go_ret
  exact ⟨rfl, HB5.out⟩
end Go.Proofs.Ytobemghdcbjjfaa
