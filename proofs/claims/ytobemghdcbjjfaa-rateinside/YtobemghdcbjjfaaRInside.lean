/- THE WALK OF RateInside. -/
import Derived.Test.YtobemghdcbjjfaaRRuns
import Derived.Test.YtobemghdcbjjfaaBookIn
namespace Go.Proofs.Ytobemghdcbjjfaa
open Go.RowKit

set_option maxHeartbeats 2000000 in
theorem rateInside_walk (n bp : Int) (w : World) (hn : (Lit.int .i64 n).wf = true) (hbp : (Lit.int .i64 bp).wf = true) :
    Calls Try.prog 8 #[.int .i64 n, .int .i64 bp] w fun e w' => e = .returned (.bool true) ∧ Below w.heap.size w w' := by
  have Hn := Lib.hid (fit_in hn)
  have Hbp := Lib.hid (fit_in hbp)
  have HB0 := Lib.hid (Below.refl w.heap.size w)
  clear hn hbp
  go_enter Try.func8, Try.ntmps8
  go_wp2_with fail
  refine (bookWithin_any n 0 35184372088832 _ Hn.out (by omega) (by omega) (by omega)).mono ?_
  rintro e wx ⟨⟨k, rfl, _, hk⟩, hx⟩
  replace hx := hx.symm
  subst hx
  go_wp2_with fail
  refine (bookWithin_any bp 0 10000 _ Hbp.out (by omega) (by omega) (by omega)).mono ?_
  rintro e wx ⟨⟨r, rfl, _, hr⟩, hx⟩
  replace hx := hx.symm
  subst hx
  go_wp2_with fail
  refine (within_any k r w _ HB0.out ⟨by omega, by omega⟩ ⟨by omega, by omega⟩).mono ?_
  rintro e w1 ⟨rfl, b1⟩
  have HB1 := Lib.hid b1
  clear b1
  obtain ⟨e1, e2⟩ := Sh.in_nat k r (by omega) (by omega)
  rw [e1, e2]
  clear e1 e2
  unfold both
  have hle := Sh.within_le k r
  obtain ⟨hi0, hi1⟩ := Sh.inside k r (by omega)
  generalize Sh.sh k r (10000 + r) = t at hle hi0 hi1 ⊢
  obtain ⟨d, hd⟩ : ∃ d : Nat, k - t = d := ⟨_, rfl⟩
  have hd' : (k : Int) - (t : Int) = (d : Int) := by omega
  rw [hd] at hi0 hi1
  go_wp2_with fail
  refine (tax_any d r w _ HB1.out ⟨by omega, by omega⟩ ⟨by omega, by omega⟩).mono ?_
  rintro e w2 ⟨rfl, b2⟩
  have HB2 := Lib.hid b2
  clear b2
  obtain ⟨e1, e2⟩ := Sh.tax_nat d r (by omega) (by omega)
  rw [e1, e2]
  clear e1 e2
  unfold both
  generalize Sh.sh d r 10000 = u at hi0 hi1 ⊢
  go_wp2_with fail
  refine (runs_any w _ HB2.out).mono ?_
  rintro e w3 ⟨rfl, b3⟩
  have HB3 := Lib.hid b3
  clear b3
  go_wp2_with fail
  go_ret
  exact ⟨rfl, HB3.out⟩
end Go.Proofs.Ytobemghdcbjjfaa
