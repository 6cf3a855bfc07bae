/- THE WALK OF RateHalves. -/
import Derived.Test.YtobemghdcbjjfaaRRuns
import Derived.Test.YtobemghdcbjjfaaBookIn
namespace Go.Proofs.Ytobemghdcbjjfaa
open Go.RowKit

set_option maxHeartbeats 2000000 in
theorem rateHalves_walk (n bp : Int) (w : World) (hn : (Lit.int .i64 n).wf = true) (hb : (Lit.int .i64 bp).wf = true) :
    Calls Try.prog 5 #[.int .i64 n, .int .i64 bp] w fun e w' => e = .returned (.bool true) ∧ Below w.heap.size w w' := by
  have Hn := Lib.hid (fit_in hn)
  have Hbp := Lib.hid (fit_in hb)
  have HB0 := Lib.hid (Below.refl w.heap.size w)
  clear hn hb
  go_enter Try.func5, Try.ntmps5
  go_wp2_with fail
  refine (bookWithin_any n 0 17592186044416 _ Hn.out (by omega) (by omega) (by omega)).mono ?_
  rintro e wx ⟨⟨k, rfl, _, hk⟩, hx⟩
  replace hx := hx.symm
  subst hx
  go_wp2_with fail
  refine (bookWithin_any bp 0 100000 _ Hbp.out (by omega) (by omega) (by omega)).mono ?_
  rintro e wx ⟨⟨r, rfl, _, hr⟩, hx⟩
  replace hx := hx.symm
  subst hx
  go_wp2_with fail
  refine (tax_any k r w _ HB0.out ⟨by omega, by omega⟩ ⟨by omega, by omega⟩).mono ?_
  rintro e w1 ⟨rfl, b1⟩
  have HB1 := Lib.hid b1
  clear b1
  obtain ⟨e1, e2⟩ := Sh.tax_nat k r (by omega) (by omega)
  rw [e1, e2]
  clear e1 e2
  unfold both
  have hoff := Sh.sh_off k r
  have hm : k * r ≤ 17592186044416 * 100000 := Nat.mul_le_mul (by omega) (by omega)
  have hp : ((k * r : Nat) : Int) = (k : Int) * (r : Int) := Int.natCast_mul _ _
  generalize Sh.sh k r 10000 = t at hoff ⊢
  have hm0 : 0 ≤ (k : Int) * (r : Int) := by omega
  have hm1 : (k : Int) * (r : Int) ≤ 1759218604441600000 := by omega
  have ho0 : -5000 ≤ (k : Int) * (r : Int) - (t : Int) * 10000 := by omega
  have ho1 : (k : Int) * (r : Int) - (t : Int) * 10000 < 5000 := by omega
  have ht : (t : Int) ≤ 175921860444161 := by omega
  clear hoff hm hp
  go_wp2_with fail
  refine (runs_any w _ HB1.out).mono ?_
  rintro e w2 ⟨rfl, b2⟩
  have HB2 := Lib.hid b2
  clear b2
  go_wp2_with fail
  go_ret
  exact ⟨rfl, HB2.out⟩
end Go.Proofs.Ytobemghdcbjjfaa
