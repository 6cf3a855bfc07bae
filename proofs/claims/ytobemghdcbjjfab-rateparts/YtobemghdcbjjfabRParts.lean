/- THE WALK OF RateParts. -/
import Derived.Test.YtobemghdcbjjfabRRuns
import Derived.Test.YtobemghdcbjjfabBookIn
namespace Go.Proofs.Ytobemghdcbjjfab
open Go.RowKit

theorem tax_small (k r : Nat) (w0 w : World) (hw : Below w0.heap.size w0 w) (hk : k ≤ 35184372088832) (hr : r ≤ 100000) :
    Calls Try.prog 6 #[.int .i64 k, .int .i64 r] w fun e w' => e = both (Sh.sh k r 10000 : Nat) 0 ∧ Below w0.heap.size w0 w' :=
  (tax_any k r w0 w hw ⟨by omega, by omega⟩ ⟨by omega, by omega⟩).mono fun _ _ ⟨h1, h2⟩ => ⟨by rw [h1, (Sh.tax_nat k r hr hk).1, (Sh.tax_nat k r hr hk).2], h2⟩
set_option maxHeartbeats 4000000 in
theorem rateParts_walk (a b bp : Int) (w : World) (ha : (Lit.int .i64 a).wf = true) (hb : (Lit.int .i64 b).wf = true) (hbp : (Lit.int .i64 bp).wf = true) :
    Calls Try.prog 3 #[.int .i64 a, .int .i64 b, .int .i64 bp] w fun e w' => e = .returned (.bool true) ∧ Below w.heap.size w w' := by
  have Ha := Lib.hid (fit_in ha)
  have Hb := Lib.hid (fit_in hb)
  have Hbp := Lib.hid (fit_in hbp)
  have HB0 := Lib.hid (Below.refl w.heap.size w)
  clear ha hb hbp
  go_enter Try.func3, Try.ntmps3
  go_wp2_with fail
  refine (bookWithin_any a 0 17592186044416 _ Ha.out (by omega) (by omega) (by omega)).mono ?_
  rintro e wx ⟨⟨m, rfl, _, hm⟩, hx⟩
  replace hx := hx.symm
  subst hx
  go_wp2_with fail
  refine (bookWithin_any b 0 17592186044416 _ Hb.out (by omega) (by omega) (by omega)).mono ?_
  rintro e wx ⟨⟨n, rfl, _, hn⟩, hx⟩
  replace hx := hx.symm
  subst hx
  go_wp2_with fail
  refine (bookWithin_any bp 0 100000 _ Hbp.out (by omega) (by omega) (by omega)).mono ?_
  rintro e wx ⟨⟨r, rfl, _, hr⟩, hx⟩
  replace hx := hx.symm
  subst hx
  have HS := Lib.hid (Sh.parts m n r)
  have HO := Lib.hid (Sh.sh_off m r)
  have HQ := Lib.hid (Sh.sh_off n r)
  have HU : Hid (m * r ≤ 17592186044416 * 100000) := Lib.hid (Nat.mul_le_mul (by omega) (by omega))
  have HV : Hid (n * r ≤ 17592186044416 * 100000) := Lib.hid (Nat.mul_le_mul (by omega) (by omega))
  go_wp2_with fail
  refine (tax_small m r w _ HB0.out (by omega) (by omega)).mono ?_
  rintro e w1 ⟨rfl, b1⟩
  have HB1 := Lib.hid b1
  clear b1
  unfold both
  go_wp2_with fail
  refine (tax_small n r w _ HB1.out (by omega) (by omega)).mono ?_
  rintro e w2 ⟨rfl, b2⟩
  have HB2 := Lib.hid b2
  clear b2
  unfold both
  obtain ⟨k, hk⟩ : ∃ k : Nat, m + n = k := ⟨_, rfl⟩
  have hk' : (m : Int) + (n : Int) = (k : Int) := by omega
  rw [hk] at HS
  go_wp2_with fail
  refine (tax_small k r w _ HB2.out (by omega) (by omega)).mono ?_
  rintro e w3 ⟨rfl, b3⟩
  have HB3 := Lib.hid b3
  clear b3
  unfold both
  have hs := HS.out
  have hx : Sh.sh m r 10000 ≤ 175921860444161 := by have := HO.out; have := HU.out; omega
  have hy : Sh.sh n r 10000 ≤ 175921860444161 := by have := HQ.out; have := HV.out; omega
  clear HS HO HQ HU HV
  generalize Sh.sh m r 10000 = x at *
  generalize Sh.sh n r 10000 = y at *
  generalize Sh.sh k r 10000 = z at *
  go_wp2_with fail
  refine (runs_any w _ HB3.out).mono ?_
  rintro e w4 ⟨rfl, b4⟩
  have HB4 := Lib.hid b4
  clear b4
  go_wp2_with fail
  go_ret
  exact ⟨rfl, HB4.out⟩
end Go.Proofs.Ytobemghdcbjjfab
