/- THE WALK OF RateRises. -/
import Derived.Test.YtobemghdcbjjfaaRRuns
import Derived.Test.YtobemghdcbjjfaaBookIn
namespace Go.Proofs.Ytobemghdcbjjfaa
open Go.RowKit

theorem tax_small (k r : Nat) (w0 w : World) (hw : Below w0.heap.size w0 w) (hk : k ≤ 35184372088832) (hr : r ≤ 100000) :
    Calls Try.prog 11 #[.int .i64 k, .int .i64 r] w fun e w' => e = both (Sh.sh k r 10000 : Nat) 0 ∧ Below w0.heap.size w0 w' :=
  (tax_any k r w0 w hw ⟨by omega, by omega⟩ ⟨by omega, by omega⟩).mono fun _ _ ⟨h1, h2⟩ => ⟨by rw [h1, (Sh.tax_nat k r hr hk).1, (Sh.tax_nat k r hr hk).2], h2⟩
theorem within_small (k r : Nat) (w0 w : World) (hw : Below w0.heap.size w0 w) (hk : k ≤ 35184372088832) (hr : r ≤ 100000) :
    Calls Try.prog 10 #[.int .i64 k, .int .i64 r] w fun e w' => e = both (Sh.sh k r (10000 + r) : Nat) 0 ∧ Below w0.heap.size w0 w' :=
  (within_any k r w0 w hw ⟨by omega, by omega⟩ ⟨by omega, by omega⟩).mono fun _ _ ⟨h1, h2⟩ => ⟨by rw [h1, (Sh.in_nat k r hr (by omega)).1, (Sh.in_nat k r hr (by omega)).2], h2⟩
set_option maxHeartbeats 4000000 in
theorem rateRises_walk (a b p q : Int) (w : World) (ha : (Lit.int .i64 a).wf = true) (hb : (Lit.int .i64 b).wf = true) (hp : (Lit.int .i64 p).wf = true) (hq : (Lit.int .i64 q).wf = true) :
    Calls Try.prog 7 #[.int .i64 a, .int .i64 b, .int .i64 p, .int .i64 q] w fun e w' => e = .returned (.bool true) ∧ Below w.heap.size w w' := by
  have Ha := Lib.hid (fit_in ha)
  have Hb := Lib.hid (fit_in hb)
  have Hp := Lib.hid (fit_in hp)
  have Hq := Lib.hid (fit_in hq)
  have HB0 := Lib.hid (Below.refl w.heap.size w)
  clear ha hb hp hq
  go_enter Try.func7, Try.ntmps7
  go_wp2_with fail
  refine (bookWithin_any a 0 35184372088832 _ Ha.out (by omega) (by omega) (by omega)).mono ?_
  rintro e wx ⟨⟨m, rfl, _, hm⟩, hx⟩
  replace hx := hx.symm
  subst hx
  go_wp2_with fail
  refine (bookWithin_any b 0 35184372088832 _ Hb.out (by omega) (by omega) (by omega)).mono ?_
  rintro e wx ⟨⟨n, rfl, _, hn⟩, hx⟩
  replace hx := hx.symm
  subst hx
  go_wp2_with fail
  refine (bookWithin_any p 0 100000 _ Hp.out (by omega) (by omega) (by omega)).mono ?_
  rintro e wx ⟨⟨r, rfl, _, hr⟩, hx⟩
  replace hx := hx.symm
  subst hx
  go_wp2_with fail
  refine (bookWithin_any q 0 100000 _ Hq.out (by omega) (by omega) (by omega)).mono ?_
  rintro e wx ⟨⟨s, rfl, _, hs⟩, hx⟩
  replace hx := hx.symm
  subst hx
  rcases Nat.lt_trichotomy m n with c | c | c
  · have c' : ¬ n < m := by omega
    rcases Nat.lt_trichotomy r s with d | d | d
    · have d' : ¬ s < r := by omega
      have HR := Lib.hid (Sh.sh_rises (u := m) (v := n) (p := r) (q := s) 10000 (by omega) (by omega))
      have HI := Lib.hid (Sh.within_rises (u := m) (v := n) (p := r) (q := s) (by omega) (by omega))
      go_wp2_with fail
      refine (tax_small m r w _ HB0.out (by omega) (by omega)).mono ?_
      rintro e w1 ⟨rfl, b1⟩
      have HB1 := Lib.hid b1
      clear b1
      unfold both
      go_wp2_with fail
      refine (tax_small n s w _ HB1.out (by omega) (by omega)).mono ?_
      rintro e w2 ⟨rfl, b2⟩
      have HB2 := Lib.hid b2
      clear b2
      unfold both
      go_wp2_with fail
      refine (within_small m r w _ HB2.out (by omega) (by omega)).mono ?_
      rintro e w3 ⟨rfl, b3⟩
      have HB3 := Lib.hid b3
      clear b3
      unfold both
      go_wp2_with fail
      refine (within_small n s w _ HB3.out (by omega) (by omega)).mono ?_
      rintro e w4 ⟨rfl, b4⟩
      have HB4 := Lib.hid b4
      clear b4
      unfold both
      have hr1 := HR.out
      have hi1 := HI.out
      clear HR HI
      generalize Sh.sh m r 10000 = x1 at *
      generalize Sh.sh n s 10000 = x2 at *
      generalize Sh.sh m r (10000 + r) = x3 at *
      generalize Sh.sh n s (10000 + s) = x4 at *
      go_wp2_with fail
      refine (runs_any w _ HB4.out).mono ?_
      rintro e w5 ⟨rfl, b5⟩
      have HB5 := Lib.hid b5
      clear b5
      go_wp2_with fail
      go_ret
      exact ⟨rfl, HB5.out⟩
    · subst d
      have HR := Lib.hid (Sh.sh_rises (u := m) (v := n) (p := r) (q := r) 10000 (by omega) (by omega))
      have HI := Lib.hid (Sh.within_rises (u := m) (v := n) (p := r) (q := r) (by omega) (by omega))
      go_wp2_with fail
      refine (tax_small m r w _ HB0.out (by omega) (by omega)).mono ?_
      rintro e w1 ⟨rfl, b1⟩
      have HB1 := Lib.hid b1
      clear b1
      unfold both
      go_wp2_with fail
      refine (tax_small n r w _ HB1.out (by omega) (by omega)).mono ?_
      rintro e w2 ⟨rfl, b2⟩
      have HB2 := Lib.hid b2
      clear b2
      unfold both
      go_wp2_with fail
      refine (within_small m r w _ HB2.out (by omega) (by omega)).mono ?_
      rintro e w3 ⟨rfl, b3⟩
      have HB3 := Lib.hid b3
      clear b3
      unfold both
      go_wp2_with fail
      refine (within_small n r w _ HB3.out (by omega) (by omega)).mono ?_
      rintro e w4 ⟨rfl, b4⟩
      have HB4 := Lib.hid b4
      clear b4
      unfold both
      have hr1 := HR.out
      have hi1 := HI.out
      clear HR HI
      generalize Sh.sh m r 10000 = x1 at *
      generalize Sh.sh n r 10000 = x2 at *
      generalize Sh.sh m r (10000 + r) = x3 at *
      generalize Sh.sh n r (10000 + r) = x4 at *
      go_wp2_with fail
      refine (runs_any w _ HB4.out).mono ?_
      rintro e w5 ⟨rfl, b5⟩
      have HB5 := Lib.hid b5
      clear b5
      go_wp2_with fail
      go_ret
      exact ⟨rfl, HB5.out⟩
    · have d' : ¬ r < s := by omega
      have HR := Lib.hid (Sh.sh_rises (u := m) (v := n) (p := s) (q := r) 10000 (by omega) (by omega))
      have HI := Lib.hid (Sh.within_rises (u := m) (v := n) (p := s) (q := r) (by omega) (by omega))
      go_wp2_with fail
      refine (tax_small m s w _ HB0.out (by omega) (by omega)).mono ?_
      rintro e w1 ⟨rfl, b1⟩
      have HB1 := Lib.hid b1
      clear b1
      unfold both
      go_wp2_with fail
      refine (tax_small n r w _ HB1.out (by omega) (by omega)).mono ?_
      rintro e w2 ⟨rfl, b2⟩
      have HB2 := Lib.hid b2
      clear b2
      unfold both
      go_wp2_with fail
      refine (within_small m s w _ HB2.out (by omega) (by omega)).mono ?_
      rintro e w3 ⟨rfl, b3⟩
      have HB3 := Lib.hid b3
      clear b3
      unfold both
      go_wp2_with fail
      refine (within_small n r w _ HB3.out (by omega) (by omega)).mono ?_
      rintro e w4 ⟨rfl, b4⟩
      have HB4 := Lib.hid b4
      clear b4
      unfold both
      have hr1 := HR.out
      have hi1 := HI.out
      clear HR HI
      generalize Sh.sh m s 10000 = x1 at *
      generalize Sh.sh n r 10000 = x2 at *
      generalize Sh.sh m s (10000 + s) = x3 at *
      generalize Sh.sh n r (10000 + r) = x4 at *
      go_wp2_with fail
      refine (runs_any w _ HB4.out).mono ?_
      rintro e w5 ⟨rfl, b5⟩
      have HB5 := Lib.hid b5
      clear b5
      go_wp2_with fail
      go_ret
      exact ⟨rfl, HB5.out⟩
  · subst c
    rcases Nat.lt_trichotomy r s with d | d | d
    · have d' : ¬ s < r := by omega
      have HR := Lib.hid (Sh.sh_rises (u := m) (v := m) (p := r) (q := s) 10000 (by omega) (by omega))
      have HI := Lib.hid (Sh.within_rises (u := m) (v := m) (p := r) (q := s) (by omega) (by omega))
      go_wp2_with fail
      refine (tax_small m r w _ HB0.out (by omega) (by omega)).mono ?_
      rintro e w1 ⟨rfl, b1⟩
      have HB1 := Lib.hid b1
      clear b1
      unfold both
      go_wp2_with fail
      refine (tax_small m s w _ HB1.out (by omega) (by omega)).mono ?_
      rintro e w2 ⟨rfl, b2⟩
      have HB2 := Lib.hid b2
      clear b2
      unfold both
      go_wp2_with fail
      refine (within_small m r w _ HB2.out (by omega) (by omega)).mono ?_
      rintro e w3 ⟨rfl, b3⟩
      have HB3 := Lib.hid b3
      clear b3
      unfold both
      go_wp2_with fail
      refine (within_small m s w _ HB3.out (by omega) (by omega)).mono ?_
      rintro e w4 ⟨rfl, b4⟩
      have HB4 := Lib.hid b4
      clear b4
      unfold both
      have hr1 := HR.out
      have hi1 := HI.out
      clear HR HI
      generalize Sh.sh m r 10000 = x1 at *
      generalize Sh.sh m s 10000 = x2 at *
      generalize Sh.sh m r (10000 + r) = x3 at *
      generalize Sh.sh m s (10000 + s) = x4 at *
      go_wp2_with fail
      refine (runs_any w _ HB4.out).mono ?_
      rintro e w5 ⟨rfl, b5⟩
      have HB5 := Lib.hid b5
      clear b5
      go_wp2_with fail
      go_ret
      exact ⟨rfl, HB5.out⟩
    · subst d
      have HR := Lib.hid (Sh.sh_rises (u := m) (v := m) (p := r) (q := r) 10000 (by omega) (by omega))
      have HI := Lib.hid (Sh.within_rises (u := m) (v := m) (p := r) (q := r) (by omega) (by omega))
      go_wp2_with fail
      refine (tax_small m r w _ HB0.out (by omega) (by omega)).mono ?_
      rintro e w1 ⟨rfl, b1⟩
      have HB1 := Lib.hid b1
      clear b1
      unfold both
      go_wp2_with fail
      refine (tax_small m r w _ HB1.out (by omega) (by omega)).mono ?_
      rintro e w2 ⟨rfl, b2⟩
      have HB2 := Lib.hid b2
      clear b2
      unfold both
      go_wp2_with fail
      refine (within_small m r w _ HB2.out (by omega) (by omega)).mono ?_
      rintro e w3 ⟨rfl, b3⟩
      have HB3 := Lib.hid b3
      clear b3
      unfold both
      go_wp2_with fail
      refine (within_small m r w _ HB3.out (by omega) (by omega)).mono ?_
      rintro e w4 ⟨rfl, b4⟩
      have HB4 := Lib.hid b4
      clear b4
      unfold both
      have hr1 := HR.out
      have hi1 := HI.out
      clear HR HI
      generalize Sh.sh m r 10000 = x1 at *
      generalize Sh.sh m r (10000 + r) = x3 at *
      go_wp2_with fail
      refine (runs_any w _ HB4.out).mono ?_
      rintro e w5 ⟨rfl, b5⟩
      have HB5 := Lib.hid b5
      clear b5
      go_wp2_with fail
      go_ret
      exact ⟨rfl, HB5.out⟩
    · have d' : ¬ r < s := by omega
      have HR := Lib.hid (Sh.sh_rises (u := m) (v := m) (p := s) (q := r) 10000 (by omega) (by omega))
      have HI := Lib.hid (Sh.within_rises (u := m) (v := m) (p := s) (q := r) (by omega) (by omega))
      go_wp2_with fail
      refine (tax_small m s w _ HB0.out (by omega) (by omega)).mono ?_
      rintro e w1 ⟨rfl, b1⟩
      have HB1 := Lib.hid b1
      clear b1
      unfold both
      go_wp2_with fail
      refine (tax_small m r w _ HB1.out (by omega) (by omega)).mono ?_
      rintro e w2 ⟨rfl, b2⟩
      have HB2 := Lib.hid b2
      clear b2
      unfold both
      go_wp2_with fail
      refine (within_small m s w _ HB2.out (by omega) (by omega)).mono ?_
      rintro e w3 ⟨rfl, b3⟩
      have HB3 := Lib.hid b3
      clear b3
      unfold both
      go_wp2_with fail
      refine (within_small m r w _ HB3.out (by omega) (by omega)).mono ?_
      rintro e w4 ⟨rfl, b4⟩
      have HB4 := Lib.hid b4
      clear b4
      unfold both
      have hr1 := HR.out
      have hi1 := HI.out
      clear HR HI
      generalize Sh.sh m s 10000 = x1 at *
      generalize Sh.sh m r 10000 = x2 at *
      generalize Sh.sh m s (10000 + s) = x3 at *
      generalize Sh.sh m r (10000 + r) = x4 at *
      go_wp2_with fail
      refine (runs_any w _ HB4.out).mono ?_
      rintro e w5 ⟨rfl, b5⟩
      have HB5 := Lib.hid b5
      clear b5
      go_wp2_with fail
      go_ret
      exact ⟨rfl, HB5.out⟩
  · have c' : ¬ m < n := by omega
    rcases Nat.lt_trichotomy r s with d | d | d
    · have d' : ¬ s < r := by omega
      have HR := Lib.hid (Sh.sh_rises (u := n) (v := m) (p := r) (q := s) 10000 (by omega) (by omega))
      have HI := Lib.hid (Sh.within_rises (u := n) (v := m) (p := r) (q := s) (by omega) (by omega))
      go_wp2_with fail
      refine (tax_small n r w _ HB0.out (by omega) (by omega)).mono ?_
      rintro e w1 ⟨rfl, b1⟩
      have HB1 := Lib.hid b1
      clear b1
      unfold both
      go_wp2_with fail
      refine (tax_small m s w _ HB1.out (by omega) (by omega)).mono ?_
      rintro e w2 ⟨rfl, b2⟩
      have HB2 := Lib.hid b2
      clear b2
      unfold both
      go_wp2_with fail
      refine (within_small n r w _ HB2.out (by omega) (by omega)).mono ?_
      rintro e w3 ⟨rfl, b3⟩
      have HB3 := Lib.hid b3
      clear b3
      unfold both
      go_wp2_with fail
      refine (within_small m s w _ HB3.out (by omega) (by omega)).mono ?_
      rintro e w4 ⟨rfl, b4⟩
      have HB4 := Lib.hid b4
      clear b4
      unfold both
      have hr1 := HR.out
      have hi1 := HI.out
      clear HR HI
      generalize Sh.sh n r 10000 = x1 at *
      generalize Sh.sh m s 10000 = x2 at *
      generalize Sh.sh n r (10000 + r) = x3 at *
      generalize Sh.sh m s (10000 + s) = x4 at *
      go_wp2_with fail
      refine (runs_any w _ HB4.out).mono ?_
      rintro e w5 ⟨rfl, b5⟩
      have HB5 := Lib.hid b5
      clear b5
      go_wp2_with fail
      go_ret
      exact ⟨rfl, HB5.out⟩
    · subst d
      have HR := Lib.hid (Sh.sh_rises (u := n) (v := m) (p := r) (q := r) 10000 (by omega) (by omega))
      have HI := Lib.hid (Sh.within_rises (u := n) (v := m) (p := r) (q := r) (by omega) (by omega))
      go_wp2_with fail
      refine (tax_small n r w _ HB0.out (by omega) (by omega)).mono ?_
      rintro e w1 ⟨rfl, b1⟩
      have HB1 := Lib.hid b1
      clear b1
      unfold both
      go_wp2_with fail
      refine (tax_small m r w _ HB1.out (by omega) (by omega)).mono ?_
      rintro e w2 ⟨rfl, b2⟩
      have HB2 := Lib.hid b2
      clear b2
      unfold both
      go_wp2_with fail
      refine (within_small n r w _ HB2.out (by omega) (by omega)).mono ?_
      rintro e w3 ⟨rfl, b3⟩
      have HB3 := Lib.hid b3
      clear b3
      unfold both
      go_wp2_with fail
      refine (within_small m r w _ HB3.out (by omega) (by omega)).mono ?_
      rintro e w4 ⟨rfl, b4⟩
      have HB4 := Lib.hid b4
      clear b4
      unfold both
      have hr1 := HR.out
      have hi1 := HI.out
      clear HR HI
      generalize Sh.sh n r 10000 = x1 at *
      generalize Sh.sh m r 10000 = x2 at *
      generalize Sh.sh n r (10000 + r) = x3 at *
      generalize Sh.sh m r (10000 + r) = x4 at *
      go_wp2_with fail
      refine (runs_any w _ HB4.out).mono ?_
      rintro e w5 ⟨rfl, b5⟩
      have HB5 := Lib.hid b5
      clear b5
      go_wp2_with fail
      go_ret
      exact ⟨rfl, HB5.out⟩
    · have d' : ¬ r < s := by omega
      have HR := Lib.hid (Sh.sh_rises (u := n) (v := m) (p := s) (q := r) 10000 (by omega) (by omega))
      have HI := Lib.hid (Sh.within_rises (u := n) (v := m) (p := s) (q := r) (by omega) (by omega))
      go_wp2_with fail
      refine (tax_small n s w _ HB0.out (by omega) (by omega)).mono ?_
      rintro e w1 ⟨rfl, b1⟩
      have HB1 := Lib.hid b1
      clear b1
      unfold both
      go_wp2_with fail
      refine (tax_small m r w _ HB1.out (by omega) (by omega)).mono ?_
      rintro e w2 ⟨rfl, b2⟩
      have HB2 := Lib.hid b2
      clear b2
      unfold both
      go_wp2_with fail
      refine (within_small n s w _ HB2.out (by omega) (by omega)).mono ?_
      rintro e w3 ⟨rfl, b3⟩
      have HB3 := Lib.hid b3
      clear b3
      unfold both
      go_wp2_with fail
      refine (within_small m r w _ HB3.out (by omega) (by omega)).mono ?_
      rintro e w4 ⟨rfl, b4⟩
      have HB4 := Lib.hid b4
      clear b4
      unfold both
      have hr1 := HR.out
      have hi1 := HI.out
      clear HR HI
      generalize Sh.sh n s 10000 = x1 at *
      generalize Sh.sh m r 10000 = x2 at *
      generalize Sh.sh n s (10000 + s) = x3 at *
      generalize Sh.sh m r (10000 + r) = x4 at *
      go_wp2_with fail
      refine (runs_any w _ HB4.out).mono ?_
      rintro e w5 ⟨rfl, b5⟩
      have HB5 := Lib.hid b5
      clear b5
      go_wp2_with fail
      go_ret
      exact ⟨rfl, HB5.out⟩
end Go.Proofs.Ytobemghdcbjjfaa
