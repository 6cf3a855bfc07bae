/- chapter 5's runs, walked. -/
import Derived.Test.YtobemghdcbjjfabRate
namespace Go.Proofs.Ytobemghdcbjjfab
open Go.RowKit

theorem tax_is (n bp t k : Int) (w0 w : World) (hw : Below w0.heap.size w0 w) (hn : Fit n) (hb : Fit bp) (h1 : Sh.taxV n bp = t) (h2 : Sh.taxE n bp = k) :
    Calls Try.prog 11 #[.int .i64 n, .int .i64 bp, .int .i64 t, .int .i64 k] w fun e w' => e = .returned (.bool true) ∧ Below w0.heap.size w0 w' := by
  have HW := Lib.hid hw
  have HN := Lib.hid hn
  have HB := Lib.hid hb
  clear hw hn hb
  go_enter Try.func11, Try.ntmps11
  go_wp2_with fail
  refine (tax_any n bp w0 _ HW.out HN.out HB.out).mono ?_
  rintro e w1 ⟨rfl, b1⟩
  have HB1 := Lib.hid b1
  clear b1
  rw [h1, h2]
  unfold both
  go_wp2_with fail
  go_ret
  exact ⟨rfl, HB1.out⟩
theorem within_is (n bp t k : Int) (w0 w : World) (hw : Below w0.heap.size w0 w) (hn : Fit n) (hb : Fit bp) (h1 : Sh.inV n bp = t) (h2 : Sh.inE n bp = k) :
    Calls Try.prog 8 #[.int .i64 n, .int .i64 bp] w fun e w' => e = .returned (.tuple #[.int .i64 t, .int .i64 k]) ∧ Below w0.heap.size w0 w' :=
  (within_any n bp w0 w hw hn hb).mono fun _ _ ⟨h3, h4⟩ => ⟨by rw [h3, h1, h2]; rfl, h4⟩
theorem fit_lit {n : Int} (h : (decide (-9223372036854775808 ≤ n) && decide (n ≤ 9223372036854775807)) = true) : Fit n := by
  rw [Bool.and_eq_true, decide_eq_true_eq, decide_eq_true_eq] at h
  exact h
set_option maxHeartbeats 4000000 in
theorem runs_any (w0 w : World) (hw : Below w0.heap.size w0 w) : Calls Try.prog 7 #[] w fun e w' => e = .returned (.bool true) ∧ Below w0.heap.size w0 w' := by
  have HB0 := Lib.hid hw
  clear hw
  go_enter Try.func7, Try.ntmps7
  go_wp2_with fail
  refine (tax_is 100 1900 19 0 w0 _ HB0.out (fit_lit rfl) (fit_lit rfl) (by decide +kernel) (by decide +kernel)).mono ?_
  rintro e w1 ⟨rfl, b1⟩
  have HB1 := Lib.hid b1
  clear b1
  go_wp2_with fail
  refine (tax_is 50 100 1 0 w0 _ HB1.out (fit_lit rfl) (fit_lit rfl) (by decide +kernel) (by decide +kernel)).mono ?_
  rintro e w2 ⟨rfl, b2⟩
  have HB2 := Lib.hid b2
  clear b2
  go_wp2_with fail
  refine (tax_is 49 100 0 0 w0 _ HB2.out (fit_lit rfl) (fit_lit rfl) (by decide +kernel) (by decide +kernel)).mono ?_
  rintro e w3 ⟨rfl, b3⟩
  have HB3 := Lib.hid b3
  clear b3
  go_wp2_with fail
  refine (tax_is (-50) 100 (-1) 0 w0 _ HB3.out (fit_lit rfl) (fit_lit rfl) (by decide +kernel) (by decide +kernel)).mono ?_
  rintro e w4 ⟨rfl, b4⟩
  have HB4 := Lib.hid b4
  clear b4
  go_wp2_with fail
  refine (tax_is 9223372036854775807 10000 9223372036854775807 0 w0 _ HB4.out (fit_lit rfl) (fit_lit rfl) (by decide +kernel) (by decide +kernel)).mono ?_
  rintro e w5 ⟨rfl, b5⟩
  have HB5 := Lib.hid b5
  clear b5
  go_wp2_with fail
  refine (tax_is 1 100001 0 1 w0 _ HB5.out (fit_lit rfl) (fit_lit rfl) (by decide +kernel) (by decide +kernel)).mono ?_
  rintro e w6 ⟨rfl, b6⟩
  have HB6 := Lib.hid b6
  clear b6
  go_wp2_with fail
  refine (tax_is 4611686018427387904 20001 0 7 w0 _ HB6.out (fit_lit rfl) (fit_lit rfl) (by decide +kernel) (by decide +kernel)).mono ?_
  rintro e w7 ⟨rfl, b7⟩
  have HB7 := Lib.hid b7
  clear b7
  go_wp2_with fail
  refine (tax_is (-9223372036854775808) 10000 0 7 w0 _ HB7.out (fit_lit rfl) (fit_lit rfl) (by decide +kernel) (by decide +kernel)).mono ?_
  rintro e w8 ⟨rfl, b8⟩
  have HB8 := Lib.hid b8
  clear b8
  go_wp2_with fail
  refine (within_is 119 1900 19 0 w0 _ HB8.out (fit_lit rfl) (fit_lit rfl) (by decide +kernel) (by decide +kernel)).mono ?_
  rintro e w9 ⟨rfl, b9⟩
  have HB9 := Lib.hid b9
  clear b9
  go_wp2_with fail
  refine (within_is (-119) 1900 (-19) 0 w0 _ HB9.out (fit_lit rfl) (fit_lit rfl) (by decide +kernel) (by decide +kernel)).mono ?_
  rintro e w10 ⟨rfl, b10⟩
  have HB10 := Lib.hid b10
  clear b10
  go_wp2_with fail
  refine (within_is 1 10000 1 0 w0 _ HB10.out (fit_lit rfl) (fit_lit rfl) (by decide +kernel) (by decide +kernel)).mono ?_
  rintro e w11 ⟨rfl, b11⟩
  have HB11 := Lib.hid b11
  clear b11
  go_wp2_with fail
  go_ret
  exact ⟨rfl, HB11.out⟩
theorem rateRuns_walk (w : World) : Calls Try.prog 7 #[] w fun e w' => e = .returned (.bool true) ∧ Below w.heap.size w w' := runs_any w w (Below.refl _ _)
end Go.Proofs.Ytobemghdcbjjfab
