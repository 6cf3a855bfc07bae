/- chapter 21's runs, walked. (By gencfr.py.) -/
import Derived.Test.YtnelakpagjdcdaaCfB
set_option maxRecDepth 100000
set_option linter.unusedVariables false
namespace Go.Proofs.Ytnelakpagjdcdaa.Cf
open Go.RowKit
open Mem

theorem count_is (m : Int) (k : Int) (h : (cnt m : Int) = k) (w : World) : Calls Try.prog 8 #[.int .i64 m] w fun e w' => e = .returned (.int .i64 k) ∧ w' = w := by
  rw [← h]
  exact cf_count m w
theorem most_is (m y : Int) (b : Bool) (h : mostB m y = b) (w : World) : Calls Try.prog 11 #[.int .i64 m, .int .i64 y] w fun e w' => e = .returned (.bool b) ∧ w' = w := by
  rw [← h]
  exact cf_most m y w
theorem may_is (m y : Int) (b : Bool) (h : mayB m y = b) (w : World) : Calls Try.prog 12 #[.int .i64 m, .int .i64 y] w fun e w' => e = .returned (.bool b) ∧ w' = w := by
  rw [← h]
  exact cf_may m y w
theorem lit_two (u : World) (a b : Int) : Ci.Zs (u.alloc (.cells #[.int .i64 a, .int .i64 b] 3)) (some ⟨u.heap.size, 0, none⟩) 2 2 [a, b] :=
  ⟨rfl, Nat.le_refl _, by omega, .inr ⟨u.heap.size, 0, rfl, fun k hk => by
    rw [Nat.zero_add, cell_of_row _ _ _ _ _ _ (heap_alloc_new u _)]
    rcases k with _ | _ | k
    · rfl
    · rfl
    · simp at hk
      omega⟩⟩
set_option maxHeartbeats 1000000 in
theorem conf_runs (w0 w : World) (hw : Below w0.heap.size w0 w) : Calls Try.prog 3 #[] w fun e w' => e = .returned (.bool true) ∧ Below w0.heap.size w0 w' := by
  have HB0 := Lib.hid hw
  clear hw
  have HU : Hid (upto 5 7 = [0, 2]) := Lib.hid (by decide +kernel)
  go_enter Try.func3, Try.ntmps3
  go_wp2_with fail
  refine (count_is 5 2 (by decide +kernel) _).mono ?_
  rintro e u ⟨rfl, hu⟩
  rw [hu]
  clear hu u
  go_wp2_with fail
  refine (cf_list 5 _).mono ?_
  rintro e w1 ⟨v, rfl, ho, hb⟩
  rw [HU.out] at ho
  obtain ⟨ao, cap, rfl, hz⟩ := Ci.own_zs ho
  have HZ := Lib.hid hz
  have HB1 := Lib.hid (bchain HB0.out hb)
  have HB2 := Lib.hid (below_box HB1.out (.cells #[.int .i64 0, .int .i64 2] 3))
  clear ho hb hz
  go_wp2_with fail
  refine (Ci.same [0, 2] ao _ 2 cap 2 w0 _ HB2.out (HZ.out.below (below_box (Below.refl _ _) _)) (lit_two w1 0 2)).mono ?_
  rintro e w2 ⟨rfl, hb⟩
  have HB3 := Lib.hid hb
  clear hb
  go_wp2_with fail
  refine (most_is 7 3 true (by decide +kernel) _).mono ?_
  rintro e u ⟨rfl, hu⟩
  rw [hu]
  clear hu u
  go_wp2_with fail
  refine (most_is 7 4 false (by decide +kernel) _).mono ?_
  rintro e u ⟨rfl, hu⟩
  rw [hu]
  clear hu u
  go_wp2_with fail
  refine (most_is 3 1 false (by decide +kernel) _).mono ?_
  rintro e u ⟨rfl, hu⟩
  rw [hu]
  clear hu u
  go_wp2_with fail
  refine (most_is 1 1 true (by decide +kernel) _).mono ?_
  rintro e u ⟨rfl, hu⟩
  rw [hu]
  clear hu u
  go_wp2_with fail
  refine (may_is 7 3 true (by decide +kernel) _).mono ?_
  rintro e u ⟨rfl, hu⟩
  rw [hu]
  clear hu u
  go_wp2_with fail
  refine (may_is 7 7 false (by decide +kernel) _).mono ?_
  rintro e u ⟨rfl, hu⟩
  rw [hu]
  clear hu u
  go_wp2_with fail
  refine (may_is 1 0 false (by decide +kernel) _).mono ?_
  rintro e u ⟨rfl, hu⟩
  rw [hu]
  clear hu u
  go_wp2_with fail
  refine (may_is 3 4 false (by decide +kernel) _).mono ?_
  rintro e u ⟨rfl, hu⟩
  rw [hu]
  clear hu u
  go_wp2_with fail
  go_ret
  exact ⟨rfl, HB3.out⟩
end Go.Proofs.Ytnelakpagjdcdaa.Cf
namespace Go.Proofs.Ytnelakpagjdcdaa
open Go.RowKit
theorem confRuns_walk (w : World) : Calls Try.prog 3 #[] w fun e w' => e = .returned (.bool true) ∧ Below w.heap.size w w' := Cf.conf_runs w w (Below.refl _ _)
end Go.Proofs.Ytnelakpagjdcdaa
