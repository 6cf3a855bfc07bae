/- impostref16.RightEntry. (By genwre.py.) -/
import Derived.Test.YtagjbjppddbalaaZLt2
set_option maxRecDepth 100000
set_option linter.unusedVariables false
namespace Go.Proofs.Ytagjbjppddbalaa.Wl
open Go.RowKit
open Mem
open Go.Sort (grow)
def rEntry (e : Et.T) (b m : Int) : Bool := decide (1 ≤ e.term) && (decide (b ≤ e.term) && (decide (e.term ≤ m) && (decide (0 ≤ e.mem) && (decide (e.mem < 128) && (decide ((e.data.size : Int) ≤ 1100) && ((e.mem == 0) || (e.data.toList == [])))))))
set_option maxHeartbeats 4000000 in
theorem rf_entry (x : Et.T) (b m : Int) (w : World) (hs : Et.Short x) :
  Calls Try.prog 31 #[Et.val x,.int .i64 b,.int .i64 m] w fun e w' => e = .returned (.bool (rEntry x b m)) ∧ Below w.heap.size w w' := by
 have hz := hs.2.2
 obtain ⟨W,hW,hbW,hC⟩ := Et.boxed1 w x
 have HB := Lib.hid hbW
 have HE : Hid (rEntry x b m = (decide (1 ≤ x.term) && (decide (b ≤ x.term) && (decide (x.term ≤ m) && (decide (0 ≤ x.mem) && (decide (x.mem < 128) && (decide ((x.data.size : Int) ≤ 1100) && ((x.mem == 0) || (x.data.toList == [])))))))) ) := Lib.hid rfl
 unfold Et.C at hC
 obtain ⟨k0,k1,k2⟩ := hC
 clear hbW hs
 unfold Et.val
 by_cases c0 : 1 ≤ x.term
 rotate_left
 ·
  rw [decide_eq_false c0,Bool.false_and] at HE
  go_enter Try.func31,Try.ntmps31
  go_wp2_with fail
  go_ret
  exact ⟨ret_bool HE.out.symm,HB.out⟩
 rw [decide_eq_true c0,Bool.true_and] at HE
 by_cases c1 : b ≤ x.term
 rotate_left
 ·
  rw [decide_eq_false c1,Bool.false_and] at HE
  go_enter Try.func31,Try.ntmps31
  go_wp2_with fail
  go_ret
  exact ⟨ret_bool HE.out.symm,HB.out⟩
 rw [decide_eq_true c1,Bool.true_and] at HE
 by_cases c2 : x.term ≤ m
 rotate_left
 ·
  rw [decide_eq_false c2,Bool.false_and] at HE
  go_enter Try.func31,Try.ntmps31
  go_wp2_with fail
  go_ret
  exact ⟨ret_bool HE.out.symm,HB.out⟩
 rw [decide_eq_true c2,Bool.true_and] at HE
 by_cases c3 : 0 ≤ x.mem
 rotate_left
 ·
  rw [decide_eq_false c3,Bool.false_and] at HE
  go_enter Try.func31,Try.ntmps31
  go_wp2_with fail
  go_ret
  exact ⟨ret_bool HE.out.symm,HB.out⟩
 rw [decide_eq_true c3,Bool.true_and] at HE
 by_cases c4 : x.mem < 128
 rotate_left
 ·
  rw [decide_eq_false c4,Bool.false_and] at HE
  go_enter Try.func31,Try.ntmps31
  go_wp2_with fail
  go_ret
  exact ⟨ret_bool HE.out.symm,HB.out⟩
 rw [decide_eq_true c4,Bool.true_and] at HE
 by_cases c5 : (x.data.size : Int) ≤ 1100
 rotate_left
 ·
  rw [decide_eq_false c5,Bool.false_and] at HE
  go_enter Try.func31,Try.ntmps31
  go_wp2_with fail
  go_ret
  exact ⟨ret_bool HE.out.symm,HB.out⟩
 rw [decide_eq_true c5,Bool.true_and] at HE
 cases q1 : (x.mem == 0)
 ·
  rw [q1,Bool.false_or] at HE
  cases q2 : (x.data.toList == [])
  ·
   rw [q2] at HE
   go_enter Try.func31,Try.ntmps31
   go_wp2_with fail
   go_ret
   exact ⟨ret_bool HE.out.symm,HB.out⟩
  ·
   rw [q2] at HE
   go_enter Try.func31,Try.ntmps31
   go_wp2_with fail
   go_ret
   exact ⟨ret_bool HE.out.symm,HB.out⟩
 ·
  rw [q1,Bool.true_or] at HE
  go_enter Try.func31,Try.ntmps31
  go_wp2_with fail
  go_ret
  exact ⟨ret_bool HE.out.symm,HB.out⟩
end Go.Proofs.Ytagjbjppddbalaa.Wl
