/- impostref16.RightLetter of kind 5. (By genrl.py.) -/
import Derived.Test.YtagjbjppddbalaaYLtLtBl
import Derived.Deep.RegionHeld3
set_option maxRecDepth 100000
set_option linter.unusedVariables false
namespace Go.Proofs.Ytagjbjppddbalaa.Lr
open Go.RowKit
open Mem
open Go.Sort (grow)
set_option maxHeartbeats 8000000 in
theorem rl_k5 (frm to term idx bt com mem off size : Int) (yes : Bool) (data : ByteArray) (ao : Option Addr) (n cap : Nat) (w : World) (ans : Bool) (HE : Hid (ans = ((!(idx == 0)) && ((!(bt == 0)) && ((!decide (mem < 1)) && ((!decide (mem ≥ 128)) && ((!decide (size < 1)) && ((!decide (size > 65536)) && ((!decide (off < 0)) && ((!decide (off ≥ size)) && ((!decide ((data.size : Int) < 1)) && ((!decide ((data.size : Int) > 600)) && ((!decide ((data.size : Int) > size - off)) && (decide (n = 0) && ((com == 0) && (yes == false)))))))))))))))) (hcap : n ≤ cap) (hreach : cap ≤ 9223372036854775807) (c2 : ¬ frm < 0) (c3 : ¬ frm ≥ 7) (c4 : ¬ to < 0) (c5 : ¬ to ≥ 7) (c6 : ¬ frm = to) (c7 : ¬ term < 1) (c8 : ¬ term > 1099511627776) (c9 : ¬ idx < 0) (c10 : ¬ idx > 1099511627776) (c11 : ¬ bt < 0) (c12 : ¬ bt > term) (c13 : ¬ com < 0) (c14 : ¬ com > 1099511627776) :
  Calls Try.prog 15 #[Lr.val ⟨5,frm,to,term,idx,bt,com,mem,off,size,yes,data,⟨ao,n,cap⟩⟩] w fun e w' => e = .returned (.bool ans) ∧ Below w.heap.size w w' := by
 have e6 : (frm == to) = false := beq_eq_false_iff_ne.2 c6
 clear c6
 unfold Lr.val
 dsimp only
 go_enter Try.func15,Try.ntmps15
 go_wp2_with fail
 clear c2 c3 c4 c5 c7 c8 c9 c10 c11 c12 c13 c14 e6
 go_region_held3 (fun u => u.cell? ⟨w.heap.size,4,none⟩ = some (.int .i64 idx) ∧ u.cell? ⟨w.heap.size,5,none⟩ = some (.int .i64 bt) ∧ u.cell? ⟨w.heap.size,7,none⟩ = some (.int .i64 mem) ∧ u.cell? ⟨w.heap.size,8,none⟩ = some (.int .i64 off) ∧ u.cell? ⟨w.heap.size,9,none⟩ = some (.int .i64 size) ∧ u.cell? ⟨w.heap.size,11,none⟩ = some (.string data)) (first | with_reducible assumption | (refine ⟨?_,?_,?_,?_,?_,?_⟩ <;> simp [go_sem]) | fail) (first | fail)
 cases t0 : (idx == 0)
 rotate_left
 ·
  rw [t0,Bool.not_true,Bool.false_and] at HE
  go_wp2_with fail
  go_ret
  first | exact ⟨ret_bool HE.out.symm,below_box (below_box (Below.refl _ _) _) _⟩ | exact ⟨ret_bool HE.out.symm,(below_box (below_box (Below.refl _ _) _) _).drew⟩
 rw [t0,Bool.not_false,Bool.true_and] at HE
 cases t1 : (bt == 0)
 rotate_left
 ·
  rw [t1,Bool.not_true,Bool.false_and] at HE
  go_wp2_with fail
  go_ret
  first | exact ⟨ret_bool HE.out.symm,below_box (below_box (Below.refl _ _) _) _⟩ | exact ⟨ret_bool HE.out.symm,(below_box (below_box (Below.refl _ _) _) _).drew⟩
 rw [t1,Bool.not_false,Bool.true_and] at HE
 by_cases t2 : mem < 1
 ·
  rw [decide_eq_true t2,Bool.not_true,Bool.false_and] at HE
  go_wp2_with fail
  go_ret
  first | exact ⟨ret_bool HE.out.symm,below_box (below_box (Below.refl _ _) _) _⟩ | exact ⟨ret_bool HE.out.symm,(below_box (below_box (Below.refl _ _) _) _).drew⟩
 rw [decide_eq_false t2,Bool.not_false,Bool.true_and] at HE
 by_cases t3 : mem ≥ 128
 ·
  rw [decide_eq_true t3,Bool.not_true,Bool.false_and] at HE
  go_wp2_with fail
  go_ret
  first | exact ⟨ret_bool HE.out.symm,below_box (below_box (Below.refl _ _) _) _⟩ | exact ⟨ret_bool HE.out.symm,(below_box (below_box (Below.refl _ _) _) _).drew⟩
 rw [decide_eq_false t3,Bool.not_false,Bool.true_and] at HE
 by_cases t4 : size < 1
 ·
  rw [decide_eq_true t4,Bool.not_true,Bool.false_and] at HE
  go_wp2_with fail
  go_ret
  first | exact ⟨ret_bool HE.out.symm,below_box (below_box (Below.refl _ _) _) _⟩ | exact ⟨ret_bool HE.out.symm,(below_box (below_box (Below.refl _ _) _) _).drew⟩
 rw [decide_eq_false t4,Bool.not_false,Bool.true_and] at HE
 by_cases t5 : size > 65536
 ·
  rw [decide_eq_true t5,Bool.not_true,Bool.false_and] at HE
  go_wp2_with fail
  go_ret
  first | exact ⟨ret_bool HE.out.symm,below_box (below_box (Below.refl _ _) _) _⟩ | exact ⟨ret_bool HE.out.symm,(below_box (below_box (Below.refl _ _) _) _).drew⟩
 rw [decide_eq_false t5,Bool.not_false,Bool.true_and] at HE
 by_cases t6 : off < 0
 ·
  rw [decide_eq_true t6,Bool.not_true,Bool.false_and] at HE
  go_wp2_with fail
  go_ret
  first | exact ⟨ret_bool HE.out.symm,below_box (below_box (Below.refl _ _) _) _⟩ | exact ⟨ret_bool HE.out.symm,(below_box (below_box (Below.refl _ _) _) _).drew⟩
 rw [decide_eq_false t6,Bool.not_false,Bool.true_and] at HE
 by_cases t7 : off ≥ size
 ·
  rw [decide_eq_true t7,Bool.not_true,Bool.false_and] at HE
  go_wp2_with fail
  go_ret
  first | exact ⟨ret_bool HE.out.symm,below_box (below_box (Below.refl _ _) _) _⟩ | exact ⟨ret_bool HE.out.symm,(below_box (below_box (Below.refl _ _) _) _).drew⟩
 rw [decide_eq_false t7,Bool.not_false,Bool.true_and] at HE
 by_cases t8 : (data.size : Int) < 1
 ·
  rw [decide_eq_true t8,Bool.not_true,Bool.false_and] at HE
  go_wp2_with fail
  go_ret
  first | exact ⟨ret_bool HE.out.symm,below_box (below_box (Below.refl _ _) _) _⟩ | exact ⟨ret_bool HE.out.symm,(below_box (below_box (Below.refl _ _) _) _).drew⟩
 rw [decide_eq_false t8,Bool.not_false,Bool.true_and] at HE
 by_cases t9 : (data.size : Int) > 600
 ·
  rw [decide_eq_true t9,Bool.not_true,Bool.false_and] at HE
  go_wp2_with fail
  go_ret
  first | exact ⟨ret_bool HE.out.symm,below_box (below_box (Below.refl _ _) _) _⟩ | exact ⟨ret_bool HE.out.symm,(below_box (below_box (Below.refl _ _) _) _).drew⟩
 rw [decide_eq_false t9,Bool.not_false,Bool.true_and] at HE
 by_cases t10 : (data.size : Int) > size - off
 ·
  rw [decide_eq_true t10,Bool.not_true,Bool.false_and] at HE
  go_wp2_with fail
  go_ret
  first | exact ⟨ret_bool HE.out.symm,below_box (below_box (Below.refl _ _) _) _⟩ | exact ⟨ret_bool HE.out.symm,(below_box (below_box (Below.refl _ _) _) _).drew⟩
 rw [decide_eq_false t10,Bool.not_false,Bool.true_and] at HE
 by_cases hn0 : n = 0
 rotate_left
 ·
  have qn : (0 : Int) < (n : Int) := by omega
  rw [decide_eq_false hn0,Bool.false_and] at HE
  go_wp2_with fail
  go_ret
  first | exact ⟨ret_bool HE.out.symm,below_box (below_box (Below.refl _ _) _) _⟩ | exact ⟨ret_bool HE.out.symm,(below_box (below_box (Below.refl _ _) _) _).drew⟩
 rw [decide_eq_true hn0,Bool.true_and] at HE
 subst hn0
 cases u0 : (com == 0)
 ·
  rw [u0,Bool.false_and] at HE
  go_wp2_with fail
  go_ret
  first | exact ⟨ret_bool HE.out.symm,below_box (below_box (Below.refl _ _) _) _⟩ | exact ⟨ret_bool HE.out.symm,(below_box (below_box (Below.refl _ _) _) _).drew⟩
 rw [u0,Bool.true_and] at HE
 cases u1 : (yes == false)
 ·
  rw [u1] at HE
  go_wp2_with fail
  go_ret
  first | exact ⟨ret_bool HE.out.symm,below_box (below_box (Below.refl _ _) _) _⟩ | exact ⟨ret_bool HE.out.symm,(below_box (below_box (Below.refl _ _) _) _).drew⟩
 ·
  rw [u1] at HE
  go_wp2_with fail
  go_ret
  first | exact ⟨ret_bool HE.out.symm,below_box (below_box (Below.refl _ _) _) _⟩ | exact ⟨ret_bool HE.out.symm,(below_box (below_box (Below.refl _ _) _) _).drew⟩
end Go.Proofs.Ytagjbjppddbalaa.Lr
