/- impostref16.RightLetter of kind 1. (By genrl.py.) -/
import Derived.Test.YtagjbjppddbalaaYLtLtBl
set_option maxRecDepth 100000
set_option linter.unusedVariables false
namespace Go.Proofs.Ytagjbjppddbalaa.Lr
open Go.RowKit
open Mem
open Go.Sort (grow)
set_option maxHeartbeats 8000000 in
theorem rl_k1 (frm to term idx bt com mem off size : Int) (yes : Bool) (data : ByteArray) (ao : Option Addr) (n cap : Nat) (w : World) (ans : Bool) (HE : Hid (ans = (((idx == 0) == (bt == 0)) && (decide (n = 0) && ((com == 0) && ((mem == 0) && ((off == 0) && ((size == 0) && ((yes == false) && (data.toList == [])))))))))) (hcap : n ≤ cap) (hreach : cap ≤ 9223372036854775807) (c2 : ¬ frm < 0) (c3 : ¬ frm ≥ 7) (c4 : ¬ to < 0) (c5 : ¬ to ≥ 7) (c6 : ¬ frm = to) (c7 : ¬ term < 1) (c8 : ¬ term > 1099511627776) (c9 : ¬ idx < 0) (c10 : ¬ idx > 1099511627776) (c11 : ¬ bt < 0) (c12 : ¬ bt > term) (c13 : ¬ com < 0) (c14 : ¬ com > 1099511627776) :
  Calls Try.prog 15 #[Lr.val ⟨1,frm,to,term,idx,bt,com,mem,off,size,yes,data,⟨ao,n,cap⟩⟩] w fun e w' => e = .returned (.bool ans) ∧ Below w.heap.size w w' := by
 have e6 : (frm == to) = false := beq_eq_false_iff_ne.2 c6
 clear c6
 unfold Lr.val
 dsimp only
 go_enter Try.func15,Try.ntmps15
 go_wp2_with fail
 clear c2 c3 c4 c5 c7 c8 c9 c10 c11 c12 c13 c14 e6
 go_region
 cases u8 : (idx == 0)
 ·
  cases p0 : (false == (bt == 0))
  ·
   have p1 : (bt == 0) = true := by
    revert p0
    cases (bt == 0) <;> decide
   rw [u8,p1] at HE
   go_wp2_with fail
   go_ret
   first | exact ⟨ret_bool HE.out.symm,below_box (below_box (Below.refl _ _) _) _⟩ | exact ⟨ret_bool HE.out.symm,(below_box (below_box (Below.refl _ _) _) _).drew⟩
  ·
   have p1 : (bt == 0) = false := by
    revert p0
    cases (bt == 0) <;> decide
   clear p0
   rw [u8,p1,BEq.rfl,Bool.true_and] at HE
   by_cases hn0 : n = 0
   rotate_left
   ·
    have qn : (0 : Int) < (n : Int) := by omega
    rw [decide_eq_false hn0,Bool.false_and] at HE
    go_wp2_with fail
    go_ret
    first | exact ⟨ret_bool HE.out.symm,below_box (below_box (Below.refl _ _) _) _⟩ | exact ⟨ret_bool HE.out.symm,(below_box (below_box (Below.refl _ _) _) _).drew⟩
   rw [decide_eq_true hn0,Bool.true_and] at HE
   subst hn0
   cases u0 : (com == 0)
   ·
    rw [u0,Bool.false_and] at HE
    go_wp2_with fail
    go_ret
    first | exact ⟨ret_bool HE.out.symm,below_box (below_box (Below.refl _ _) _) _⟩ | exact ⟨ret_bool HE.out.symm,(below_box (below_box (Below.refl _ _) _) _).drew⟩
   rw [u0,Bool.true_and] at HE
   cases u1 : (mem == 0)
   ·
    rw [u1,Bool.false_and] at HE
    go_wp2_with fail
    go_ret
    first | exact ⟨ret_bool HE.out.symm,below_box (below_box (Below.refl _ _) _) _⟩ | exact ⟨ret_bool HE.out.symm,(below_box (below_box (Below.refl _ _) _) _).drew⟩
   rw [u1,Bool.true_and] at HE
   cases u2 : (off == 0)
   ·
    rw [u2,Bool.false_and] at HE
    go_wp2_with fail
    go_ret
    first | exact ⟨ret_bool HE.out.symm,below_box (below_box (Below.refl _ _) _) _⟩ | exact ⟨ret_bool HE.out.symm,(below_box (below_box (Below.refl _ _) _) _).drew⟩
   rw [u2,Bool.true_and] at HE
   cases u3 : (size == 0)
   ·
    rw [u3,Bool.false_and] at HE
    go_wp2_with fail
    go_ret
    first | exact ⟨ret_bool HE.out.symm,below_box (below_box (Below.refl _ _) _) _⟩ | exact ⟨ret_bool HE.out.symm,(below_box (below_box (Below.refl _ _) _) _).drew⟩
   rw [u3,Bool.true_and] at HE
   cases u4 : (yes == false)
   ·
    rw [u4,Bool.false_and] at HE
    go_wp2_with fail
    go_ret
    first | exact ⟨ret_bool HE.out.symm,below_box (below_box (Below.refl _ _) _) _⟩ | exact ⟨ret_bool HE.out.symm,(below_box (below_box (Below.refl _ _) _) _).drew⟩
   rw [u4,Bool.true_and] at HE
   cases u5 : (data.toList == [])
   ·
    rw [u5] at HE
    go_wp2_with fail
    go_ret
    first | exact ⟨ret_bool HE.out.symm,below_box (below_box (Below.refl _ _) _) _⟩ | exact ⟨ret_bool HE.out.symm,(below_box (below_box (Below.refl _ _) _) _).drew⟩
   ·
    rw [u5] at HE
    go_wp2_with fail
    go_ret
    first | exact ⟨ret_bool HE.out.symm,below_box (below_box (Below.refl _ _) _) _⟩ | exact ⟨ret_bool HE.out.symm,(below_box (below_box (Below.refl _ _) _) _).drew⟩
 ·
  cases p0 : (true == (bt == 0))
  ·
   have p1 : (bt == 0) = false := by
    revert p0
    cases (bt == 0) <;> decide
   rw [u8,p1] at HE
   go_wp2_with fail
   go_ret
   first | exact ⟨ret_bool HE.out.symm,below_box (below_box (Below.refl _ _) _) _⟩ | exact ⟨ret_bool HE.out.symm,(below_box (below_box (Below.refl _ _) _) _).drew⟩
  ·
   have p1 : (bt == 0) = true := by
    revert p0
    cases (bt == 0) <;> decide
   clear p0
   rw [u8,p1,BEq.rfl,Bool.true_and] at HE
   by_cases hn0 : n = 0
   rotate_left
   ·
    have qn : (0 : Int) < (n : Int) := by omega
    rw [decide_eq_false hn0,Bool.false_and] at HE
    go_wp2_with fail
    go_ret
    first | exact ⟨ret_bool HE.out.symm,below_box (below_box (Below.refl _ _) _) _⟩ | exact ⟨ret_bool HE.out.symm,(below_box (below_box (Below.refl _ _) _) _).drew⟩
   rw [decide_eq_true hn0,Bool.true_and] at HE
   subst hn0
   cases u0 : (com == 0)
   ·
    rw [u0,Bool.false_and] at HE
    go_wp2_with fail
    go_ret
    first | exact ⟨ret_bool HE.out.symm,below_box (below_box (Below.refl _ _) _) _⟩ | exact ⟨ret_bool HE.out.symm,(below_box (below_box (Below.refl _ _) _) _).drew⟩
   rw [u0,Bool.true_and] at HE
   cases u1 : (mem == 0)
   ·
    rw [u1,Bool.false_and] at HE
    go_wp2_with fail
    go_ret
    first | exact ⟨ret_bool HE.out.symm,below_box (below_box (Below.refl _ _) _) _⟩ | exact ⟨ret_bool HE.out.symm,(below_box (below_box (Below.refl _ _) _) _).drew⟩
   rw [u1,Bool.true_and] at HE
   cases u2 : (off == 0)
   ·
    rw [u2,Bool.false_and] at HE
    go_wp2_with fail
    go_ret
    first | exact ⟨ret_bool HE.out.symm,below_box (below_box (Below.refl _ _) _) _⟩ | exact ⟨ret_bool HE.out.symm,(below_box (below_box (Below.refl _ _) _) _).drew⟩
   rw [u2,Bool.true_and] at HE
   cases u3 : (size == 0)
   ·
    rw [u3,Bool.false_and] at HE
    go_wp2_with fail
    go_ret
    first | exact ⟨ret_bool HE.out.symm,below_box (below_box (Below.refl _ _) _) _⟩ | exact ⟨ret_bool HE.out.symm,(below_box (below_box (Below.refl _ _) _) _).drew⟩
   rw [u3,Bool.true_and] at HE
   cases u4 : (yes == false)
   ·
    rw [u4,Bool.false_and] at HE
    go_wp2_with fail
    go_ret
    first | exact ⟨ret_bool HE.out.symm,below_box (below_box (Below.refl _ _) _) _⟩ | exact ⟨ret_bool HE.out.symm,(below_box (below_box (Below.refl _ _) _) _).drew⟩
   rw [u4,Bool.true_and] at HE
   cases u5 : (data.toList == [])
   ·
    rw [u5] at HE
    go_wp2_with fail
    go_ret
    first | exact ⟨ret_bool HE.out.symm,below_box (below_box (Below.refl _ _) _) _⟩ | exact ⟨ret_bool HE.out.symm,(below_box (below_box (Below.refl _ _) _) _).drew⟩
   ·
    rw [u5] at HE
    go_wp2_with fail
    go_ret
    first | exact ⟨ret_bool HE.out.symm,below_box (below_box (Below.refl _ _) _) _⟩ | exact ⟨ret_bool HE.out.symm,(below_box (below_box (Below.refl _ _) _) _).drew⟩
end Go.Proofs.Ytagjbjppddbalaa.Lr
