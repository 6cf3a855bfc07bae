/- impostref16.RightLetter of kind 2. (By genrl.py.) -/
import Derived.Test.YtagjbjppddbalaaYLtLtBl
set_option maxRecDepth 100000
set_option linter.unusedVariables false
namespace Go.Proofs.Ytagjbjppddbalaa.Lr
open Go.RowKit
open Mem
open Go.Sort (grow)
set_option maxHeartbeats 8000000 in
theorem rl_k2_3 (frm to term idx bt com mem off size : Int) (yes : Bool) (data : ByteArray) (ao : Option Addr) (n cap : Nat) (w : World) (hcap : n ≤ cap) (hreach : cap ≤ 9223372036854775807) (c2 : ¬ frm < 0) (c3 : ¬ frm ≥ 7) (c4 : ¬ to < 0) (c5 : ¬ to ≥ 7) (c6 : ¬ frm = to) (c7 : ¬ term < 1) (c8 : ¬ term > 1099511627776) (c9 : ¬ idx < 0) (c10 : ¬ idx > 1099511627776) (c11 : ¬ bt < 0) (c12 : ¬ bt > term) (c13 : ¬ com < 0) (c14 : ¬ com > 1099511627776) (hn0 : n = 0) (u0 : (idx == 0) = true) (u1 : (bt == 0) = true) (u2 : (com == 0) = false) :
  Calls Try.prog 15 #[Lr.val ⟨2,frm,to,term,idx,bt,com,mem,off,size,yes,data,⟨ao,n,cap⟩⟩] w fun e w' => e = .returned (.bool false) ∧ Below w.heap.size w w' := by
 have e6 : (frm == to) = false := beq_eq_false_iff_ne.2 c6
 clear c6
 unfold Lr.val
 dsimp only
 subst hn0
 go_enter Try.func15,Try.ntmps15
 go_wp2_with fail
 go_ret
 first | exact ⟨rfl,below_box (below_box (Below.refl _ _) _) _⟩ | exact ⟨rfl,(below_box (below_box (Below.refl _ _) _) _).drew⟩
set_option maxHeartbeats 8000000 in
theorem rl_k2_4 (frm to term idx bt com mem off size : Int) (yes : Bool) (data : ByteArray) (ao : Option Addr) (n cap : Nat) (w : World) (hcap : n ≤ cap) (hreach : cap ≤ 9223372036854775807) (c2 : ¬ frm < 0) (c3 : ¬ frm ≥ 7) (c4 : ¬ to < 0) (c5 : ¬ to ≥ 7) (c6 : ¬ frm = to) (c7 : ¬ term < 1) (c8 : ¬ term > 1099511627776) (c9 : ¬ idx < 0) (c10 : ¬ idx > 1099511627776) (c11 : ¬ bt < 0) (c12 : ¬ bt > term) (c13 : ¬ com < 0) (c14 : ¬ com > 1099511627776) (hn0 : n = 0) (u0 : (idx == 0) = true) (u1 : (bt == 0) = true) (u2 : (com == 0) = true) (u3 : (mem == 0) = false) :
  Calls Try.prog 15 #[Lr.val ⟨2,frm,to,term,idx,bt,com,mem,off,size,yes,data,⟨ao,n,cap⟩⟩] w fun e w' => e = .returned (.bool false) ∧ Below w.heap.size w w' := by
 have e6 : (frm == to) = false := beq_eq_false_iff_ne.2 c6
 clear c6
 unfold Lr.val
 dsimp only
 subst hn0
 go_enter Try.func15,Try.ntmps15
 go_wp2_with fail
 go_ret
 first | exact ⟨rfl,below_box (below_box (Below.refl _ _) _) _⟩ | exact ⟨rfl,(below_box (below_box (Below.refl _ _) _) _).drew⟩
set_option maxHeartbeats 8000000 in
theorem rl_k2_5 (frm to term idx bt com mem off size : Int) (yes : Bool) (data : ByteArray) (ao : Option Addr) (n cap : Nat) (w : World) (hcap : n ≤ cap) (hreach : cap ≤ 9223372036854775807) (c2 : ¬ frm < 0) (c3 : ¬ frm ≥ 7) (c4 : ¬ to < 0) (c5 : ¬ to ≥ 7) (c6 : ¬ frm = to) (c7 : ¬ term < 1) (c8 : ¬ term > 1099511627776) (c9 : ¬ idx < 0) (c10 : ¬ idx > 1099511627776) (c11 : ¬ bt < 0) (c12 : ¬ bt > term) (c13 : ¬ com < 0) (c14 : ¬ com > 1099511627776) (hn0 : n = 0) (u0 : (idx == 0) = true) (u1 : (bt == 0) = true) (u2 : (com == 0) = true) (u3 : (mem == 0) = true) (u4 : (off == 0) = false) :
  Calls Try.prog 15 #[Lr.val ⟨2,frm,to,term,idx,bt,com,mem,off,size,yes,data,⟨ao,n,cap⟩⟩] w fun e w' => e = .returned (.bool false) ∧ Below w.heap.size w w' := by
 have e6 : (frm == to) = false := beq_eq_false_iff_ne.2 c6
 clear c6
 unfold Lr.val
 dsimp only
 subst hn0
 go_enter Try.func15,Try.ntmps15
 go_wp2_with fail
 go_ret
 first | exact ⟨rfl,below_box (below_box (Below.refl _ _) _) _⟩ | exact ⟨rfl,(below_box (below_box (Below.refl _ _) _) _).drew⟩
end Go.Proofs.Ytagjbjppddbalaa.Lr
