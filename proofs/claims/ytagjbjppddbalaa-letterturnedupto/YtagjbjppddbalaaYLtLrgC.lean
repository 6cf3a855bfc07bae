/- impostref16.RightLetter: ways out. (By genrl.py.) -/
import Derived.Test.YtagjbjppddbalaaZLt2
import Derived.Test.YtagjbjppddbalaaYLtLtBl
set_option maxRecDepth 100000
set_option linter.unusedVariables false
namespace Go.Proofs.Ytagjbjppddbalaa.Lr
open Go.RowKit
open Mem
open Go.Sort (grow)
set_option maxHeartbeats 4000000 in
theorem rl_no10 (r : Lr.T) (w : World) (c0 : ¬ r.kind < 1) (c1 : ¬ r.kind > 6) (c2 : ¬ r.frm < 0) (c3 : ¬ r.frm ≥ 7) (c4 : ¬ r.to < 0) (c5 : ¬ r.to ≥ 7) (c6 : ¬ r.frm = r.to) (c7 : ¬ r.term < 1) (c8 : ¬ r.term > 1099511627776) (c9 : ¬ r.idx < 0) (c10 : r.idx > 1099511627776) :
  Calls Try.prog 15 #[Lr.val r] w fun e w' => e = .returned (.bool false) ∧ Below w.heap.size w w' := by
 obtain ⟨kind,frm,to,term,idx,bt,com,mem,off,size,yes,data,⟨ao,n,cap⟩⟩ := r
 dsimp only at *
 unfold Lr.val
 dsimp only
 have e6 : (frm == to) = false := beq_eq_false_iff_ne.2 c6
 clear c6
 go_enter Try.func15,Try.ntmps15
 go_wp2_with fail
 go_ret
 exact ⟨rfl,below_box (Below.refl _ _) _⟩
set_option maxHeartbeats 4000000 in
theorem rl_no11 (r : Lr.T) (w : World) (c0 : ¬ r.kind < 1) (c1 : ¬ r.kind > 6) (c2 : ¬ r.frm < 0) (c3 : ¬ r.frm ≥ 7) (c4 : ¬ r.to < 0) (c5 : ¬ r.to ≥ 7) (c6 : ¬ r.frm = r.to) (c7 : ¬ r.term < 1) (c8 : ¬ r.term > 1099511627776) (c9 : ¬ r.idx < 0) (c10 : ¬ r.idx > 1099511627776) (c11 : r.bt < 0) :
  Calls Try.prog 15 #[Lr.val r] w fun e w' => e = .returned (.bool false) ∧ Below w.heap.size w w' := by
 obtain ⟨kind,frm,to,term,idx,bt,com,mem,off,size,yes,data,⟨ao,n,cap⟩⟩ := r
 dsimp only at *
 unfold Lr.val
 dsimp only
 have e6 : (frm == to) = false := beq_eq_false_iff_ne.2 c6
 clear c6
 go_enter Try.func15,Try.ntmps15
 go_wp2_with fail
 go_ret
 exact ⟨rfl,below_box (Below.refl _ _) _⟩
set_option maxHeartbeats 4000000 in
theorem rl_no12 (r : Lr.T) (w : World) (c0 : ¬ r.kind < 1) (c1 : ¬ r.kind > 6) (c2 : ¬ r.frm < 0) (c3 : ¬ r.frm ≥ 7) (c4 : ¬ r.to < 0) (c5 : ¬ r.to ≥ 7) (c6 : ¬ r.frm = r.to) (c7 : ¬ r.term < 1) (c8 : ¬ r.term > 1099511627776) (c9 : ¬ r.idx < 0) (c10 : ¬ r.idx > 1099511627776) (c11 : ¬ r.bt < 0) (c12 : r.bt > r.term) :
  Calls Try.prog 15 #[Lr.val r] w fun e w' => e = .returned (.bool false) ∧ Below w.heap.size w w' := by
 obtain ⟨kind,frm,to,term,idx,bt,com,mem,off,size,yes,data,⟨ao,n,cap⟩⟩ := r
 dsimp only at *
 unfold Lr.val
 dsimp only
 have e6 : (frm == to) = false := beq_eq_false_iff_ne.2 c6
 clear c6
 go_enter Try.func15,Try.ntmps15
 go_wp2_with fail
 go_ret
 exact ⟨rfl,below_box (Below.refl _ _) _⟩
set_option maxHeartbeats 4000000 in
theorem rl_no13 (r : Lr.T) (w : World) (c0 : ¬ r.kind < 1) (c1 : ¬ r.kind > 6) (c2 : ¬ r.frm < 0) (c3 : ¬ r.frm ≥ 7) (c4 : ¬ r.to < 0) (c5 : ¬ r.to ≥ 7) (c6 : ¬ r.frm = r.to) (c7 : ¬ r.term < 1) (c8 : ¬ r.term > 1099511627776) (c9 : ¬ r.idx < 0) (c10 : ¬ r.idx > 1099511627776) (c11 : ¬ r.bt < 0) (c12 : ¬ r.bt > r.term) (c13 : r.com < 0) :
  Calls Try.prog 15 #[Lr.val r] w fun e w' => e = .returned (.bool false) ∧ Below w.heap.size w w' := by
 obtain ⟨kind,frm,to,term,idx,bt,com,mem,off,size,yes,data,⟨ao,n,cap⟩⟩ := r
 dsimp only at *
 unfold Lr.val
 dsimp only
 have e6 : (frm == to) = false := beq_eq_false_iff_ne.2 c6
 clear c6
 go_enter Try.func15,Try.ntmps15
 go_wp2_with fail
 go_ret
 exact ⟨rfl,below_box (Below.refl _ _) _⟩
set_option maxHeartbeats 4000000 in
theorem rl_no14 (r : Lr.T) (w : World) (c0 : ¬ r.kind < 1) (c1 : ¬ r.kind > 6) (c2 : ¬ r.frm < 0) (c3 : ¬ r.frm ≥ 7) (c4 : ¬ r.to < 0) (c5 : ¬ r.to ≥ 7) (c6 : ¬ r.frm = r.to) (c7 : ¬ r.term < 1) (c8 : ¬ r.term > 1099511627776) (c9 : ¬ r.idx < 0) (c10 : ¬ r.idx > 1099511627776) (c11 : ¬ r.bt < 0) (c12 : ¬ r.bt > r.term) (c13 : ¬ r.com < 0) (c14 : r.com > 1099511627776) :
  Calls Try.prog 15 #[Lr.val r] w fun e w' => e = .returned (.bool false) ∧ Below w.heap.size w w' := by
 obtain ⟨kind,frm,to,term,idx,bt,com,mem,off,size,yes,data,⟨ao,n,cap⟩⟩ := r
 dsimp only at *
 unfold Lr.val
 dsimp only
 have e6 : (frm == to) = false := beq_eq_false_iff_ne.2 c6
 clear c6
 go_enter Try.func15,Try.ntmps15
 go_wp2_with fail
 go_ret
 exact ⟨rfl,below_box (Below.refl _ _) _⟩
end Go.Proofs.Ytagjbjppddbalaa.Lr
