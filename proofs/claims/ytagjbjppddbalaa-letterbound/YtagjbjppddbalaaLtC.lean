/- CONTRACTS OF PACKAGE letter: Right. -/
import Derived.Test.YtagjbjppddbalaaLtB
set_option maxRecDepth 100000
set_option linter.unusedVariables false
namespace Go.Proofs.Ytagjbjppddbalaa
open Go.RowKit
open Mem
open Go.Sort (grow)

theorem headed_ag (r : Lr.T) (l : List Et.T) (u : World) (i : Nat) (os : Array Obj) : AnsW 35 #[Lr.val r] u i os (.bool (Lr.headB (Lr.m r l))) := Calls.regrown_of (lt_headed r l _)
theorem all_ag (r : Lr.T) (l : List Et.T) (u : World) (hn : r.ents.n = l.length) (i : Nat) (os : Array Obj) : AnsW 36 #[Lr.val r] u i os (Lr.coV (Lr.allM (Lr.m r l))) := Calls.regrown_of (lt_all r l _ hn)
theorem named_ag (r : Lr.T) (l : List Et.T) (u : World) (hn : r.ents.n = l.length) (i : Nat) (os : Array Obj) : AnsW 37 #[Lr.val r] u i os (Lr.coV (Lr.namedM (Lr.m r l))) := Calls.regrown_of (lt_named r l _ hn)
theorem fits_ag (r : Lr.T) (l : List Et.T) (u : World) (hl : Et.Ls u r.ents.ao r.ents.n r.ents.cap l) (i : Nat) (os : Array Obj) : AnsW 38 #[Lr.val r] u i os (.bool (Lr.fitsB (Lr.m r l))) := Calls.regrown_of (lt_fits r l _ (hl.below (below_regrown u i os)))
theorem Lr.txt_eq (a b : ByteArray) : a.toList = b.toList ↔ a = b := by
  constructor
  · intro h
    rw [ByteArray.toList_eq, ByteArray.toList_eq] at h
    exact ByteArray.ext (Array.toList_inj.1 h)
  · rintro rfl
    rfl
theorem Lr.co_eql (a b : Lr.Co) (w : World) : (binOp .eql 58 (Lr.coV a) (Lr.coV b)).run Try.prog w = .ok (.bool (Lr.Co.eqB a b)) w := by
  unfold Lr.coV
  by_cases h : a = b
  · subst h
    rw [(Lr.Co.eqB_iff a a).2 rfl]
    simp [go_sem, Try.underlying58]
  · have h' : ¬ (a.idx = b.idx ∧ a.bt = b.bt ∧ a.com = b.com ∧ a.mem = b.mem ∧ a.off = b.off ∧ a.size = b.size ∧ a.yes = b.yes ∧ a.data = b.data ∧ a.n = b.n) := fun k => h ((Lr.Co.eqB_iff a b).1 (decide_eq_true k))
    rw [Bool.eq_false_iff.2 fun k => h ((Lr.Co.eqB_iff a b).1 k)]
    simp only [← Lr.txt_eq] at h'
    simp [go_sem, Try.underlying58]
    exact fun p0 p1 p2 p3 p4 p5 p6 p7 p8 => h' ⟨p0, p1, p2, p3, p4, p5, p6, p7, p8⟩
theorem Lr.co_guard (x y : Operand) (a b : Lr.Co) (w : World) : (eqGuard .eql 58 x y (Lr.coV a) (Lr.coV b)).run Try.prog w = .ok () w := by
  unfold Lr.coV
  exact run_eqGuard_agg w _ _ _ _ _ _ (by kernel_rfl)
set_option maxHeartbeats 2000000 in
theorem lt_right (r : Lr.T) (l : List Et.T) (w : World) (hl : Et.Ls w r.ents.ao r.ents.n r.ents.cap l) :
    Calls Try.prog 17 #[Lr.val r] w fun e w' => e = .returned (.bool (Lr.rightB (Lr.m r l))) ∧ Below w.heap.size w w' := by
  obtain ⟨W, hW, hbW, hC⟩ := Lr.boxed1 w r
  have HBW := Lib.hid hbW
  have c1 := headed_ag r l W
  have c2 := all_ag r l W hl.len
  have c3 := named_ag r l W hl.len
  have c4 := fits_ag r l W (hl.below hbW)
  have HE : Hid (Lr.rightB (Lr.m r l) = (Lr.headB (Lr.m r l) && (Lr.Co.eqB (Lr.allM (Lr.m r l)) (Lr.namedM (Lr.m r l)) && Lr.fitsB (Lr.m r l)))) := Lib.hid rfl
  have HQ := fun w => Lr.co_eql (Lr.allM (Lr.m r l)) (Lr.namedM (Lr.m r l)) w
  have HG := fun x y w => Lr.co_guard x y (Lr.allM (Lr.m r l)) (Lr.namedM (Lr.m r l)) w
  obtain ⟨cA, hA⟩ : ∃ c, Lr.coV (Lr.allM (Lr.m r l)) = c := ⟨_, rfl⟩
  obtain ⟨cB, hB⟩ : ∃ c, Lr.coV (Lr.namedM (Lr.m r l)) = c := ⟨_, rfl⟩
  rw [hA] at c2 HQ HG
  rw [hB] at c3 HQ HG
  clear hA hB
  unfold AnsW Lr.val at c1 c2 c3 c4
  unfold Lr.C at hC
  obtain ⟨a0, a1, a2, a3, a4, a5, a6, a7, a8, a9, a10, a11, a12⟩ := hC
  have a0' := cell_regrown a0
  have a1' := cell_regrown a1
  have a2' := cell_regrown a2
  have a3' := cell_regrown a3
  have a4' := cell_regrown a4
  have a5' := cell_regrown a5
  have a6' := cell_regrown a6
  have a7' := cell_regrown a7
  have a8' := cell_regrown a8
  have a9' := cell_regrown a9
  have a10' := cell_regrown a10
  have a11' := cell_regrown a11
  have a12' := cell_regrown a12
  clear a0 a1 a2 a3 a4 a5 a6 a7 a8 a9 a10 a11 a12 hbW hl
  unfold Lr.val
  cases q1 : Lr.headB (Lr.m r l)
  · rw [q1] at c1
    rw [q1, Bool.false_and] at HE
    clear HQ HG
    go_enter Try.func17, Try.ntmps17
    go_wp2_with fail
    clear hW
    refine wp_region_quiet_below (by kernel_rfl) (by kernel_rfl) ?_
    repeat (first | go_big_quiet_step ((go_at_call 35; with_reducible exact c1 _ _)) | quiet_step ((go_at_call 35; with_reducible exact c1 _ _)))
    refine wpQuiet_nil ?_
    intro _ hw'
    obtain ⟨⟨dq, osq⟩, hw''⟩ := hw'
    subst hw''
    have HB2 := Lib.hid (bchain HBW.out (below_regrown W dq osq))
    go_wp2_with fail
    go_ret
    exact ⟨ret_bool HE.out.symm, HB2.out⟩
  rw [q1] at c1
  rw [q1, Bool.true_and] at HE
  cases q2 : Lr.Co.eqB (Lr.allM (Lr.m r l)) (Lr.namedM (Lr.m r l))
  · rw [q2] at HQ
    rw [q2, Bool.false_and] at HE
    clear q1 q2
    go_enter Try.func17, Try.ntmps17
    go_wp2_with fail
    clear hW
    refine wp_region_quiet_below (by kernel_rfl) (by kernel_rfl) ?_
    repeat (first | go_big_quiet_step (first | (go_at_call 35; with_reducible exact c1 _ _) | (go_at_call 36; with_reducible exact c2 _ _) | (go_at_call 37; with_reducible exact c3 _ _)) | quiet_step (first | (go_at_call 35; with_reducible exact c1 _ _) | (go_at_call 36; with_reducible exact c2 _ _) | (go_at_call 37; with_reducible exact c3 _ _)))
    refine wpQuiet_nil ?_
    intro _ hw'
    obtain ⟨⟨dq, osq⟩, hw''⟩ := hw'
    subst hw''
    have HB2 := Lib.hid (bchain HBW.out (below_regrown W dq osq))
    go_wp2_with fail
    go_ret
    exact ⟨ret_bool HE.out.symm, HB2.out⟩
  · rw [q2] at HQ
    rw [q2, Bool.true_and] at HE
    clear q1 q2
    go_enter Try.func17, Try.ntmps17
    go_wp2_with fail
    clear hW
    refine wp_region_quiet_below (by kernel_rfl) (by kernel_rfl) ?_
    repeat (first | go_big_quiet_step (first | (go_at_call 35; with_reducible exact c1 _ _) | (go_at_call 36; with_reducible exact c2 _ _) | (go_at_call 37; with_reducible exact c3 _ _) | (go_at_call 38; with_reducible exact c4 _ _)) | quiet_step (first | (go_at_call 35; with_reducible exact c1 _ _) | (go_at_call 36; with_reducible exact c2 _ _) | (go_at_call 37; with_reducible exact c3 _ _) | (go_at_call 38; with_reducible exact c4 _ _)))
    refine wpQuiet_nil ?_
    intro _ hw'
    obtain ⟨⟨dq, osq⟩, hw''⟩ := hw'
    subst hw''
    have HB2 := Lib.hid (bchain HBW.out (below_regrown W dq osq))
    go_wp2_with fail
    go_ret
    exact ⟨ret_bool HE.out.symm, HB2.out⟩
end Go.Proofs.Ytagjbjppddbalaa
