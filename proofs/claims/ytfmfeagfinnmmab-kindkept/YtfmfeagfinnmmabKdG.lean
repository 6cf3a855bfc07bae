/- CONTRACTS OF PACKAGE kind: fault. (By genfault.py.) -/
import Derived.Test.YtfmfeagfinnmmabKdC
set_option linter.unusedVariables false
namespace Go.Proofs.Ytfmfeagfinnmmab
open Go.RowKit
open Go.Sort (grow)
open Vl (T)
open Mem Tg

def Ans (f : FuncId) (args : Array Value) (u : World) (i : Nat) (os : Array Obj) (v : Value) : Prop :=
  Calls Try.prog f args (grow (redrawn u i) os) fun e w'' => e = .returned v ∧ ∃ p : Regrown, w'' = grow (redrawn u p.d) p.os
theorem named_agg (x : T) (u : World) (i : Nat) (os : Array Obj) : Ans 30 #[.agg #[.int .i64 x.kind, .int .i64 x.n, .string x.text, .int .i64 x.y, .int .i64 x.m, .int .i64 x.d]] u i os (Vl.val (nm x)) :=
  Calls.regrown_of (kind_named x _ _ (Below.refl _ _))
theorem toList_nil {s : ByteArray} (h : s.toList = []) : s = .empty := txt_ext (by rw [← tl, h]; rfl)
/-- what fault answers -/
def faultP (x : T) (deep : Nat) (w0 w : World) : Prop := Calls Try.prog 27 #[.agg #[.int .i64 x.kind, .int .i64 x.n, .string x.text, .int .i64 x.y, .int .i64 x.m, .int .i64 x.d], .int .i64 (deep : Int)] w fun e w' => e = .returned (.int .i64 (Kd.chk x deep)) ∧ Below w0.heap.size w0 w'

set_option maxHeartbeats 2000000 in
theorem fault_bad0 (n : Int) (text : ByteArray) (y m d : Int) (deep : Nat) (hd : deep ≤ 1000) (w0 w : World) (hw : Below w0.heap.size w0 w) (hb : ¬ (n = 0 ∧ text.toList = [] ∧ y = 0 ∧ m = 0 ∧ d = 0)) : faultP ⟨0, n, text, y, m, d⟩ deep w0 w := by
  have HW := Lib.hid hw
  have HE := Lib.hid (Kd.chk_bad (x := ⟨0, n, text, y, m, d⟩) (deep := deep) (fun h => absurd h.1 (by show (0 : Int) ≠ 5; omega)) (by show (0 : Int) ≤ 0; omega) (by show (0 : Int) ≤ 5; omega) (fun h => hb (by
    unfold Kd.good at h
    simp at h
    refine ⟨?_, ?_, ?_, ?_, ?_⟩ <;> simp [h])))
  obtain ⟨W, hW, hbW, hC⟩ := Vl.boxed1 w ⟨0, n, text, y, m, d⟩
  dsimp only at hW
  have HBW := Lib.hid (bchain HW.out hbW)
  unfold Vl.C at hC
  dsimp only at hC
  obtain ⟨g0, g1, g2, g3, g4, g5⟩ := hC
  have g0' := cell_regrown g0
  have g1' := cell_regrown g1
  have g2' := cell_regrown g2
  have g3' := cell_regrown g3
  have g4' := cell_regrown g4
  have g5' := cell_regrown g5
  have c1 := named_agg ⟨0, n, text, y, m, d⟩
  unfold nm Vl.val at c1
  simp at c1
  clear hbW hw
  unfold faultP
  dsimp only
  go_enter Try.func27, Try.ntmps27
  go_wp2
  refine wp_region_quiet_below (by kernel_rfl) (by kernel_rfl) ?_
  repeat (first | go_big_quiet_step (first | (go_at_call 30; exact c1 _ _ _)) | quiet_step (first | (go_at_call 30; exact c1 _ _ _)))
  refine wpQuiet_step (fun K hK => ?_)
  go_simp
  refine ⟨.bool true, fun _ => ?_, hK _ ?_⟩
  · clear hK c1 g0' g1' g2' g3' g4' g5' g0 g1 g2 g3 g4 g5 HE HBW HW hW
    by_cases z_n : n = 0 <;> by_cases z_text : text.toList = [] <;> by_cases z_y : y = 0 <;> by_cases z_m : m = 0 <;> by_cases z_d : d = 0 <;> simp_all
  · clear hK K
    repeat (first | go_big_quiet_step (fail) | quiet_step (fail))
    refine wpQuiet_nil ?_
    intro _ hw'
    obtain ⟨⟨dq, osq⟩, hw''⟩ := hw'
    subst hw''
    have HBv := Lib.hid (bchain HBW.out (below_regrown W dq osq))
    go_wp2
    go_ret
    exact ⟨ret_int HE.out.symm, HBv.out⟩
set_option maxHeartbeats 2000000 in
theorem fault_good0 (deep : Nat) (hd : deep ≤ 1000) (w0 w : World) (hw : Below w0.heap.size w0 w) : faultP ⟨0, 0, .empty, 0, 0, 0⟩ deep w0 w := by
  have HW := Lib.hid hw
  have HE := Lib.hid (Kd.chk_good (x := ⟨0, 0, .empty, 0, 0, 0⟩) (deep := deep) (fun h => absurd h.1 (by show (0 : Int) ≠ 5; omega)) (by unfold Kd.good; simp))
  obtain ⟨W, hW, hbW, hC⟩ := Vl.boxed1 w ⟨0, 0, .empty, 0, 0, 0⟩
  dsimp only at hW
  have HBW := Lib.hid (bchain HW.out hbW)
  unfold Vl.C at hC
  dsimp only at hC
  obtain ⟨g0, g1, g2, g3, g4, g5⟩ := hC
  have g0' := cell_regrown g0
  have g1' := cell_regrown g1
  have g2' := cell_regrown g2
  have g3' := cell_regrown g3
  have g4' := cell_regrown g4
  have g5' := cell_regrown g5
  have c1 := named_agg ⟨0, 0, .empty, 0, 0, 0⟩
  unfold nm Vl.val at c1
  simp at c1
  clear hbW hw
  unfold faultP
  dsimp only
  go_enter Try.func27, Try.ntmps27
  go_wp2
  refine wp_region_quiet_below (by kernel_rfl) (by kernel_rfl) ?_
  repeat (first | go_big_quiet_step (first | (go_at_call 30; exact c1 _ _ _)) | quiet_step (first | (go_at_call 30; exact c1 _ _ _)))
  refine wpQuiet_nil ?_
  intro _ hw'
  obtain ⟨⟨dq, osq⟩, hw''⟩ := hw'
  subst hw''
  have HBv := Lib.hid (bchain HBW.out (below_regrown W dq osq))
  go_wp2
  go_ret
  exact ⟨ret_int HE.out.symm, HBv.out⟩
set_option maxHeartbeats 2000000 in
theorem fault_bad1 (n : Int) (text : ByteArray) (y m d : Int) (deep : Nat) (hd : deep ≤ 1000) (w0 w : World) (hw : Below w0.heap.size w0 w) (hb : ¬ (text.toList = [] ∧ y = 0 ∧ m = 0 ∧ d = 0)) : faultP ⟨1, n, text, y, m, d⟩ deep w0 w := by
  have HW := Lib.hid hw
  have HE := Lib.hid (Kd.chk_bad (x := ⟨1, n, text, y, m, d⟩) (deep := deep) (fun h => absurd h.1 (by show (1 : Int) ≠ 5; omega)) (by show (0 : Int) ≤ 1; omega) (by show (1 : Int) ≤ 5; omega) (fun h => hb (by
    unfold Kd.good at h
    simp at h
    refine ⟨?_, ?_, ?_, ?_⟩ <;> simp [h])))
  obtain ⟨W, hW, hbW, hC⟩ := Vl.boxed1 w ⟨1, n, text, y, m, d⟩
  dsimp only at hW
  have HBW := Lib.hid (bchain HW.out hbW)
  unfold Vl.C at hC
  dsimp only at hC
  obtain ⟨g0, g1, g2, g3, g4, g5⟩ := hC
  have g0' := cell_regrown g0
  have g1' := cell_regrown g1
  have g2' := cell_regrown g2
  have g3' := cell_regrown g3
  have g4' := cell_regrown g4
  have g5' := cell_regrown g5
  have c1 := named_agg ⟨1, n, text, y, m, d⟩
  unfold nm Vl.val at c1
  simp at c1
  clear hbW hw
  unfold faultP
  dsimp only
  go_enter Try.func27, Try.ntmps27
  go_wp2
  refine wp_region_quiet_below (by kernel_rfl) (by kernel_rfl) ?_
  repeat (first | go_big_quiet_step (first | (go_at_call 30; exact c1 _ _ _)) | quiet_step (first | (go_at_call 30; exact c1 _ _ _)))
  refine wpQuiet_step (fun K hK => ?_)
  go_simp
  refine ⟨.bool true, fun _ => ?_, hK _ ?_⟩
  · clear hK c1 g0' g1' g2' g3' g4' g5' g0 g1 g2 g3 g4 g5 HE HBW HW hW
    by_cases z_text : text.toList = [] <;> by_cases z_y : y = 0 <;> by_cases z_m : m = 0 <;> by_cases z_d : d = 0 <;> simp_all
  · clear hK K
    repeat (first | go_big_quiet_step (fail) | quiet_step (fail))
    refine wpQuiet_nil ?_
    intro _ hw'
    obtain ⟨⟨dq, osq⟩, hw''⟩ := hw'
    subst hw''
    have HBv := Lib.hid (bchain HBW.out (below_regrown W dq osq))
    go_wp2
    go_ret
    exact ⟨ret_int HE.out.symm, HBv.out⟩
set_option maxHeartbeats 2000000 in
theorem fault_good1 (n : Int) (deep : Nat) (hd : deep ≤ 1000) (w0 w : World) (hw : Below w0.heap.size w0 w) : faultP ⟨1, n, .empty, 0, 0, 0⟩ deep w0 w := by
  have HW := Lib.hid hw
  have HE := Lib.hid (Kd.chk_good (x := ⟨1, n, .empty, 0, 0, 0⟩) (deep := deep) (fun h => absurd h.1 (by show (1 : Int) ≠ 5; omega)) (by unfold Kd.good; simp))
  obtain ⟨W, hW, hbW, hC⟩ := Vl.boxed1 w ⟨1, n, .empty, 0, 0, 0⟩
  dsimp only at hW
  have HBW := Lib.hid (bchain HW.out hbW)
  unfold Vl.C at hC
  dsimp only at hC
  obtain ⟨g0, g1, g2, g3, g4, g5⟩ := hC
  have g0' := cell_regrown g0
  have g1' := cell_regrown g1
  have g2' := cell_regrown g2
  have g3' := cell_regrown g3
  have g4' := cell_regrown g4
  have g5' := cell_regrown g5
  have c1 := named_agg ⟨1, n, .empty, 0, 0, 0⟩
  unfold nm Vl.val at c1
  simp at c1
  clear hbW hw
  unfold faultP
  dsimp only
  go_enter Try.func27, Try.ntmps27
  go_wp2
  refine wp_region_quiet_below (by kernel_rfl) (by kernel_rfl) ?_
  repeat (first | go_big_quiet_step (first | (go_at_call 30; exact c1 _ _ _)) | quiet_step (first | (go_at_call 30; exact c1 _ _ _)))
  refine wpQuiet_nil ?_
  intro _ hw'
  obtain ⟨⟨dq, osq⟩, hw''⟩ := hw'
  subst hw''
  have HBv := Lib.hid (bchain HBW.out (below_regrown W dq osq))
  go_wp2
  go_ret
  exact ⟨ret_int HE.out.symm, HBv.out⟩
set_option maxHeartbeats 2000000 in
theorem fault_bad2 (n : Int) (text : ByteArray) (y m d : Int) (deep : Nat) (hd : deep ≤ 1000) (w0 w : World) (hw : Below w0.heap.size w0 w) (hb : ¬ (n = 0 ∧ y = 0 ∧ m = 0 ∧ d = 0)) : faultP ⟨2, n, text, y, m, d⟩ deep w0 w := by
  have HW := Lib.hid hw
  have HE := Lib.hid (Kd.chk_bad (x := ⟨2, n, text, y, m, d⟩) (deep := deep) (fun h => absurd h.1 (by show (2 : Int) ≠ 5; omega)) (by show (0 : Int) ≤ 2; omega) (by show (2 : Int) ≤ 5; omega) (fun h => hb (by
    unfold Kd.good at h
    simp at h
    refine ⟨?_, ?_, ?_, ?_⟩ <;> simp [h])))
  obtain ⟨W, hW, hbW, hC⟩ := Vl.boxed1 w ⟨2, n, text, y, m, d⟩
  dsimp only at hW
  have HBW := Lib.hid (bchain HW.out hbW)
  unfold Vl.C at hC
  dsimp only at hC
  obtain ⟨g0, g1, g2, g3, g4, g5⟩ := hC
  have g0' := cell_regrown g0
  have g1' := cell_regrown g1
  have g2' := cell_regrown g2
  have g3' := cell_regrown g3
  have g4' := cell_regrown g4
  have g5' := cell_regrown g5
  have c1 := named_agg ⟨2, n, text, y, m, d⟩
  unfold nm Vl.val at c1
  simp at c1
  clear hbW hw
  unfold faultP
  dsimp only
  go_enter Try.func27, Try.ntmps27
  go_wp2
  refine wp_region_quiet_below (by kernel_rfl) (by kernel_rfl) ?_
  repeat (first | go_big_quiet_step (first | (go_at_call 30; exact c1 _ _ _)) | quiet_step (first | (go_at_call 30; exact c1 _ _ _)))
  refine wpQuiet_step (fun K hK => ?_)
  go_simp
  refine ⟨.bool true, fun _ => ?_, hK _ ?_⟩
  · clear hK c1 g0' g1' g2' g3' g4' g5' g0 g1 g2 g3 g4 g5 HE HBW HW hW
    by_cases z_n : n = 0 <;> by_cases z_y : y = 0 <;> by_cases z_m : m = 0 <;> by_cases z_d : d = 0 <;> simp_all
  · clear hK K
    repeat (first | go_big_quiet_step (fail) | quiet_step (fail))
    refine wpQuiet_nil ?_
    intro _ hw'
    obtain ⟨⟨dq, osq⟩, hw''⟩ := hw'
    subst hw''
    have HBv := Lib.hid (bchain HBW.out (below_regrown W dq osq))
    go_wp2
    go_ret
    exact ⟨ret_int HE.out.symm, HBv.out⟩
set_option maxHeartbeats 2000000 in
theorem fault_good2 (text : ByteArray) (deep : Nat) (hd : deep ≤ 1000) (w0 w : World) (hw : Below w0.heap.size w0 w) : faultP ⟨2, 0, text, 0, 0, 0⟩ deep w0 w := by
  have HW := Lib.hid hw
  have HE := Lib.hid (Kd.chk_good (x := ⟨2, 0, text, 0, 0, 0⟩) (deep := deep) (fun h => absurd h.1 (by show (2 : Int) ≠ 5; omega)) (by unfold Kd.good; simp))
  obtain ⟨W, hW, hbW, hC⟩ := Vl.boxed1 w ⟨2, 0, text, 0, 0, 0⟩
  dsimp only at hW
  have HBW := Lib.hid (bchain HW.out hbW)
  unfold Vl.C at hC
  dsimp only at hC
  obtain ⟨g0, g1, g2, g3, g4, g5⟩ := hC
  have g0' := cell_regrown g0
  have g1' := cell_regrown g1
  have g2' := cell_regrown g2
  have g3' := cell_regrown g3
  have g4' := cell_regrown g4
  have g5' := cell_regrown g5
  have c1 := named_agg ⟨2, 0, text, 0, 0, 0⟩
  unfold nm Vl.val at c1
  simp at c1
  clear hbW hw
  unfold faultP
  dsimp only
  go_enter Try.func27, Try.ntmps27
  go_wp2
  refine wp_region_quiet_below (by kernel_rfl) (by kernel_rfl) ?_
  repeat (first | go_big_quiet_step (first | (go_at_call 30; exact c1 _ _ _)) | quiet_step (first | (go_at_call 30; exact c1 _ _ _)))
  refine wpQuiet_nil ?_
  intro _ hw'
  obtain ⟨⟨dq, osq⟩, hw''⟩ := hw'
  subst hw''
  have HBv := Lib.hid (bchain HBW.out (below_regrown W dq osq))
  go_wp2
  go_ret
  exact ⟨ret_int HE.out.symm, HBv.out⟩
set_option maxHeartbeats 2000000 in
theorem fault_bad3 (n : Int) (text : ByteArray) (y m d : Int) (deep : Nat) (hd : deep ≤ 1000) (w0 w : World) (hw : Below w0.heap.size w0 w) (hb : ¬ (text.toList = [] ∧ y = 0 ∧ m = 0 ∧ d = 0)) : faultP ⟨3, n, text, y, m, d⟩ deep w0 w := by
  have HW := Lib.hid hw
  have HE := Lib.hid (Kd.chk_bad (x := ⟨3, n, text, y, m, d⟩) (deep := deep) (fun h => absurd h.1 (by show (3 : Int) ≠ 5; omega)) (by show (0 : Int) ≤ 3; omega) (by show (3 : Int) ≤ 5; omega) (fun h => hb (by
    unfold Kd.good at h
    simp at h
    refine ⟨?_, ?_, ?_, ?_⟩ <;> simp [h])))
  obtain ⟨W, hW, hbW, hC⟩ := Vl.boxed1 w ⟨3, n, text, y, m, d⟩
  dsimp only at hW
  have HBW := Lib.hid (bchain HW.out hbW)
  unfold Vl.C at hC
  dsimp only at hC
  obtain ⟨g0, g1, g2, g3, g4, g5⟩ := hC
  have g0' := cell_regrown g0
  have g1' := cell_regrown g1
  have g2' := cell_regrown g2
  have g3' := cell_regrown g3
  have g4' := cell_regrown g4
  have g5' := cell_regrown g5
  have c1 := named_agg ⟨3, n, text, y, m, d⟩
  unfold nm Vl.val at c1
  simp at c1
  clear hbW hw
  unfold faultP
  dsimp only
  go_enter Try.func27, Try.ntmps27
  go_wp2
  refine wp_region_quiet_below (by kernel_rfl) (by kernel_rfl) ?_
  repeat (first | go_big_quiet_step (first | (go_at_call 30; exact c1 _ _ _)) | quiet_step (first | (go_at_call 30; exact c1 _ _ _)))
  refine wpQuiet_step (fun K hK => ?_)
  go_simp
  refine ⟨.bool true, fun _ => ?_, hK _ ?_⟩
  · clear hK c1 g0' g1' g2' g3' g4' g5' g0 g1 g2 g3 g4 g5 HE HBW HW hW
    by_cases z_text : text.toList = [] <;> by_cases z_y : y = 0 <;> by_cases z_m : m = 0 <;> by_cases z_d : d = 0 <;> simp_all
  · clear hK K
    repeat (first | go_big_quiet_step (fail) | quiet_step (fail))
    refine wpQuiet_nil ?_
    intro _ hw'
    obtain ⟨⟨dq, osq⟩, hw''⟩ := hw'
    subst hw''
    have HBv := Lib.hid (bchain HBW.out (below_regrown W dq osq))
    go_wp2
    go_ret
    exact ⟨ret_int HE.out.symm, HBv.out⟩
set_option maxHeartbeats 2000000 in
theorem fault_good30 (deep : Nat) (hd : deep ≤ 1000) (w0 w : World) (hw : Below w0.heap.size w0 w) : faultP ⟨3, 0, .empty, 0, 0, 0⟩ deep w0 w := by
  have HW := Lib.hid hw
  have HE := Lib.hid (Kd.chk_good (x := ⟨3, 0, .empty, 0, 0, 0⟩) (deep := deep) (fun h => absurd h.1 (by show (3 : Int) ≠ 5; omega)) (by unfold Kd.good; simp))
  obtain ⟨W, hW, hbW, hC⟩ := Vl.boxed1 w ⟨3, 0, .empty, 0, 0, 0⟩
  dsimp only at hW
  have HBW := Lib.hid (bchain HW.out hbW)
  unfold Vl.C at hC
  dsimp only at hC
  obtain ⟨g0, g1, g2, g3, g4, g5⟩ := hC
  have g0' := cell_regrown g0
  have g1' := cell_regrown g1
  have g2' := cell_regrown g2
  have g3' := cell_regrown g3
  have g4' := cell_regrown g4
  have g5' := cell_regrown g5
  have c1 := named_agg ⟨3, 0, .empty, 0, 0, 0⟩
  unfold nm Vl.val at c1
  simp at c1
  clear hbW hw
  unfold faultP
  dsimp only
  go_enter Try.func27, Try.ntmps27
  go_wp2
  refine wp_region_quiet_below (by kernel_rfl) (by kernel_rfl) ?_
  repeat (first | go_big_quiet_step (first | (go_at_call 30; exact c1 _ _ _)) | quiet_step (first | (go_at_call 30; exact c1 _ _ _)))
  refine wpQuiet_nil ?_
  intro _ hw'
  obtain ⟨⟨dq, osq⟩, hw''⟩ := hw'
  subst hw''
  have HBv := Lib.hid (bchain HBW.out (below_regrown W dq osq))
  go_wp2
  go_ret
  exact ⟨ret_int HE.out.symm, HBv.out⟩
set_option maxHeartbeats 2000000 in
theorem fault_good31 (deep : Nat) (hd : deep ≤ 1000) (w0 w : World) (hw : Below w0.heap.size w0 w) : faultP ⟨3, 1, .empty, 0, 0, 0⟩ deep w0 w := by
  have HW := Lib.hid hw
  have HE := Lib.hid (Kd.chk_good (x := ⟨3, 1, .empty, 0, 0, 0⟩) (deep := deep) (fun h => absurd h.1 (by show (3 : Int) ≠ 5; omega)) (by unfold Kd.good; simp))
  obtain ⟨W, hW, hbW, hC⟩ := Vl.boxed1 w ⟨3, 1, .empty, 0, 0, 0⟩
  dsimp only at hW
  have HBW := Lib.hid (bchain HW.out hbW)
  unfold Vl.C at hC
  dsimp only at hC
  obtain ⟨g0, g1, g2, g3, g4, g5⟩ := hC
  have g0' := cell_regrown g0
  have g1' := cell_regrown g1
  have g2' := cell_regrown g2
  have g3' := cell_regrown g3
  have g4' := cell_regrown g4
  have g5' := cell_regrown g5
  have c1 := named_agg ⟨3, 1, .empty, 0, 0, 0⟩
  unfold nm Vl.val at c1
  simp at c1
  clear hbW hw
  unfold faultP
  dsimp only
  go_enter Try.func27, Try.ntmps27
  go_wp2
  refine wp_region_quiet_below (by kernel_rfl) (by kernel_rfl) ?_
  repeat (first | go_big_quiet_step (first | (go_at_call 30; exact c1 _ _ _)) | quiet_step (first | (go_at_call 30; exact c1 _ _ _)))
  refine wpQuiet_nil ?_
  intro _ hw'
  obtain ⟨⟨dq, osq⟩, hw''⟩ := hw'
  subst hw''
  have HBv := Lib.hid (bchain HBW.out (below_regrown W dq osq))
  go_wp2
  go_ret
  exact ⟨ret_int HE.out.symm, HBv.out⟩
set_option maxHeartbeats 2000000 in
theorem fault_good3n (n : Int) (deep : Nat) (hd : deep ≤ 1000) (w0 w : World) (hw : Below w0.heap.size w0 w) (h0 : n ≠ 0) (h1 : n ≠ 1) : faultP ⟨3, n, .empty, 0, 0, 0⟩ deep w0 w := by
  have HW := Lib.hid hw
  have HE := Lib.hid (Kd.chk_bad (x := ⟨3, n, .empty, 0, 0, 0⟩) (deep := deep) (fun h => absurd h.1 (by show (3 : Int) ≠ 5; omega)) (by show (0 : Int) ≤ 3; omega) (by show (3 : Int) ≤ 5; omega) (fun h => by unfold Kd.good at h; simp [h0, h1] at h))
  have q0 : (n != 0) = true := bne_iff_ne.2 h0
  have q1 : (n != 1) = true := bne_iff_ne.2 h1
  obtain ⟨W, hW, hbW, hC⟩ := Vl.boxed1 w ⟨3, n, .empty, 0, 0, 0⟩
  dsimp only at hW
  have HBW := Lib.hid (bchain HW.out hbW)
  unfold Vl.C at hC
  dsimp only at hC
  obtain ⟨g0, g1, g2, g3, g4, g5⟩ := hC
  have g0' := cell_regrown g0
  have g1' := cell_regrown g1
  have g2' := cell_regrown g2
  have g3' := cell_regrown g3
  have g4' := cell_regrown g4
  have g5' := cell_regrown g5
  have c1 := named_agg ⟨3, n, .empty, 0, 0, 0⟩
  unfold nm Vl.val at c1
  simp at c1
  clear hbW hw
  unfold faultP
  dsimp only
  go_enter Try.func27, Try.ntmps27
  go_wp2
  refine wp_region_quiet_below (by kernel_rfl) (by kernel_rfl) ?_
  repeat (first | go_big_quiet_step (first | (go_at_call 30; exact c1 _ _ _)) | quiet_step (first | (go_at_call 30; exact c1 _ _ _)))
  refine wpQuiet_nil ?_
  intro _ hw'
  obtain ⟨⟨dq, osq⟩, hw''⟩ := hw'
  subst hw''
  have HBv := Lib.hid (bchain HBW.out (below_regrown W dq osq))
  go_wp2
  go_ret
  exact ⟨ret_int HE.out.symm, HBv.out⟩
set_option maxHeartbeats 2000000 in
theorem fault_bad4 (n : Int) (text : ByteArray) (y m d : Int) (deep : Nat) (hd : deep ≤ 1000) (w0 w : World) (hw : Below w0.heap.size w0 w) (hb : ¬ (n = 0 ∧ text.toList = [])) : faultP ⟨4, n, text, y, m, d⟩ deep w0 w := by
  have HW := Lib.hid hw
  have HE := Lib.hid (Kd.chk_bad (x := ⟨4, n, text, y, m, d⟩) (deep := deep) (fun h => absurd h.1 (by show (4 : Int) ≠ 5; omega)) (by show (0 : Int) ≤ 4; omega) (by show (4 : Int) ≤ 5; omega) (fun h => hb (by
    unfold Kd.good at h
    simp at h
    refine ⟨?_, ?_⟩ <;> simp [h])))
  obtain ⟨W, hW, hbW, hC⟩ := Vl.boxed1 w ⟨4, n, text, y, m, d⟩
  dsimp only at hW
  have HBW := Lib.hid (bchain HW.out hbW)
  unfold Vl.C at hC
  dsimp only at hC
  obtain ⟨g0, g1, g2, g3, g4, g5⟩ := hC
  have g0' := cell_regrown g0
  have g1' := cell_regrown g1
  have g2' := cell_regrown g2
  have g3' := cell_regrown g3
  have g4' := cell_regrown g4
  have g5' := cell_regrown g5
  have c1 := named_agg ⟨4, n, text, y, m, d⟩
  unfold nm Vl.val at c1
  simp at c1
  clear hbW hw
  unfold faultP
  dsimp only
  go_enter Try.func27, Try.ntmps27
  go_wp2
  refine wp_region_quiet_below (by kernel_rfl) (by kernel_rfl) ?_
  repeat (first | go_big_quiet_step (first | (go_at_call 30; exact c1 _ _ _)) | quiet_step (first | (go_at_call 30; exact c1 _ _ _)))
  refine wpQuiet_step (fun K hK => ?_)
  go_simp
  refine ⟨.bool true, fun _ => ?_, hK _ ?_⟩
  · clear hK c1 g0' g1' g2' g3' g4' g5' g0 g1 g2 g3 g4 g5 HE HBW HW hW
    by_cases z_n : n = 0 <;> by_cases z_text : text.toList = [] <;> simp_all
  · clear hK K
    repeat (first | go_big_quiet_step (fail) | quiet_step (fail))
    refine wpQuiet_nil ?_
    intro _ hw'
    obtain ⟨⟨dq, osq⟩, hw''⟩ := hw'
    subst hw''
    have HBv := Lib.hid (bchain HBW.out (below_regrown W dq osq))
    go_wp2
    go_ret
    exact ⟨ret_int HE.out.symm, HBv.out⟩
set_option maxHeartbeats 2000000 in
theorem fault_good4 (y : Int) (m : Int) (d : Int) (deep : Nat) (hd : deep ≤ 1000) (w0 w : World) (hw : Below w0.heap.size w0 w) : faultP ⟨4, 0, .empty, y, m, d⟩ deep w0 w := by
  have HW := Lib.hid hw
  have HE := Lib.hid (Kd.chk_good (x := ⟨4, 0, .empty, y, m, d⟩) (deep := deep) (fun h => absurd h.1 (by show (4 : Int) ≠ 5; omega)) (by unfold Kd.good; simp))
  obtain ⟨W, hW, hbW, hC⟩ := Vl.boxed1 w ⟨4, 0, .empty, y, m, d⟩
  dsimp only at hW
  have HBW := Lib.hid (bchain HW.out hbW)
  unfold Vl.C at hC
  dsimp only at hC
  obtain ⟨g0, g1, g2, g3, g4, g5⟩ := hC
  have g0' := cell_regrown g0
  have g1' := cell_regrown g1
  have g2' := cell_regrown g2
  have g3' := cell_regrown g3
  have g4' := cell_regrown g4
  have g5' := cell_regrown g5
  have c1 := named_agg ⟨4, 0, .empty, y, m, d⟩
  unfold nm Vl.val at c1
  simp at c1
  clear hbW hw
  unfold faultP
  dsimp only
  go_enter Try.func27, Try.ntmps27
  go_wp2
  refine wp_region_quiet_below (by kernel_rfl) (by kernel_rfl) ?_
  repeat (first | go_big_quiet_step (first | (go_at_call 30; exact c1 _ _ _)) | quiet_step (first | (go_at_call 30; exact c1 _ _ _)))
  refine wpQuiet_nil ?_
  intro _ hw'
  obtain ⟨⟨dq, osq⟩, hw''⟩ := hw'
  subst hw''
  have HBv := Lib.hid (bchain HBW.out (below_regrown W dq osq))
  go_wp2
  go_ret
  exact ⟨ret_int HE.out.symm, HBv.out⟩
set_option maxHeartbeats 2000000 in
theorem fault_bad5 (n : Int) (text : ByteArray) (y m d : Int) (deep : Nat) (hd : deep ≤ 1000) (h16 : ¬ 16 ≤ deep) (w0 w : World) (hw : Below w0.heap.size w0 w) (hb : ¬ (text.toList = [] ∧ y = 0 ∧ m = 0 ∧ d = 0)) : faultP ⟨5, n, text, y, m, d⟩ deep w0 w := by
  have HW := Lib.hid hw
  have HE := Lib.hid (Kd.chk_bad (x := ⟨5, n, text, y, m, d⟩) (deep := deep) (fun h => absurd h.2 h16) (by show (0 : Int) ≤ 5; omega) (by show (5 : Int) ≤ 5; omega) (fun h => hb (by
    unfold Kd.good at h
    simp at h
    refine ⟨?_, ?_, ?_, ?_⟩ <;> simp [h])))
  obtain ⟨W, hW, hbW, hC⟩ := Vl.boxed1 w ⟨5, n, text, y, m, d⟩
  dsimp only at hW
  have HBW := Lib.hid (bchain HW.out hbW)
  unfold Vl.C at hC
  dsimp only at hC
  obtain ⟨g0, g1, g2, g3, g4, g5⟩ := hC
  have g0' := cell_regrown g0
  have g1' := cell_regrown g1
  have g2' := cell_regrown g2
  have g3' := cell_regrown g3
  have g4' := cell_regrown g4
  have g5' := cell_regrown g5
  have c1 := named_agg ⟨5, n, text, y, m, d⟩
  unfold nm Vl.val at c1
  simp at c1
  clear hbW hw
  unfold faultP
  dsimp only
  go_enter Try.func27, Try.ntmps27
  go_wp2
  refine wp_region_quiet_below (by kernel_rfl) (by kernel_rfl) ?_
  repeat (first | go_big_quiet_step (first | (go_at_call 30; exact c1 _ _ _)) | quiet_step (first | (go_at_call 30; exact c1 _ _ _)))
  refine wpQuiet_step (fun K hK => ?_)
  go_simp
  refine ⟨.bool true, fun _ => ?_, hK _ ?_⟩
  · clear hK c1 g0' g1' g2' g3' g4' g5' g0 g1 g2 g3 g4 g5 HE HBW HW hW
    by_cases z_text : text.toList = [] <;> by_cases z_y : y = 0 <;> by_cases z_m : m = 0 <;> by_cases z_d : d = 0 <;> simp_all
  · clear hK K
    repeat (first | go_big_quiet_step (fail) | quiet_step (fail))
    refine wpQuiet_nil ?_
    intro _ hw'
    obtain ⟨⟨dq, osq⟩, hw''⟩ := hw'
    subst hw''
    have HBv := Lib.hid (bchain HBW.out (below_regrown W dq osq))
    go_wp2
    go_ret
    exact ⟨ret_int HE.out.symm, HBv.out⟩
set_option maxHeartbeats 2000000 in
theorem fault_good5 (n : Int) (deep : Nat) (hd : deep ≤ 1000) (h16 : ¬ 16 ≤ deep) (w0 w : World) (hw : Below w0.heap.size w0 w) (h0 : 0 ≤ n) : faultP ⟨5, n, .empty, 0, 0, 0⟩ deep w0 w := by
  have HW := Lib.hid hw
  have HE := Lib.hid (Kd.chk_good (x := ⟨5, n, .empty, 0, 0, 0⟩) (deep := deep) (fun h => absurd h.2 h16) (by unfold Kd.good; simp; omega))
  obtain ⟨W, hW, hbW, hC⟩ := Vl.boxed1 w ⟨5, n, .empty, 0, 0, 0⟩
  dsimp only at hW
  have HBW := Lib.hid (bchain HW.out hbW)
  unfold Vl.C at hC
  dsimp only at hC
  obtain ⟨g0, g1, g2, g3, g4, g5⟩ := hC
  have g0' := cell_regrown g0
  have g1' := cell_regrown g1
  have g2' := cell_regrown g2
  have g3' := cell_regrown g3
  have g4' := cell_regrown g4
  have g5' := cell_regrown g5
  have c1 := named_agg ⟨5, n, .empty, 0, 0, 0⟩
  unfold nm Vl.val at c1
  simp at c1
  clear hbW hw
  unfold faultP
  dsimp only
  go_enter Try.func27, Try.ntmps27
  go_wp2
  refine wp_region_quiet_below (by kernel_rfl) (by kernel_rfl) ?_
  repeat (first | go_big_quiet_step (first | (go_at_call 30; exact c1 _ _ _)) | quiet_step (first | (go_at_call 30; exact c1 _ _ _)))
  refine wpQuiet_nil ?_
  intro _ hw'
  obtain ⟨⟨dq, osq⟩, hw''⟩ := hw'
  subst hw''
  have HBv := Lib.hid (bchain HBW.out (below_regrown W dq osq))
  go_wp2
  go_ret
  exact ⟨ret_int HE.out.symm, HBv.out⟩
set_option maxHeartbeats 2000000 in
theorem fault_good5n (n : Int) (deep : Nat) (hd : deep ≤ 1000) (h16 : ¬ 16 ≤ deep) (w0 w : World) (hw : Below w0.heap.size w0 w) (h0 : n < 0) : faultP ⟨5, n, .empty, 0, 0, 0⟩ deep w0 w := by
  have HW := Lib.hid hw
  have HE := Lib.hid (Kd.chk_bad (x := ⟨5, n, .empty, 0, 0, 0⟩) (deep := deep) (fun h => absurd h.2 h16) (by show (0 : Int) ≤ 5; omega) (by show (5 : Int) ≤ 5; omega) (fun h => by unfold Kd.good at h; simp at h; omega))
  obtain ⟨W, hW, hbW, hC⟩ := Vl.boxed1 w ⟨5, n, .empty, 0, 0, 0⟩
  dsimp only at hW
  have HBW := Lib.hid (bchain HW.out hbW)
  unfold Vl.C at hC
  dsimp only at hC
  obtain ⟨g0, g1, g2, g3, g4, g5⟩ := hC
  have g0' := cell_regrown g0
  have g1' := cell_regrown g1
  have g2' := cell_regrown g2
  have g3' := cell_regrown g3
  have g4' := cell_regrown g4
  have g5' := cell_regrown g5
  have c1 := named_agg ⟨5, n, .empty, 0, 0, 0⟩
  unfold nm Vl.val at c1
  simp at c1
  clear hbW hw
  unfold faultP
  dsimp only
  go_enter Try.func27, Try.ntmps27
  go_wp2
  refine wp_region_quiet_below (by kernel_rfl) (by kernel_rfl) ?_
  repeat (first | go_big_quiet_step (first | (go_at_call 30; exact c1 _ _ _)) | quiet_step (first | (go_at_call 30; exact c1 _ _ _)))
  refine wpQuiet_nil ?_
  intro _ hw'
  obtain ⟨⟨dq, osq⟩, hw''⟩ := hw'
  subst hw''
  have HBv := Lib.hid (bchain HBW.out (below_regrown W dq osq))
  go_wp2
  go_ret
  exact ⟨ret_int HE.out.symm, HBv.out⟩
theorem fault_deep (n : Int) (text : ByteArray) (y m d : Int) (deep : Nat) (hd : deep ≤ 1000) (h16 : 16 ≤ deep) (w0 w : World) (hw : Below w0.heap.size w0 w) : faultP ⟨5, n, text, y, m, d⟩ deep w0 w := by
  have HW := Lib.hid hw
  have HE := Lib.hid (Kd.chk_deep (x := ⟨5, n, text, y, m, d⟩) (deep := deep) rfl h16)
  clear hw
  unfold faultP
  dsimp only
  go_enter Try.func27, Try.ntmps27
  go_wp2
  go_ret
  exact ⟨ret_int HE.out.symm, below_box HW.out _⟩
theorem fault_kind (k n : Int) (text : ByteArray) (y m d : Int) (deep : Nat) (hd : deep ≤ 1000) (hk : k < 0 ∨ 5 < k) (w0 w : World) (hw : Below w0.heap.size w0 w) : faultP ⟨k, n, text, y, m, d⟩ deep w0 w := by
  have HW := Lib.hid hw
  have HE := Lib.hid (Kd.chk_kind (x := ⟨k, n, text, y, m, d⟩) (deep := deep) hk)
  have q5 : (k == 5) = false := beq_eq_false_iff_ne.2 (by omega)
  clear hw
  unfold faultP
  dsimp only
  rcases hk with hk | hk
  · go_enter Try.func27, Try.ntmps27
    go_wp2
    go_ret
    exact ⟨ret_int HE.out.symm, below_box HW.out _⟩
  · have h0 : ¬ k < 0 := by omega
    go_enter Try.func27, Try.ntmps27
    go_wp2
    go_ret
    exact ⟨ret_int HE.out.symm, below_box HW.out _⟩
theorem kind_fault (x : T) (deep : Nat) (hd : deep ≤ 1000) (w0 w : World) (hw : Below w0.heap.size w0 w) : faultP x deep w0 w := by
  obtain ⟨k, n, text, y, m, d⟩ := x
  by_cases hk : k < 0 ∨ 5 < k
  · exact fault_kind k n text y m d deep hd hk w0 w hw
  obtain rfl | rfl | rfl | rfl | rfl | rfl : k = 0 ∨ k = 1 ∨ k = 2 ∨ k = 3 ∨ k = 4 ∨ k = 5 := by omega
  · by_cases hz : n = 0 ∧ text.toList = [] ∧ y = 0 ∧ m = 0 ∧ d = 0
    · obtain ⟨rfl, zt, rfl, rfl, rfl⟩ := hz
      obtain rfl := toList_nil zt
      exact fault_good0 deep hd w0 w hw
    · exact fault_bad0 n text y m d deep hd w0 w hw hz
  · by_cases hz : text.toList = [] ∧ y = 0 ∧ m = 0 ∧ d = 0
    · obtain ⟨zt, rfl, rfl, rfl⟩ := hz
      obtain rfl := toList_nil zt
      exact fault_good1 n deep hd w0 w hw
    · exact fault_bad1 n text y m d deep hd w0 w hw hz
  · by_cases hz : n = 0 ∧ y = 0 ∧ m = 0 ∧ d = 0
    · obtain ⟨rfl, rfl, rfl, rfl⟩ := hz
      exact fault_good2 text deep hd w0 w hw
    · exact fault_bad2 n text y m d deep hd w0 w hw hz
  · by_cases hz : text.toList = [] ∧ y = 0 ∧ m = 0 ∧ d = 0
    · obtain ⟨zt, rfl, rfl, rfl⟩ := hz
      obtain rfl := toList_nil zt
      by_cases h0 : n = 0
      · subst h0
        exact fault_good30 deep hd w0 w hw
      · by_cases h1 : n = 1
        · subst h1
          exact fault_good31 deep hd w0 w hw
        · exact fault_good3n n deep hd w0 w hw h0 h1
    · exact fault_bad3 n text y m d deep hd w0 w hw hz
  · by_cases hz : n = 0 ∧ text.toList = []
    · obtain ⟨rfl, zt⟩ := hz
      obtain rfl := toList_nil zt
      exact fault_good4 y m d deep hd w0 w hw
    · exact fault_bad4 n text y m d deep hd w0 w hw hz
  · by_cases h16 : 16 ≤ deep
    · exact fault_deep n text y m d deep hd h16 w0 w hw
    by_cases hz : text.toList = [] ∧ y = 0 ∧ m = 0 ∧ d = 0
    · obtain ⟨zt, rfl, rfl, rfl⟩ := hz
      obtain rfl := toList_nil zt
      by_cases h0 : n < 0
      · exact fault_good5n n deep hd h16 w0 w hw h0
      · exact fault_good5 n deep hd h16 w0 w hw (by omega)
    · exact fault_bad5 n text y m d deep hd h16 w0 w hw hz
end Go.Proofs.Ytfmfeagfinnmmab
