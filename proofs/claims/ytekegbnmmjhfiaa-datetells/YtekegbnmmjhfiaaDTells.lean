/- THE WALK OF DateTells. -/
import Derived.Test.YtekegbnmmjhfiaaDLaws
import Derived.Test.YtekegbnmmjhfiaaDAggR
namespace Go.Proofs.Ytekegbnmmjhfiaa
open Go.RowKit
open Go.Sort (grow)

set_option maxHeartbeats 4000000 in
theorem tells_core (y m d z n e : Int) (ra rb ab : Bool) (w : World) (HY : Hid (Fit y)) (HM : Hid (Fit m)) (HD : Hid (Fit d)) (HZ : Hid (Fit z)) (HN : Hid (Fit n)) (HE : Hid (Fit e))
    (h1 : Dt.rightB y m d = ra) (h2 : Dt.rightB z n e = rb) (hab : aheadB y m d z n e = ab) (hc : (ra = true ∧ rb = true ∧ ab = decide (Dt.days y m d < Dt.days z n e)) ∨ (ra = false ∧ ab = false) ∨ (ra = true ∧ rb = false ∧ ab = false)) :
    Calls Try.prog 4 #[dayV y m d, dayV z n e] w fun e w' => e = .returned (.bool true) ∧ Below w.heap.size w w' := by
  unfold dayV
  obtain ⟨U, hU, bU, lU⟩ := boxed w y m d
  obtain ⟨W, hW, bW, lW⟩ := boxed U z n e
  have hz : U.heap.size = w.heap.size + 1 := by have := congrArg (fun u : World => u.heap.size) hU; simp at this; omega
  rw [hz] at lW
  have HBW : Hid (Below w.heap.size w W) := Lib.hid (chain bU bW)
  have l0 : ∀ u, Below W.heap.size W u → u.cell? ⟨w.heap.size, 0, none⟩ = some (.int .i64 y) ∧ u.cell? ⟨w.heap.size, 1, none⟩ = some (.int .i64 m) ∧ u.cell? ⟨w.heap.size, 2, none⟩ = some (.int .i64 d) := fun u hb => lU u (chain bW hb)
  obtain ⟨g0, g1, g2⟩ := l0 W (Below.refl _ _)
  obtain ⟨g3, g4, g5⟩ := lW W (Below.refl _ _)
  have k0 := cell_regrown g0
  have k1 := cell_regrown g1
  have k2 := cell_regrown g2
  have k3 := cell_regrown g3
  have k4 := cell_regrown g4
  have k5 := cell_regrown g5
  clear g0 g1 g2 g3 g4 g5 bU bW lU
  have r1 : ∀ u i os, Ans 14 #[.agg #[.int .i64 y, .int .i64 m, .int .i64 d]] u i os (.bool ra) := fun u i os => h1 ▸ refRight_agg y m d u i os
  have r2 : ∀ u i os, Ans 14 #[.agg #[.int .i64 z, .int .i64 n, .int .i64 e]] u i os (.bool rb) := fun u i os => h2 ▸ refRight_agg z n e u i os
  have r3 : ∀ u i os, Ans 16 #[.agg #[.int .i64 y, .int .i64 m, .int .i64 d]] u i os (.bool ra) := fun u i os => h1 ▸ right_agg y m d u i os HY.out HM.out HD.out
  have r4 : ∀ u i os, Ans 18 #[.agg #[.int .i64 y, .int .i64 m, .int .i64 d], .agg #[.int .i64 z, .int .i64 n, .int .i64 e]] u i os (.bool ab) := fun u i os => hab ▸ before_agg y m d z n e u i os HY.out HM.out HD.out HZ.out HN.out HE.out
  have r5 : ∀ u i os, Ans 15 #[.agg #[.int .i64 y, .int .i64 m, .int .i64 d]] u i os (.int .i64 (Dt.days y m d)) := refDays_agg y m d
  have r6 : ∀ u i os, Ans 15 #[.agg #[.int .i64 z, .int .i64 n, .int .i64 e]] u i os (.int .i64 (Dt.days z n e)) := refDays_agg z n e
  have r7 : ∀ u i os, Ans 11 #[.agg #[.int .i64 y, .int .i64 m, .int .i64 d]] u i os (.int .i64 (Dt.days y m d)) := fun u i os => days_agg y m d u i os HY.out HM.out HD.out
  obtain ⟨sa, hsa⟩ : ∃ sa : ByteArray, (⟨(Dt.shown y m d).toArray⟩ : ByteArray) = sa := ⟨_, rfl⟩
  have r8 : ∀ u i os, Ans 17 #[.agg #[.int .i64 y, .int .i64 m, .int .i64 d]] u i os (.string sa) := fun u i os => hsa ▸ refShow_agg y m d u i os
  have r9 : ∀ u i os, Ans 13 #[.agg #[.int .i64 y, .int .i64 m, .int .i64 d]] u i os (.string sa) := fun u i os => hsa ▸ show_agg y m d u i os HY.out HM.out HD.out
  have r10 : ∀ u i os, Ans 3 #[] u i os (.bool true) := fun u i os => Calls.regrown_of (runs_any _ _ (Below.refl _ _))
  clear h1 h2 hab hsa
  rcases hc with ⟨rfl, rfl, rfl⟩ | ⟨rfl, rfl⟩ | ⟨rfl, rfl, rfl⟩
  · go_enter Try.func4, Try.ntmps4
    go_wp2
    refine wp_region_quiet_below (by kernel_rfl) (by kernel_rfl) ?_
    repeat (first | go_big_quiet_step (first | (go_at_call_of 14 (Value.int .i64 y); exact r1 _ _ _) | (go_at_call_of 14 (Value.int .i64 z); exact r2 _ _ _) | (go_at_call_of 15 (Value.int .i64 y); exact r5 _ _ _) | (go_at_call_of 15 (Value.int .i64 z); exact r6 _ _ _)) | quiet_step (first | (go_at_call_of 14 (Value.int .i64 y); exact r1 _ _ _) | (go_at_call_of 14 (Value.int .i64 z); exact r2 _ _ _) | (go_at_call_of 15 (Value.int .i64 y); exact r5 _ _ _) | (go_at_call_of 15 (Value.int .i64 z); exact r6 _ _ _)))
    refine wpQuiet_nil ?_
    intro _ hw'
    obtain ⟨⟨dq, osq⟩, hw''⟩ := hw'
    subst hw''
    have bv := below_regrown W dq osq
    generalize grow (redrawn W dq) osq = v at bv ⊢
    have HBv := Lib.hid (chain HBW.out bv)
    obtain ⟨g0, g1, g2⟩ := l0 v bv
    obtain ⟨g3, g4, g5⟩ := lW v bv
    have i0 := cell_regrown g0
    have i1 := cell_regrown g1
    have i2 := cell_regrown g2
    have i3 := cell_regrown g3
    have i4 := cell_regrown g4
    have i5 := cell_regrown g5
    clear bv k0 k1 k2 k3 k4 k5 g0 g1 g2 g3 g4 g5 l0 lW
    go_wp2
    refine wp_region_quiet_below (by kernel_rfl) (by kernel_rfl) ?_
    repeat (first | go_big_quiet_step (first | (go_at_call 14; exact r1 _ _ _) | (go_at_call 16; exact r3 _ _ _) | (go_at_call 18; exact r4 _ _ _) | (go_at_call 15; exact r5 _ _ _) | (go_at_call 11; exact r7 _ _ _) | (go_at_call 17; exact r8 _ _ _) | (go_at_call 13; exact r9 _ _ _) | (go_at_call 3; exact r10 _ _ _)) | quiet_step (first | (go_at_call 14; exact r1 _ _ _) | (go_at_call 16; exact r3 _ _ _) | (go_at_call 18; exact r4 _ _ _) | (go_at_call 15; exact r5 _ _ _) | (go_at_call 11; exact r7 _ _ _) | (go_at_call 17; exact r8 _ _ _) | (go_at_call 13; exact r9 _ _ _) | (go_at_call 3; exact r10 _ _ _)))
    refine wpQuiet_nil ?_
    intro _ hw'
    obtain ⟨⟨dq, osq⟩, hw''⟩ := hw'
    subst hw''
    have HBx := Lib.hid (chain HBv.out (below_regrown v dq osq))
    go_wp2
    go_ret
    exact ⟨rfl, HBx.out⟩
  · go_enter Try.func4, Try.ntmps4
    go_wp2
    refine wp_region_quiet_below (by kernel_rfl) (by kernel_rfl) ?_
    repeat (first | go_big_quiet_step (first | (go_at_call_of 14 (Value.int .i64 y); exact r1 _ _ _) | (go_at_call_of 14 (Value.int .i64 z); exact r2 _ _ _) | (go_at_call_of 15 (Value.int .i64 y); exact r5 _ _ _) | (go_at_call_of 15 (Value.int .i64 z); exact r6 _ _ _)) | quiet_step (first | (go_at_call_of 14 (Value.int .i64 y); exact r1 _ _ _) | (go_at_call_of 14 (Value.int .i64 z); exact r2 _ _ _) | (go_at_call_of 15 (Value.int .i64 y); exact r5 _ _ _) | (go_at_call_of 15 (Value.int .i64 z); exact r6 _ _ _)))
    refine wpQuiet_nil ?_
    intro _ hw'
    obtain ⟨⟨dq, osq⟩, hw''⟩ := hw'
    subst hw''
    have bv := below_regrown W dq osq
    generalize grow (redrawn W dq) osq = v at bv ⊢
    have HBv := Lib.hid (chain HBW.out bv)
    obtain ⟨g0, g1, g2⟩ := l0 v bv
    obtain ⟨g3, g4, g5⟩ := lW v bv
    have i0 := cell_regrown g0
    have i1 := cell_regrown g1
    have i2 := cell_regrown g2
    have i3 := cell_regrown g3
    have i4 := cell_regrown g4
    have i5 := cell_regrown g5
    clear bv k0 k1 k2 k3 k4 k5 g0 g1 g2 g3 g4 g5 l0 lW
    go_wp2
    refine wp_region_quiet_below (by kernel_rfl) (by kernel_rfl) ?_
    repeat (first | go_big_quiet_step (first | (go_at_call 14; exact r1 _ _ _) | (go_at_call 16; exact r3 _ _ _) | (go_at_call 18; exact r4 _ _ _) | (go_at_call 15; exact r5 _ _ _) | (go_at_call 11; exact r7 _ _ _) | (go_at_call 17; exact r8 _ _ _) | (go_at_call 13; exact r9 _ _ _) | (go_at_call 3; exact r10 _ _ _)) | quiet_step (first | (go_at_call 14; exact r1 _ _ _) | (go_at_call 16; exact r3 _ _ _) | (go_at_call 18; exact r4 _ _ _) | (go_at_call 15; exact r5 _ _ _) | (go_at_call 11; exact r7 _ _ _) | (go_at_call 17; exact r8 _ _ _) | (go_at_call 13; exact r9 _ _ _) | (go_at_call 3; exact r10 _ _ _)))
    refine wpQuiet_nil ?_
    intro _ hw'
    obtain ⟨⟨dq, osq⟩, hw''⟩ := hw'
    subst hw''
    have HBx := Lib.hid (chain HBv.out (below_regrown v dq osq))
    go_wp2
    go_ret
    exact ⟨rfl, HBx.out⟩
  · go_enter Try.func4, Try.ntmps4
    go_wp2
    refine wp_region_quiet_below (by kernel_rfl) (by kernel_rfl) ?_
    repeat (first | go_big_quiet_step (first | (go_at_call_of 14 (Value.int .i64 y); exact r1 _ _ _) | (go_at_call_of 14 (Value.int .i64 z); exact r2 _ _ _) | (go_at_call_of 15 (Value.int .i64 y); exact r5 _ _ _) | (go_at_call_of 15 (Value.int .i64 z); exact r6 _ _ _)) | quiet_step (first | (go_at_call_of 14 (Value.int .i64 y); exact r1 _ _ _) | (go_at_call_of 14 (Value.int .i64 z); exact r2 _ _ _) | (go_at_call_of 15 (Value.int .i64 y); exact r5 _ _ _) | (go_at_call_of 15 (Value.int .i64 z); exact r6 _ _ _)))
    refine wpQuiet_nil ?_
    intro _ hw'
    obtain ⟨⟨dq, osq⟩, hw''⟩ := hw'
    subst hw''
    have bv := below_regrown W dq osq
    generalize grow (redrawn W dq) osq = v at bv ⊢
    have HBv := Lib.hid (chain HBW.out bv)
    obtain ⟨g0, g1, g2⟩ := l0 v bv
    obtain ⟨g3, g4, g5⟩ := lW v bv
    have i0 := cell_regrown g0
    have i1 := cell_regrown g1
    have i2 := cell_regrown g2
    have i3 := cell_regrown g3
    have i4 := cell_regrown g4
    have i5 := cell_regrown g5
    clear bv k0 k1 k2 k3 k4 k5 g0 g1 g2 g3 g4 g5 l0 lW
    go_wp2
    refine wp_region_quiet_below (by kernel_rfl) (by kernel_rfl) ?_
    repeat (first | go_big_quiet_step (first | (go_at_call 14; exact r1 _ _ _) | (go_at_call 16; exact r3 _ _ _) | (go_at_call 18; exact r4 _ _ _) | (go_at_call 15; exact r5 _ _ _) | (go_at_call 11; exact r7 _ _ _) | (go_at_call 17; exact r8 _ _ _) | (go_at_call 13; exact r9 _ _ _) | (go_at_call 3; exact r10 _ _ _)) | quiet_step (first | (go_at_call 14; exact r1 _ _ _) | (go_at_call 16; exact r3 _ _ _) | (go_at_call 18; exact r4 _ _ _) | (go_at_call 15; exact r5 _ _ _) | (go_at_call 11; exact r7 _ _ _) | (go_at_call 17; exact r8 _ _ _) | (go_at_call 13; exact r9 _ _ _) | (go_at_call 3; exact r10 _ _ _)))
    refine wpQuiet_nil ?_
    intro _ hw'
    obtain ⟨⟨dq, osq⟩, hw''⟩ := hw'
    subst hw''
    have HBx := Lib.hid (chain HBv.out (below_regrown v dq osq))
    go_wp2
    go_ret
    exact ⟨rfl, HBx.out⟩
theorem dateTells_walk (y m d z n e : Int) (w : World) (hy : (Lit.int .i64 y).wf = true) (hm : (Lit.int .i64 m).wf = true) (hd : (Lit.int .i64 d).wf = true) (hz : (Lit.int .i64 z).wf = true) (hn : (Lit.int .i64 n).wf = true) (he : (Lit.int .i64 e).wf = true) :
    Calls Try.prog 4 #[dayV y m d, dayV z n e] w fun e w' => e = .returned (.bool true) ∧ Below w.heap.size w w' := by
  refine tells_core y m d z n e _ _ _ w (fit_in hy) (fit_in hm) (fit_in hd) (fit_in hz) (fit_in hn) (fit_in he) rfl rfl rfl ?_
  cases h1 : Dt.rightB y m d with
  | false => exact .inr (.inl ⟨rfl, ahead_not1 h1⟩)
  | true =>
    cases h2 : Dt.rightB z n e with
    | false => exact .inr (.inr ⟨rfl, rfl, ahead_not2 h2⟩)
    | true => exact .inl ⟨rfl, rfl, ahead_both h1 h2⟩
end Go.Proofs.Ytekegbnmmjhfiaa
