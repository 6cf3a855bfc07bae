/- CONTRACTS OF PACKAGE wal: fits. (By genwlf.py.) -/
import Derived.Test.YtagjbjppddbalaaWlR
set_option maxRecDepth 100000
set_option linter.unusedVariables false
namespace Go.Proofs.Ytagjbjppddbalaa
open Go.RowKit
open Mem
open Go.Sort (grow)

def AnsW (f : FuncId) (args : Array Value) (u : World) (i : Nat) (os : Array Obj) (v : Value) : Prop :=
  Calls Try.prog f args (grow (redrawn u i) os) fun e w'' => e = .returned v ∧ ∃ p : Regrown, w'' = grow (redrawn u p.d) p.os
theorem within_ag (n lo hi : Int) (u : World) (i : Nat) (os : Array Obj) : AnsW 63 #[.int .i64 n, .int .i64 lo, .int .i64 hi] u i os (.bool (Wl.within n lo hi)) :=
  Calls.regrown_of ((wl_within n lo hi _).mono fun e w' h => ⟨h.1, by rw [h.2]; exact Below.refl _ _⟩)
theorem last_ag (r : Hd.T) (l : List Et.T) (u : World) (hl : Et.Ls u r.log.ao r.log.n r.log.cap l) (hb : -1000000000000000000 ≤ r.base ∧ r.base ≤ 1000000000000000000) (hn : l.length ≤ 100000) (i : Nat) (os : Array Obj) :
    AnsW 64 #[Hd.val r] u i os (.int .i64 (Wl.last (Hd.h r l))) := Calls.regrown_of (wl_last r l _ (hl.below (below_regrown u i os)) hb hn)
theorem lastTerm_ag (r : Hd.T) (l : List Et.T) (u : World) (hl : Et.Ls u r.log.ao r.log.n r.log.cap l) (i : Nat) (os : Array Obj) :
    AnsW 65 #[Hd.val r] u i os (.int .i64 (Wl.lastTerm (Hd.h r l))) := Calls.regrown_of (wl_lastTerm r l _ (hl.below (below_regrown u i os)))
set_option maxHeartbeats 4000000 in
theorem wl_fits (r : Hd.T) (l : List Et.T) (x : Et.T) (w : World) (hl : Et.Ls w r.log.ao r.log.n r.log.cap l) (hb : -1000000000000000000 ≤ r.base ∧ r.base ≤ 1000000000000000000) (hx : Et.Short x) :
    Calls Try.prog 60 #[Hd.val r, Et.val x] w fun e w' => e = .returned (.bool (Wl.fits (Hd.h r l) x)) ∧ Below w.heap.size w w' := by
  have HL := Lib.hid hl
  have HS := Lib.hid hx
  have hr1 := hl.fits
  have hr2 := hl.reach
  have hsz := hx.2.2
  obtain ⟨W, hW, hbW, hC⟩ := Hd.boxed1 w r
  obtain ⟨V, hV, hbV, hE⟩ := Et.boxed1 W x
  have HBW := Lib.hid (bchain hbW hbV)
  have hC2 := hC.below hbV
  have hV' := (hl.below hbW).below hbV
  have hen : Hid (Wl.fits (Hd.h r l) x = (decide ((r.log.n : Int) < 200) && (decide (Wl.last (Hd.h r l) < 1099511627776) && (Wl.within x.term (max 1 (Wl.lastTerm (Hd.h r l))) r.term && (Wl.within x.mem 0 127 && (decide ((x.data.size : Int) ≤ 1100) && ((x.mem == 0) || (x.data.toList == [])))))))) := Lib.hid (by
    unfold Wl.fits
    have e1 : decide ((Hd.h r l).log.length < 200) = decide ((r.log.n : Int) < 200) := by rw [hl.len]; show decide (l.length < 200) = _; rw [decide_eq_decide]; omega
    have e2 : decide (x.data.size ≤ 1100) = decide ((x.data.size : Int) ≤ 1100) := by rw [decide_eq_decide]; omega
    have e3 : decide (x.data.size = 0) = (x.data.toList == []) := by
      have := txt_len x.data
      rw [tl, Bool.eq_iff_iff, decide_eq_true_iff, beq_iff_eq, ← List.length_eq_zero_iff, this]
    rw [e1, e2, e3]
    rfl)
  obtain ⟨f, hf⟩ : ∃ f, Wl.fits (Hd.h r l) x = f := ⟨_, rfl⟩
  have HE := hen
  unfold Hd.C at hC2
  obtain ⟨a0, a1, a2, a3, a4, a5, a6⟩ := hC2
  unfold Et.C at hE
  obtain ⟨k0, k1, k2⟩ := hE
  have a0' := cell_regrown a0
  have a1' := cell_regrown a1
  have a2' := cell_regrown a2
  have a3' := cell_regrown a3
  have a4' := cell_regrown a4
  have a5' := cell_regrown a5
  have a6' := cell_regrown a6
  have k0' := cell_regrown k0
  have k1' := cell_regrown k1
  have k2' := cell_regrown k2
  have hn0 : (r.log.n : Int) < 200 → l.length ≤ 100000 := fun z => by have := hl.len; omega
  have cL := fun (z : (r.log.n : Int) < 200) => last_ag r l V hV' hb (hn0 z)
  have cT := lastTerm_ag r l V hV'
  have c3 := fun m => within_ag x.term m r.term V
  have c4 := within_ag x.mem 0 127 V
  unfold Hd.val at cL cT
  unfold AnsW at cL cT c3 c4
  clear a0 a1 a2 a3 a4 a5 a6 k0 k1 k2 hl hC hbW hbV hV' hen hn0 hf hx
  unfold Hd.val Et.val
  obtain ⟨la, hla⟩ : ∃ la, Wl.last (Hd.h r l) = la := ⟨_, rfl⟩
  obtain ⟨lt, hlt⟩ : ∃ lt, Wl.lastTerm (Hd.h r l) = lt := ⟨_, rfl⟩
  rw [hla, hlt] at HE
  rw [hla] at cL
  rw [hlt] at cT
  obtain ⟨mx, hmx⟩ : ∃ mx, (if 1 < lt then lt else 1) = mx := ⟨_, rfl⟩
  have hm2 : max 1 lt = mx := by
    rw [← hmx]
    split <;> omega
  rw [hm2] at HE
  have c3 := c3 mx
  clear hm2
  clear hla hlt
  by_cases b1 : (r.log.n : Int) < 200
  · have cL := cL b1
    have d1 := decide_eq_true b1
    rw [d1, Bool.true_and] at HE
    clear b1
    by_cases b2 : la < 1099511627776
    · have d2 := decide_eq_true b2
      rw [d2, Bool.true_and] at HE
      clear b2
      cases b3 : Wl.within x.term mx r.term
      · rw [b3] at c3
        rw [b3, Bool.false_and] at HE
        clear HL HS
        go_enter Try.func60, Try.ntmps60
        go_wp2_with fail
        clear hW hV
        refine wp_region_quiet_below (by kernel_rfl) (by kernel_rfl) ?_
        repeat (first | go_big_quiet_step (first | (go_at_call 64; with_reducible exact cL _ _) | (go_at_call 65; with_reducible exact cT _ _) | (go_at_call 63; with_reducible exact c3 _ _)) | quiet_step (first | (go_at_call 64; with_reducible exact cL _ _) | (go_at_call 65; with_reducible exact cT _ _) | (go_at_call 63; with_reducible exact c3 _ _)))
        refine wpQuiet_nil ?_
        intro _ hw'
        obtain ⟨⟨dq, osq⟩, hw''⟩ := hw'
        subst hw''
        have HB2 := Lib.hid (bchain HBW.out (below_regrown V dq osq))
        go_wp2_with fail
        go_ret
        exact ⟨ret_bool HE.out.symm, HB2.out⟩
      · rw [b3] at c3
        rw [b3, Bool.true_and] at HE
        cases b4 : Wl.within x.mem 0 127
        · rw [b4] at c4
          rw [b4, Bool.false_and] at HE
          clear HL HS
          go_enter Try.func60, Try.ntmps60
          go_wp2_with fail
          clear hW hV
          refine wp_region_quiet_below (by kernel_rfl) (by kernel_rfl) ?_
          repeat (first | go_big_quiet_step (first | (go_at_call 64; with_reducible exact cL _ _) | (go_at_call 65; with_reducible exact cT _ _) | (go_at_call 63; with_reducible exact c3 _ _) | (go_at_call 63; with_reducible exact c4 _ _)) | quiet_step (first | (go_at_call 64; with_reducible exact cL _ _) | (go_at_call 65; with_reducible exact cT _ _) | (go_at_call 63; with_reducible exact c3 _ _) | (go_at_call 63; with_reducible exact c4 _ _)))
          refine wpQuiet_nil ?_
          intro _ hw'
          obtain ⟨⟨dq, osq⟩, hw''⟩ := hw'
          subst hw''
          have HB2 := Lib.hid (bchain HBW.out (below_regrown V dq osq))
          go_wp2_with fail
          go_ret
          exact ⟨ret_bool HE.out.symm, HB2.out⟩
        · rw [b4] at c4
          rw [b4, Bool.true_and] at HE
          by_cases b5 : (x.data.size : Int) ≤ 1100
          · have d5 := decide_eq_true b5
            rw [d5, Bool.true_and] at HE
            clear b5
            cases b6 : (x.mem == 0)
            · rw [b6, Bool.false_or] at HE
              cases b7 : (x.data.toList == [])
              · rw [b7] at HE
                clear HL HS
                go_enter Try.func60, Try.ntmps60
                go_wp2_with fail
                clear hW hV
                refine wp_region_quiet_below (by kernel_rfl) (by kernel_rfl) ?_
                repeat (first | go_big_quiet_step (first | (go_at_call 64; with_reducible exact cL _ _) | (go_at_call 65; with_reducible exact cT _ _) | (go_at_call 63; with_reducible exact c3 _ _) | (go_at_call 63; with_reducible exact c4 _ _)) | quiet_step (first | (go_at_call 64; with_reducible exact cL _ _) | (go_at_call 65; with_reducible exact cT _ _) | (go_at_call 63; with_reducible exact c3 _ _) | (go_at_call 63; with_reducible exact c4 _ _)))
                refine wpQuiet_nil ?_
                intro _ hw'
                obtain ⟨⟨dq, osq⟩, hw''⟩ := hw'
                subst hw''
                have HB2 := Lib.hid (bchain HBW.out (below_regrown V dq osq))
                go_wp2_with fail
                go_ret
                exact ⟨ret_bool HE.out.symm, HB2.out⟩
              · rw [b7] at HE
                clear HL HS
                go_enter Try.func60, Try.ntmps60
                go_wp2_with fail
                clear hW hV
                refine wp_region_quiet_below (by kernel_rfl) (by kernel_rfl) ?_
                repeat (first | go_big_quiet_step (first | (go_at_call 64; with_reducible exact cL _ _) | (go_at_call 65; with_reducible exact cT _ _) | (go_at_call 63; with_reducible exact c3 _ _) | (go_at_call 63; with_reducible exact c4 _ _)) | quiet_step (first | (go_at_call 64; with_reducible exact cL _ _) | (go_at_call 65; with_reducible exact cT _ _) | (go_at_call 63; with_reducible exact c3 _ _) | (go_at_call 63; with_reducible exact c4 _ _)))
                refine wpQuiet_nil ?_
                intro _ hw'
                obtain ⟨⟨dq, osq⟩, hw''⟩ := hw'
                subst hw''
                have HB2 := Lib.hid (bchain HBW.out (below_regrown V dq osq))
                go_wp2_with fail
                go_ret
                exact ⟨ret_bool HE.out.symm, HB2.out⟩
            · rw [b6, Bool.true_or] at HE
              clear HL HS
              go_enter Try.func60, Try.ntmps60
              go_wp2_with fail
              clear hW hV
              refine wp_region_quiet_below (by kernel_rfl) (by kernel_rfl) ?_
              repeat (first | go_big_quiet_step (first | (go_at_call 64; with_reducible exact cL _ _) | (go_at_call 65; with_reducible exact cT _ _) | (go_at_call 63; with_reducible exact c3 _ _) | (go_at_call 63; with_reducible exact c4 _ _)) | quiet_step (first | (go_at_call 64; with_reducible exact cL _ _) | (go_at_call 65; with_reducible exact cT _ _) | (go_at_call 63; with_reducible exact c3 _ _) | (go_at_call 63; with_reducible exact c4 _ _)))
              refine wpQuiet_nil ?_
              intro _ hw'
              obtain ⟨⟨dq, osq⟩, hw''⟩ := hw'
              subst hw''
              have HB2 := Lib.hid (bchain HBW.out (below_regrown V dq osq))
              go_wp2_with fail
              go_ret
              exact ⟨ret_bool HE.out.symm, HB2.out⟩
          · have d5 := decide_eq_false b5
            rw [d5, Bool.false_and] at HE
            clear b5
            clear HL HS
            go_enter Try.func60, Try.ntmps60
            go_wp2_with fail
            clear hW hV
            refine wp_region_quiet_below (by kernel_rfl) (by kernel_rfl) ?_
            repeat (first | go_big_quiet_step (first | (go_at_call 64; with_reducible exact cL _ _) | (go_at_call 65; with_reducible exact cT _ _) | (go_at_call 63; with_reducible exact c3 _ _) | (go_at_call 63; with_reducible exact c4 _ _)) | quiet_step (first | (go_at_call 64; with_reducible exact cL _ _) | (go_at_call 65; with_reducible exact cT _ _) | (go_at_call 63; with_reducible exact c3 _ _) | (go_at_call 63; with_reducible exact c4 _ _)))
            refine wpQuiet_nil ?_
            intro _ hw'
            obtain ⟨⟨dq, osq⟩, hw''⟩ := hw'
            subst hw''
            have HB2 := Lib.hid (bchain HBW.out (below_regrown V dq osq))
            go_wp2_with fail
            go_ret
            exact ⟨ret_bool HE.out.symm, HB2.out⟩
    · have d2 := decide_eq_false b2
      rw [d2, Bool.false_and] at HE
      clear b2
      clear HL HS
      go_enter Try.func60, Try.ntmps60
      go_wp2_with fail
      clear hW hV
      refine wp_region_quiet_below (by kernel_rfl) (by kernel_rfl) ?_
      repeat (first | go_big_quiet_step (first | (go_at_call 64; with_reducible exact cL _ _)) | quiet_step (first | (go_at_call 64; with_reducible exact cL _ _)))
      refine wpQuiet_nil ?_
      intro _ hw'
      obtain ⟨⟨dq, osq⟩, hw''⟩ := hw'
      subst hw''
      have HB2 := Lib.hid (bchain HBW.out (below_regrown V dq osq))
      go_wp2_with fail
      go_ret
      exact ⟨ret_bool HE.out.symm, HB2.out⟩
  · have d1 := decide_eq_false b1
    rw [d1, Bool.false_and] at HE
    clear b1 cL
    clear HL HS
    go_enter Try.func60, Try.ntmps60
    go_wp2_with fail
    clear hW hV
    refine wp_region_quiet_below (by kernel_rfl) (by kernel_rfl) ?_
    repeat (first | go_big_quiet_step (first | fail) | quiet_step (first | fail))
    refine wpQuiet_nil ?_
    intro _ hw'
    obtain ⟨⟨dq, osq⟩, hw''⟩ := hw'
    subst hw''
    have HB2 := Lib.hid (bchain HBW.out (below_regrown V dq osq))
    go_wp2_with fail
    go_ret
    exact ⟨ret_bool HE.out.symm, HB2.out⟩
end Go.Proofs.Ytagjbjppddbalaa
