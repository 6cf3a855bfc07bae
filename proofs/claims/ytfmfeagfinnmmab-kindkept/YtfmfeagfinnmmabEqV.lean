/- slices.Equal over api.Value. (After VlB.) -/
import Derived.Test.YtfmfeagfinnmmabVlB
namespace Go.Proofs.Ytfmfeagfinnmmab.Vl
open Go.RowKit
open Mem
open Go.Sort (grow)

set_option maxHeartbeats 4000000 in
theorem equal_any (xs ys : List T) (ao bo : Option Addr) (n m ca cb : Nat) (w0 w : World) (hw : Below w0.heap.size w0 w) (hA : Ls w ao n ca xs) (hB : Ls w bo m cb ys) :
    Calls Try.prog 23 #[.slice ao n ca, .slice bo m cb] w fun e w' => e = .returned (.bool (sameB xs ys)) ∧ Below w0.heap.size w0 w' := by
  have HW := Lib.hid hw
  have HA := Lib.hid hA
  have HB := Lib.hid hB
  have HN := Lib.hid hA.len
  have HM := Lib.hid hB.len
  have hca := hA.reach
  have hfa := hA.fits
  have hcb := hB.reach
  have hfb := hB.fits
  clear hw hA hB
  by_cases hnm : n = m
  · subst hnm
    have hne : ((n : Int) != (n : Int)) = false := bne_self_eq_false _
    go_enter Try.func23, Try.ntmps23
    go_wp2
    go_loopw [5, 13] (fun _ i wr => ∃ k : Nat, k ≤ n ∧ i = .int .i64 k ∧ Hid (sameB (xs.drop k) (ys.drop k) = sameB xs ys) ∧ Hid (Below w.heap.size w wr)) (fun _ i _ => n - (intOf i).toNat)
    case atStart => exact ⟨0, Nat.zero_le _, rfl, Lib.hid rfl, Lib.hid (Below.refl _ _)⟩
    case round =>
      obtain ⟨k, hk, rfl, HK, HBz⟩ := hrel
      by_cases hlt : k < n
      · obtain ⟨a, oa, rfl⟩ := HA.out.at (by omega)
        obtain ⟨b, ob, rfl⟩ := HB.out.at (by omega)
        have hkr : k < xs.length := HN.out ▸ hlt
        have hks : k < ys.length := HM.out ▸ hlt
        have HSt := Lib.hid (same_at xs ys k hkr hks)
        obtain ⟨r, hr⟩ : ∃ r, xs[k] = r := ⟨_, rfl⟩
        obtain ⟨s, hs⟩ : ∃ s, ys[k] = s := ⟨_, rfl⟩
        have h1 := (HA.out.row k hkr).below HBz.out
        have h2 := (HB.out.row k hks).below HBz.out
        rw [hr] at h1 HSt
        rw [hs] at h2 HSt
        clear hr hs
        obtain ⟨g0, g1, g2, g3, g4, g5⟩ := h1
        obtain ⟨f0, f1, f2, f3, f4, f5⟩ := h2
        have g0' := cell_regrown g0
        have g1' := cell_regrown g1
        have g2' := cell_regrown g2
        have g3' := cell_regrown g3
        have g4' := cell_regrown g4
        have g5' := cell_regrown g5
        have f0' := cell_regrown f0
        have f1' := cell_regrown f1
        have f2' := cell_regrown f2
        have f3' := cell_regrown f3
        have f4' := cell_regrown f4
        have f5' := cell_regrown f5
        clear g0 g1 g2 g3 g4 g5 f0 f1 f2 f3 f4 f5
        by_cases e0 : r.kind = s.kind
        · have q0 : (r.kind == s.kind) = true := beq_iff_eq.2 e0
          by_cases e1 : r.n = s.n
          · have q1 : (r.n == s.n) = true := beq_iff_eq.2 e1
            by_cases e2 : r.text = s.text
            · have q2 : (r.text.toList == s.text.toList) = true := beq_iff_eq.2 (by rw [e2])
              by_cases e3 : r.y = s.y
              · have q3 : (r.y == s.y) = true := beq_iff_eq.2 e3
                by_cases e4 : r.m = s.m
                · have q4 : (r.m == s.m) = true := beq_iff_eq.2 e4
                  by_cases e5 : r.d = s.d
                  · have q5 : (r.d == s.d) = true := beq_iff_eq.2 e5
                    have HE : Hid (eqB r s = true) := Lib.hid (decide_eq_true ⟨e0, e1, e2, e3, e4, e5⟩)
                    clear e0 e1 e2 e3 e4 e5
                    go_wp2
                    refine wp_region_quiet_below (by kernel_rfl) (by kernel_rfl) ?_
                    repeat (first | go_big_quiet_step (fail) | quiet_step (fail))
                    refine wpQuiet_nil ?_
                    intro _ hw'
                    obtain ⟨⟨dq, osq⟩, hw''⟩ := hw'
                    subst hw''
                    have HBv := Lib.hid (bchain HBz.out (below_regrown wr dq osq))
                    go_wp2
                    go_roundw
                    case rel => exact ⟨k + 1, by omega, by go_num, Lib.hid (by rw [← HK.out, HSt.out, HE.out, Bool.true_and]), HBv⟩
                    case measure => simp [intOf]; omega
                  · have q5 : (r.d == s.d) = false := beq_eq_false_iff_ne.2 e5
                    have HE : Hid (eqB r s = false) := Lib.hid (decide_eq_false fun h => e5 h.2.2.2.2.2)
                    clear e0 e1 e2 e3 e4 e5
                    go_wp2
                    refine wp_region_quiet_below (by kernel_rfl) (by kernel_rfl) ?_
                    repeat (first | go_big_quiet_step (fail) | quiet_step (fail))
                    refine wpQuiet_nil ?_
                    intro _ hw'
                    obtain ⟨⟨dq, osq⟩, hw''⟩ := hw'
                    subst hw''
                    have HBv := Lib.hid (bchain HBz.out (below_regrown wr dq osq))
                    go_wp2
                    go_ret
                    exact ⟨ret_bool (by rw [← HK.out, HSt.out, HE.out, Bool.false_and]), bchain HW.out HBv.out⟩
                · have q4 : (r.m == s.m) = false := beq_eq_false_iff_ne.2 e4
                  have HE : Hid (eqB r s = false) := Lib.hid (decide_eq_false fun h => e4 h.2.2.2.2.1)
                  clear e0 e1 e2 e3 e4
                  go_wp2
                  refine wp_region_quiet_below (by kernel_rfl) (by kernel_rfl) ?_
                  repeat (first | go_big_quiet_step (fail) | quiet_step (fail))
                  refine wpQuiet_nil ?_
                  intro _ hw'
                  obtain ⟨⟨dq, osq⟩, hw''⟩ := hw'
                  subst hw''
                  have HBv := Lib.hid (bchain HBz.out (below_regrown wr dq osq))
                  go_wp2
                  go_ret
                  exact ⟨ret_bool (by rw [← HK.out, HSt.out, HE.out, Bool.false_and]), bchain HW.out HBv.out⟩
              · have q3 : (r.y == s.y) = false := beq_eq_false_iff_ne.2 e3
                have HE : Hid (eqB r s = false) := Lib.hid (decide_eq_false fun h => e3 h.2.2.2.1)
                clear e0 e1 e2 e3
                go_wp2
                refine wp_region_quiet_below (by kernel_rfl) (by kernel_rfl) ?_
                repeat (first | go_big_quiet_step (fail) | quiet_step (fail))
                refine wpQuiet_nil ?_
                intro _ hw'
                obtain ⟨⟨dq, osq⟩, hw''⟩ := hw'
                subst hw''
                have HBv := Lib.hid (bchain HBz.out (below_regrown wr dq osq))
                go_wp2
                go_ret
                exact ⟨ret_bool (by rw [← HK.out, HSt.out, HE.out, Bool.false_and]), bchain HW.out HBv.out⟩
            · have q2 : (r.text.toList == s.text.toList) = false := beq_eq_false_iff_ne.2 fun h => e2 (txt_ext (by rw [← tl, ← tl]; exact h))
              have HE : Hid (eqB r s = false) := Lib.hid (decide_eq_false fun h => e2 h.2.2.1)
              clear e0 e1 e2
              go_wp2
              refine wp_region_quiet_below (by kernel_rfl) (by kernel_rfl) ?_
              repeat (first | go_big_quiet_step (fail) | quiet_step (fail))
              refine wpQuiet_nil ?_
              intro _ hw'
              obtain ⟨⟨dq, osq⟩, hw''⟩ := hw'
              subst hw''
              have HBv := Lib.hid (bchain HBz.out (below_regrown wr dq osq))
              go_wp2
              go_ret
              exact ⟨ret_bool (by rw [← HK.out, HSt.out, HE.out, Bool.false_and]), bchain HW.out HBv.out⟩
          · have q1 : (r.n == s.n) = false := beq_eq_false_iff_ne.2 e1
            have HE : Hid (eqB r s = false) := Lib.hid (decide_eq_false fun h => e1 h.2.1)
            clear e0 e1
            go_wp2
            refine wp_region_quiet_below (by kernel_rfl) (by kernel_rfl) ?_
            repeat (first | go_big_quiet_step (fail) | quiet_step (fail))
            refine wpQuiet_nil ?_
            intro _ hw'
            obtain ⟨⟨dq, osq⟩, hw''⟩ := hw'
            subst hw''
            have HBv := Lib.hid (bchain HBz.out (below_regrown wr dq osq))
            go_wp2
            go_ret
            exact ⟨ret_bool (by rw [← HK.out, HSt.out, HE.out, Bool.false_and]), bchain HW.out HBv.out⟩
        · have q0 : (r.kind == s.kind) = false := beq_eq_false_iff_ne.2 e0
          have HE : Hid (eqB r s = false) := Lib.hid (decide_eq_false fun h => e0 h.1)
          clear e0
          go_wp2
          refine wp_region_quiet_below (by kernel_rfl) (by kernel_rfl) ?_
          repeat (first | go_big_quiet_step (fail) | quiet_step (fail))
          refine wpQuiet_nil ?_
          intro _ hw'
          obtain ⟨⟨dq, osq⟩, hw''⟩ := hw'
          subst hw''
          have HBv := Lib.hid (bchain HBz.out (below_regrown wr dq osq))
          go_wp2
          go_ret
          exact ⟨ret_bool (by rw [← HK.out, HSt.out, HE.out, Bool.false_and]), bchain HW.out HBv.out⟩
      · obtain rfl : k = n := by omega
        go_wp2
        go_ret
        refine ⟨ret_bool ?_, HW.out.trans (HBz.out.mono HW.out.size)⟩
        rw [← HK.out, List.drop_eq_nil_of_le (Nat.le_of_eq HN.out.symm), List.drop_eq_nil_of_le (Nat.le_of_eq HM.out.symm)]
        rfl
  · have HE := Lib.hid (sameB_len (l := xs) (m := ys) (by rw [← HN.out, ← HM.out]; exact hnm))
    have hne : ((n : Int) != (m : Int)) = true := bne_iff_ne.2 (by omega)
    go_enter Try.func23, Try.ntmps23
    go_wp2
    go_ret
    exact ⟨ret_bool HE.out.symm, HW.out⟩end Go.Proofs.Ytfmfeagfinnmmab.Vl
