/- api.Entry: CONTRACT OF THE BOOK OF MEMORY: Same. (By genrows.py.) -/
import Derived.Test.YtnelakpagjdcdaaEtS
import Derived.Lib.QuietBelow
namespace Go.Proofs.Ytnelakpagjdcdaa.Et
open Go.RowKit
open Mem

open Go.Sort (grow)
def eqB (a b : T) : Bool := decide (a.term = b.term ∧ a.mem = b.mem ∧ a.data = b.data)
theorem eqB_iff (a b : T) : eqB a b = true ↔ a = b := by
  unfold eqB
  rw [decide_eq_true_iff]
  cases a
  cases b
  simp
def sameB : List T → List T → Bool
  | [], [] => true
  | a :: l, b :: m => eqB a b && sameB l m
  | _, _ => false
theorem sameB_iff : ∀ l m : List T, sameB l m = true ↔ l = m
  | [], [] => by simp [sameB]
  | [], _ :: _ => by simp [sameB]
  | _ :: _, [] => by simp [sameB]
  | a :: l, b :: m => by
    rw [sameB, Bool.and_eq_true, eqB_iff, sameB_iff l m, List.cons.injEq]
theorem sameB_self (l : List T) : sameB l l = true := (sameB_iff l l).2 rfl
theorem sameB_len {l m : List T} (h : l.length ≠ m.length) : sameB l m = false := by
  rw [Bool.eq_false_iff]
  intro k
  exact h (congrArg List.length ((sameB_iff l m).1 k))
theorem same_at (l m : List T) (k : Nat) (h : k < l.length) (h' : k < m.length) : sameB (l.drop k) (m.drop k) = (eqB l[k] m[k] && sameB (l.drop (k + 1)) (m.drop (k + 1))) := by
  rw [List.drop_eq_getElem_cons h, List.drop_eq_getElem_cons h', sameB]
set_option maxHeartbeats 4000000 in
theorem same_any (xs ys : List T) (ao bo : Option Addr) (n m ca cb : Nat) (w0 w : World) (hw : Below w0.heap.size w0 w) (hA : Ls w ao n ca xs) (hB : Ls w bo m cb ys) :
    Calls Try.prog 24 #[.slice ao n ca, .slice bo m cb] w fun e w' => e = .returned (.bool (sameB xs ys)) ∧ Below w0.heap.size w0 w' := by
  have HW := Lib.hid hw
  have HA := Lib.hid hA
  have HB := Lib.hid hB
  have HN := Lib.hid hA.len
  have HM := Lib.hid hB.len
  have hca := hA.reach
  have hfa := hA.fits
  have hcb := hB.reach
  have hfb := hB.fits
  clear hw hA hB
  by_cases hnm : n = m
  · subst hnm
    have hne : ((n : Int) != (n : Int)) = false := bne_self_eq_false _
    go_enter Try.func24, Try.ntmps24
    go_wp2
    go_loopw [5] (fun i wr => ∃ k : Nat, k ≤ n ∧ i = .int .i64 k ∧ Hid (sameB (xs.drop k) (ys.drop k) = sameB xs ys) ∧ Hid (Below w.heap.size w wr)) (fun i _ => n - (intOf i).toNat)
    case atStart => exact ⟨0, Nat.zero_le _, rfl, Lib.hid rfl, Lib.hid (Below.refl _ _)⟩
    case round =>
      obtain ⟨k, hk, rfl, HK, HBz⟩ := hrel
      by_cases hlt : k < n
      · obtain ⟨a, oa, rfl⟩ := HA.out.at (by omega)
        obtain ⟨b, ob, rfl⟩ := HB.out.at (by omega)
        have hkr : k < xs.length := HN.out ▸ hlt
        have hks : k < ys.length := HM.out ▸ hlt
        have HSt := Lib.hid (same_at xs ys k hkr hks)
        obtain ⟨r, hr⟩ : ∃ r, xs[k] = r := ⟨_, rfl⟩
        obtain ⟨s, hs⟩ : ∃ s, ys[k] = s := ⟨_, rfl⟩
        have h1 := (HA.out.row k hkr).below HBz.out
        have h2 := (HB.out.row k hks).below HBz.out
        rw [hr] at h1 HSt
        rw [hs] at h2 HSt
        clear hr hs
        obtain ⟨g0, g1, g2⟩ := h1
        obtain ⟨f0, f1, f2⟩ := h2
        have g0' := cell_regrown g0
        have g1' := cell_regrown g1
        have g2' := cell_regrown g2
        have f0' := cell_regrown f0
        have f1' := cell_regrown f1
        have f2' := cell_regrown f2
        clear g0 g1 g2 f0 f1 f2
        by_cases e0 : r.term = s.term
        · have q0 : (r.term == s.term) = true := beq_iff_eq.2 e0
          by_cases e1 : r.mem = s.mem
          · have q1 : (r.mem == s.mem) = true := beq_iff_eq.2 e1
            by_cases e2 : r.data = s.data
            · have q2 : (r.data.toList == s.data.toList) = true := beq_iff_eq.2 (by rw [e2])
              have HE : Hid (eqB r s = true) := Lib.hid (decide_eq_true ⟨e0, e1, e2⟩)
              clear e0 e1 e2
              go_wp2
              refine wp_region_quiet_below (by kernel_rfl) (by kernel_rfl) ?_
              repeat (first | go_big_quiet_step (fail) | quiet_step (fail))
              refine wpQuiet_nil ?_
              intro _ hw'
              obtain ⟨⟨dq, osq⟩, hw''⟩ := hw'
              subst hw''
              have HBv := Lib.hid (bchain HBz.out (below_regrown wr dq osq))
              go_wp2
              go_roundw
              case rel => exact ⟨k + 1, by omega, by go_num, Lib.hid (by rw [← HK.out, HSt.out, HE.out, Bool.true_and]), HBv⟩
              case measure => simp [intOf]; omega
            · have q2 : (r.data.toList == s.data.toList) = false := beq_eq_false_iff_ne.2 fun h => e2 (txt_ext (by rw [← tl, ← tl]; exact h))
              have HE : Hid (eqB r s = false) := Lib.hid (decide_eq_false fun h => e2 h.2.2)
              clear e0 e1 e2
              go_wp2
              refine wp_region_quiet_below (by kernel_rfl) (by kernel_rfl) ?_
              repeat (first | go_big_quiet_step (fail) | quiet_step (fail))
              refine wpQuiet_nil ?_
              intro _ hw'
              obtain ⟨⟨dq, osq⟩, hw''⟩ := hw'
              subst hw''
              have HBv := Lib.hid (bchain HBz.out (below_regrown wr dq osq))
              go_wp2
              go_ret
              exact ⟨ret_bool (by rw [← HK.out, HSt.out, HE.out, Bool.false_and]), bchain HW.out HBv.out⟩
          · have q1 : (r.mem == s.mem) = false := beq_eq_false_iff_ne.2 e1
            have HE : Hid (eqB r s = false) := Lib.hid (decide_eq_false fun h => e1 h.2.1)
            clear e0 e1
            go_wp2
            refine wp_region_quiet_below (by kernel_rfl) (by kernel_rfl) ?_
            repeat (first | go_big_quiet_step (fail) | quiet_step (fail))
            refine wpQuiet_nil ?_
            intro _ hw'
            obtain ⟨⟨dq, osq⟩, hw''⟩ := hw'
            subst hw''
            have HBv := Lib.hid (bchain HBz.out (below_regrown wr dq osq))
            go_wp2
            go_ret
            exact ⟨ret_bool (by rw [← HK.out, HSt.out, HE.out, Bool.false_and]), bchain HW.out HBv.out⟩
        · have q0 : (r.term == s.term) = false := beq_eq_false_iff_ne.2 e0
          have HE : Hid (eqB r s = false) := Lib.hid (decide_eq_false fun h => e0 h.1)
          clear e0
          go_wp2
          refine wp_region_quiet_below (by kernel_rfl) (by kernel_rfl) ?_
          repeat (first | go_big_quiet_step (fail) | quiet_step (fail))
          refine wpQuiet_nil ?_
          intro _ hw'
          obtain ⟨⟨dq, osq⟩, hw''⟩ := hw'
          subst hw''
          have HBv := Lib.hid (bchain HBz.out (below_regrown wr dq osq))
          go_wp2
          go_ret
          exact ⟨ret_bool (by rw [← HK.out, HSt.out, HE.out, Bool.false_and]), bchain HW.out HBv.out⟩
      · obtain rfl : k = n := by omega
        go_wp2
        go_ret
        refine ⟨ret_bool ?_, HW.out.trans (HBz.out.mono HW.out.size)⟩
        rw [← HK.out, List.drop_eq_nil_of_le (Nat.le_of_eq HN.out.symm), List.drop_eq_nil_of_le (Nat.le_of_eq HM.out.symm)]
        rfl
  · have HE := Lib.hid (sameB_len (l := xs) (m := ys) (by rw [← HN.out, ← HM.out]; exact hnm))
    have hne : ((n : Int) != (m : Int)) = true := bne_iff_ne.2 (by omega)
    go_enter Try.func24, Try.ntmps24
    go_wp2
    go_ret
    exact ⟨ret_bool HE.out.symm, HW.out⟩
theorem same_rows (xs : List T) (ao bo : Option Addr) (n ca cb : Nat) (w0 w : World) (hw : Below w0.heap.size w0 w) (hA : Ls w ao n ca xs) (hB : Ls w bo n cb xs) :
    Calls Try.prog 24 #[.slice ao n ca, .slice bo n cb] w fun e w' => e = .returned (.bool true) ∧ Below w0.heap.size w0 w' := by
  have h := same_any xs xs ao bo n n ca cb w0 w hw hA hB
  rw [sameB_self] at h
  exact h
end Go.Proofs.Ytnelakpagjdcdaa.Et
