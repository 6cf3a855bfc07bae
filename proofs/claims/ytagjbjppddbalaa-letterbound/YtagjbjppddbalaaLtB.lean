/- CONTRACTS OF PACKAGE letter: piece, fits, Right. (By genltb.py.) -/
import Derived.Test.YtagjbjppddbalaaLtA
import Derived.Test.YtagjbjppddbalaaWlG
import Derived.Laws.StructEq
set_option maxRecDepth 100000
set_option linter.unusedVariables false
namespace Go.Proofs.Ytagjbjppddbalaa
open Go.RowKit
open Mem
open Go.Sort (grow)

theorem Lr.within_iff (n lo hi : Int) : Wl.within n lo hi = true ↔ lo ≤ n ∧ n ≤ hi := by
  unfold Wl.within
  rw [Bool.and_eq_true, decide_eq_true_iff, decide_eq_true_iff]
set_option maxHeartbeats 2000000 in
theorem lt_piece (r : Lr.T) (l : List Et.T) (w : World) :
    Calls Try.prog 54 #[Lr.val r] w fun e w' => e = .returned (.bool (Lr.pieceB (Lr.m r l))) ∧ Below w.heap.size w w' := by
  have HBW : Hid (Below w.heap.size w (Lr.box w r)) := Lib.hid (Lr.below_own w r)
  have HE : Hid (Lr.pieceB (Lr.m r l) = (Wl.within r.size 1 65536 && (Wl.within r.off 0 (r.size - 1) && Wl.within (r.data.size : Int) 1 (min 600 (r.size - r.off))))) := Lib.hid rfl
  cases q0 : Wl.within r.size 1 65536
  · rw [q0, Bool.false_and] at HE
    unfold Lr.val
    go_enter Try.func54, Try.ntmps54
    go_wp2_with (go_at_call 51; refine (lt_within _ _ _ _).mono ?_; rintro e u ⟨rfl, rfl⟩; try (first | rw [q0]))
    go_ret
    exact ⟨ret_bool HE.out.symm, HBW.out⟩
  obtain ⟨s1, s2⟩ := (Lr.within_iff _ _ _).1 q0
  rw [q0, Bool.true_and] at HE
  cases q1 : Wl.within r.off 0 (r.size - 1)
  · rw [q1, Bool.false_and] at HE
    unfold Lr.val
    go_enter Try.func54, Try.ntmps54
    go_wp2_with (go_at_call 51; refine (lt_within _ _ _ _).mono ?_; rintro e u ⟨rfl, rfl⟩; try (first | rw [q0] | rw [q1]))
    go_ret
    exact ⟨ret_bool HE.out.symm, HBW.out⟩
  obtain ⟨o1, o2⟩ := (Lr.within_iff _ _ _).1 q1
  rw [q1, Bool.true_and] at HE
  by_cases hm : 600 ≤ r.size - r.off
  · have em : min 600 (r.size - r.off) = 600 := by omega
    rw [em] at HE
    cases q2 : Wl.within (r.data.size : Int) 1 600
    · rw [q2] at HE
      unfold Lr.val
      go_enter Try.func54, Try.ntmps54
      go_wp2_with (go_at_call 51; refine (lt_within _ _ _ _).mono ?_; rintro e u ⟨rfl, rfl⟩; try (first | rw [q0] | rw [q1] | rw [q2]))
      go_ret
      exact ⟨ret_bool HE.out.symm, HBW.out⟩
    · rw [q2] at HE
      unfold Lr.val
      go_enter Try.func54, Try.ntmps54
      go_wp2_with (go_at_call 51; refine (lt_within _ _ _ _).mono ?_; rintro e u ⟨rfl, rfl⟩; try (first | rw [q0] | rw [q1] | rw [q2]))
      go_ret
      exact ⟨ret_bool HE.out.symm, HBW.out⟩
  · have nm : r.size - r.off < 600 := by omega
    have em : min 600 (r.size - r.off) = r.size - r.off := by omega
    rw [em] at HE
    cases q2 : Wl.within (r.data.size : Int) 1 (r.size - r.off)
    · rw [q2] at HE
      unfold Lr.val
      go_enter Try.func54, Try.ntmps54
      go_wp2_with (go_at_call 51; refine (lt_within _ _ _ _).mono ?_; rintro e u ⟨rfl, rfl⟩; try (first | rw [q0] | rw [q1] | rw [q2]))
      go_ret
      exact ⟨ret_bool HE.out.symm, HBW.out⟩
    · rw [q2] at HE
      unfold Lr.val
      go_enter Try.func54, Try.ntmps54
      go_wp2_with (go_at_call 51; refine (lt_within _ _ _ _).mono ?_; rintro e u ⟨rfl, rfl⟩; try (first | rw [q0] | rw [q1] | rw [q2]))
      go_ret
      exact ⟨ret_bool HE.out.symm, HBW.out⟩
set_option maxHeartbeats 1500000 in
theorem lt_fits (r : Lr.T) (l : List Et.T) (w : World) (hl : Et.Ls w r.ents.ao r.ents.n r.ents.cap l) :
    Calls Try.prog 38 #[Lr.val r] w fun e w' => e = .returned (.bool (Lr.fitsB (Lr.m r l))) ∧ Below w.heap.size w w' := by
  have HBW : Hid (Below w.heap.size w (Lr.box w r)) := Lib.hid (Lr.below_own w r)
  have HTo := fun u => lt_told r u
  have HPi := fun u => lt_piece r l u
  have HRi : Hid (∀ u, Below w.heap.size w u → Calls Try.prog 52 #[Hd.val (Lr.hd r)] u fun e w' => e = .returned (.bool (Wl.right (Lr.toldH (Lr.m r l)))) ∧ Below u.heap.size u w') := Lib.hid fun u hu => by
    rw [← Lr.hd_h]
    refine wl_right (Lr.hd r) l u ?_ ?_
    · exact hl.below hu
    · unfold Lr.hd
      dsimp only
      split <;> decide
  have HN : Hid (r.ents.n = l.length) := Lib.hid hl.len
  have hn9 := hl.reach
  have hn8 := hl.fits
  clear hl
  have HF : Hid (Lr.fitsB (Lr.m r l) = if r.kind = 2 then true else if r.kind = 4 then true else if r.kind = 1 then decide ((r.ents.n : Int) ≤ 8) && Wl.right (Lr.toldH (Lr.m r l)) else if r.kind = 3 then decide ((r.ents.n : Int) ≤ 8) && Wl.right (Lr.toldH (Lr.m r l))
    else if r.kind = 5 then decide (r.idx ≠ 0) && (decide (r.bt ≠ 0) && (Wl.within r.mem 1 127 && Lr.pieceB (Lr.m r l))) else if r.kind = 6 then decide (r.idx ≠ 0) && Wl.within r.off 0 65536 else false) := Lib.hid (by
    unfold Lr.fitsB
    have e : decide ((Lr.m r l).ents.length ≤ 8) = decide ((r.ents.n : Int) ≤ 8) := by rw [HN.out, decide_eq_decide]; show l.length ≤ 8 ↔ _; omega
    rw [e]
    rfl)
  by_cases h2 : r.kind = 2
  · have HE : Hid (Lr.fitsB (Lr.m r l) = true) := Lib.hid (by rw [HF.out, if_pos h2])
    have e2 : (r.kind == 2) = true := beq_iff_eq.2 h2
    clear HF h2
    unfold Lr.val
    go_enter Try.func38, Try.ntmps38
    go_wp2
    go_ret
    exact ⟨ret_bool HE.out.symm, Lr.below_own w r⟩
  by_cases h4 : r.kind = 4
  · have HE : Hid (Lr.fitsB (Lr.m r l) = true) := Lib.hid (by rw [HF.out, if_neg h2, if_pos h4])
    have e4 : (r.kind == 4) = true := beq_iff_eq.2 h4
    clear HF h4
    unfold Lr.val
    go_enter Try.func38, Try.ntmps38
    go_wp2
    go_ret
    exact ⟨ret_bool HE.out.symm, Lr.below_own w r⟩
  by_cases h1 : r.kind = 1
  · have HE : Hid (Lr.fitsB (Lr.m r l) = (decide ((r.ents.n : Int) ≤ 8) && Wl.right (Lr.toldH (Lr.m r l)))) := Lib.hid (by rw [HF.out, if_neg h2, if_neg h4, if_pos h1])
    have e1 : (r.kind == 1) = true := beq_iff_eq.2 h1
    clear HF h1
    by_cases h8 : (r.ents.n : Int) ≤ 8
    · rw [decide_eq_true h8, Bool.true_and] at HE
      unfold Lr.val at HTo ⊢
      go_enter Try.func38, Try.ntmps38
      go_wp2_with (first | (go_at_call 53; refine (HTo _).mono ?_; rintro e w1 ⟨rfl, b1⟩; have HB1 := Lib.hid (bchain (Lr.below_own w r) b1); clear b1) | (go_at_call 52; refine (HRi.out _ HB1.out).mono ?_; rintro e w2 ⟨rfl, b2⟩; have HB2 := Lib.hid (bchain HB1.out b2); clear b2))
      go_ret
      exact ⟨ret_bool HE.out.symm, HB2.out⟩
    · rw [decide_eq_false h8, Bool.false_and] at HE
      unfold Lr.val
      go_enter Try.func38, Try.ntmps38
      go_wp2
      go_ret
      exact ⟨ret_bool HE.out.symm, Lr.below_own w r⟩
  by_cases h3 : r.kind = 3
  · have HE : Hid (Lr.fitsB (Lr.m r l) = (decide ((r.ents.n : Int) ≤ 8) && Wl.right (Lr.toldH (Lr.m r l)))) := Lib.hid (by rw [HF.out, if_neg h2, if_neg h4, if_neg h1, if_pos h3])
    have e3 : (r.kind == 3) = true := beq_iff_eq.2 h3
    clear HF h3
    by_cases h8 : (r.ents.n : Int) ≤ 8
    · rw [decide_eq_true h8, Bool.true_and] at HE
      unfold Lr.val at HTo ⊢
      go_enter Try.func38, Try.ntmps38
      go_wp2_with (first | (go_at_call 53; refine (HTo _).mono ?_; rintro e w1 ⟨rfl, b1⟩; have HB1 := Lib.hid (bchain (Lr.below_own w r) b1); clear b1) | (go_at_call 52; refine (HRi.out _ HB1.out).mono ?_; rintro e w2 ⟨rfl, b2⟩; have HB2 := Lib.hid (bchain HB1.out b2); clear b2))
      go_ret
      exact ⟨ret_bool HE.out.symm, HB2.out⟩
    · rw [decide_eq_false h8, Bool.false_and] at HE
      unfold Lr.val
      go_enter Try.func38, Try.ntmps38
      go_wp2
      go_ret
      exact ⟨ret_bool HE.out.symm, Lr.below_own w r⟩
  by_cases h5 : r.kind = 5
  · have HE : Hid (Lr.fitsB (Lr.m r l) = (decide (r.idx ≠ 0) && (decide (r.bt ≠ 0) && (Wl.within r.mem 1 127 && Lr.pieceB (Lr.m r l))))) := Lib.hid (by rw [HF.out, if_neg h2, if_neg h4, if_neg h1, if_neg h3, if_pos h5])
    have e5 : (r.kind == 5) = true := beq_iff_eq.2 h5
    clear HF h5
    by_cases i0 : r.idx = 0
    · rw [decide_eq_false (fun z => z i0), Bool.false_and] at HE
      have p0 : (r.idx != 0) = false := by rw [bne, beq_iff_eq.2 i0]; rfl
      clear i0
      unfold Lr.val
      go_enter Try.func38, Try.ntmps38
      go_wp2
      go_ret
      exact ⟨ret_bool HE.out.symm, Lr.below_own w r⟩
    rw [decide_eq_true i0, Bool.true_and] at HE
    have p0 : (r.idx != 0) = true := by rw [bne, beq_eq_false_iff_ne.2 i0]; rfl
    by_cases i1 : r.bt = 0
    · rw [decide_eq_false (fun z => z i1), Bool.false_and] at HE
      have p1 : (r.bt != 0) = false := by rw [bne, beq_iff_eq.2 i1]; rfl
      clear i1
      unfold Lr.val
      go_enter Try.func38, Try.ntmps38
      go_wp2
      go_ret
      exact ⟨ret_bool HE.out.symm, Lr.below_own w r⟩
    rw [decide_eq_true i1, Bool.true_and] at HE
    have p1 : (r.bt != 0) = true := by rw [bne, beq_eq_false_iff_ne.2 i1]; rfl
    cases q : Wl.within r.mem 1 127
    · rw [q, Bool.false_and] at HE
      unfold Lr.val
      go_enter Try.func38, Try.ntmps38
      go_wp2_with (go_at_call 51; refine (lt_within _ _ _ _).mono ?_; rintro e u ⟨rfl, rfl⟩; try rw [q])
      go_ret
      exact ⟨ret_bool HE.out.symm, Lr.below_own w r⟩
    · rw [q, Bool.true_and] at HE
      unfold Lr.val at HPi ⊢
      go_enter Try.func38, Try.ntmps38
      go_wp2_with (first | (go_at_call 51; refine (lt_within _ _ _ _).mono ?_; rintro e u ⟨rfl, rfl⟩; try rw [q]) | (go_at_call 54; refine (HPi _).mono ?_; rintro e w1 ⟨rfl, b1⟩; have HB1 := Lib.hid (bchain (Lr.below_own w r) b1); clear b1))
      go_ret
      exact ⟨ret_bool HE.out.symm, HB1.out⟩
  by_cases h6 : r.kind = 6
  · have HE : Hid (Lr.fitsB (Lr.m r l) = (decide (r.idx ≠ 0) && Wl.within r.off 0 65536)) := Lib.hid (by rw [HF.out, if_neg h2, if_neg h4, if_neg h1, if_neg h3, if_neg h5, if_pos h6])
    have e6 : (r.kind == 6) = true := beq_iff_eq.2 h6
    clear HF h6
    by_cases i0 : r.idx = 0
    · rw [decide_eq_false (fun z => z i0), Bool.false_and] at HE
      have p0 : (r.idx != 0) = false := by rw [bne, beq_iff_eq.2 i0]; rfl
      clear i0
      unfold Lr.val
      go_enter Try.func38, Try.ntmps38
      go_wp2
      go_ret
      exact ⟨ret_bool HE.out.symm, Lr.below_own w r⟩
    rw [decide_eq_true i0, Bool.true_and] at HE
    have p0 : (r.idx != 0) = true := by rw [bne, beq_eq_false_iff_ne.2 i0]; rfl
    unfold Lr.val
    go_enter Try.func38, Try.ntmps38
    go_wp2_with (go_at_call 51; refine (lt_within _ _ _ _).mono ?_; rintro e u ⟨rfl, rfl⟩; try rw [q])
    go_ret
    exact ⟨ret_bool HE.out.symm, Lr.below_own w r⟩
  · have HE : Hid (Lr.fitsB (Lr.m r l) = false) := Lib.hid (by rw [HF.out, if_neg h2, if_neg h4, if_neg h1, if_neg h3, if_neg h5, if_neg h6])
    clear HF
    unfold Lr.val
    go_enter Try.func38, Try.ntmps38
    go_wp2
    go_ret
    exact ⟨ret_bool HE.out.symm, Lr.below_own w r⟩
end Go.Proofs.Ytagjbjppddbalaa
