/- THE DOCUMENT's OWN ANSWER: impostref8's Fresh, Keep. -/
import Derived.Test.YtfilanbjfnnknaaRfSn
import Derived.Test.YtfilanbjfnnknaaSnD
set_option linter.unusedVariables false
set_option maxRecDepth 100000
namespace Go.Proofs.Ytfilanbjfnnknaa
open Go.RowKit
open Mem

/-- 1: it is the latest number -/
def Sp.oldN (l : List Sn.T) (i q : Int) : Int := if Sp.lookO l i q = true then 1 else 0
theorem Sp.old_0 {l : List Sn.T} {i q : Int} (h : Sp.lookO l i q = false) : Sp.oldN l i q = 0 := if_neg (by rw [h]; simp)
theorem Sp.old_1 {l : List Sn.T} {i q : Int} (h : Sp.lookO l i q = true) : Sp.oldN l i q = 1 := if_pos h
theorem Rp.frz (w : World) (r : Rp.T) (k : Nat) : (Rp.box w r).frozen? ⟨w.heap.size, k, none⟩ = false := frozen_of_row _ _ k _ _ (heap_alloc_new w _)
def Rp.zero : Rp.T := ⟨0, 0, 0⟩
set_option maxHeartbeats 4000000 in
theorem rfresh (ls : List Sn.T) (i q : Int) (ao : Option Addr) (n cap : Nat) (w0 w : World) (hw : Below w0.heap.size w0 w) (hL : Sn.Ls w ao n cap ls) (hr : Sp.rightB ls = true) :
    Calls Try.prog 26 #[.slice ao n cap, .int .i64 i, .int .i64 q] w fun e w' => e = .returned (.tuple #[.int .i64 (Sp.oldN ls i q), Rp.val (Sp.rep (Sp.lookT ls i q)), .int .i64 (Sp.lookE ls i q)]) ∧ Below w0.heap.size w0 w' := by
  have HW := Lib.hid hw
  have HL := Lib.hid hL
  have HN := Lib.hid hL.len
  have HRt := Lib.hid hr
  have hcap := hL.reach
  have hfit := hL.fits
  have HBw := Lib.hid (And.intro (bchain HW.out (Rp.below_own w Rp.zero)) HW.out.size)
  clear hw hL hr
  have hC := Rp.c_box w Rp.zero
  unfold Rp.C Rp.zero at hC
  obtain ⟨a0, a1, a2⟩ := hC
  have f0 := Rp.frz w Rp.zero 0
  have f1 := Rp.frz w Rp.zero 1
  have f2 := Rp.frz w Rp.zero 2
  have HU := Lib.hid (HL.out.below (Rp.below_own w Rp.zero))
  go_enter Try.func26, Try.ntmps26
  go_wp2_with fail
  rw [show w.alloc (.cells #[.int .i64 0, .int .i64 0, .int .i64 0] 24) = Rp.box w Rp.zero from rfl]
  unfold Rp.zero
  unfold Rp.zero at f0 f1 f2 HU HBw
  generalize Rp.box w ⟨0, 0, 0⟩ = U at *
  obtain ⟨g, hg⟩ : ∃ g, w.heap.size = g := ⟨_, rfl⟩
  have HG : Hid (w0.heap.size ≤ g) := Lib.hid (hg ▸ HBw.out.2)
  rw [hg] at a0 a1 a2 f0 f1 f2
  try rw [hg]
  clear hg
  refine (rseat ls i ao n cap U HU.out).mono ?_
  rintro e w1 ⟨rfl, hw1⟩
  have hw2 := hw1.symm
  clear hw1
  subst hw2
  by_cases hlt : Sp.ix i ls < ls.length
  · rw [Sp.pos_at hlt]
    have hin : Sp.ix i ls < n := by have := HN.out; omega
    obtain ⟨b, off, rfl⟩ := HL.out.at (by omega)
    have hrow := HU.out.row (Sp.ix i ls) hlt
    have HLt := Lib.hid hlt
    rw [← Sp.own_at hlt] at hrow
    obtain ⟨r, hr⟩ : ∃ r, Sp.own ls i = r := ⟨_, rfl⟩
    rw [hr] at hrow
    have HR := Lib.hid hr
    obtain ⟨k, hk⟩ : ∃ k, Sp.ix i ls = k := ⟨_, rfl⟩
    rw [hk] at hrow hin
    rw [hk]
    obtain ⟨g0, g1, g2, g3, g4⟩ := hrow
    have hbg : b < U.heap.size := cell_lt g0
    clear hk hr hlt
    by_cases h1 : q < 1
    · have HE := Lib.hid (Sp.look_seq (q := q) HRt.out HLt.out (by rw [Bool.eq_false_iff]; intro h; have := Sp.num_iff.1 h; omega))
      have HE2 := Lib.hid (Sp.look_bad (l := ls) (i := i) (q := q) (by rw [HE.out]; omega))
      have d1 : decide (q < 1) = true := decide_eq_true h1
      go_wp2_with fail
      exact bodyPost_ret (v := .tuple #[.int .i64 0, Rp.val (Sp.rep Sn.zero), .int .i64 1]) (by simp [results, Rp.val, Sp.rep, Sn.zero, Try.results26, go_sem, a0, a1, a2]) rfl ⟨by rw [HE.out, HE2.out.2, Sp.old_0 HE2.out.1], bset (bset (bset HBw.out.1 HG.out _ _) HG.out _ _) HG.out _ _⟩
    · have d1 : decide (q < 1) = false := decide_eq_false h1
      by_cases h2 : 1099511627776 < q
      · have HE := Lib.hid (Sp.look_seq (q := q) HRt.out HLt.out (by rw [Bool.eq_false_iff]; intro h; have := Sp.num_iff.1 h; omega))
        have HE2 := Lib.hid (Sp.look_bad (l := ls) (i := i) (q := q) (by rw [HE.out]; omega))
        have d2 : decide (1099511627776 < q) = true := decide_eq_true h2
        go_wp2_with fail
        exact bodyPost_ret (v := .tuple #[.int .i64 0, Rp.val (Sp.rep Sn.zero), .int .i64 1]) (by simp [results, Rp.val, Sp.rep, Sn.zero, Try.results26, go_sem, a0, a1, a2]) rfl ⟨by rw [HE.out, HE2.out.2, Sp.old_0 HE2.out.1], bset (bset (bset HBw.out.1 HG.out _ _) HG.out _ _) HG.out _ _⟩
      · have d2 : decide (1099511627776 < q) = false := decide_eq_false h2
        have HNq : Hid (Sp.numB q = true) := Lib.hid (Sp.num_iff.2 ⟨by omega, by omega⟩)
        by_cases h3 : q = r.last
        · have HE := Lib.hid (Sp.look_ok HRt.out HLt.out HNq.out (by rw [HR.out]; omega))
          have HE2 := Lib.hid (Sp.look_old HE.out (by rw [HR.out]; exact h3))
          have d3 : (q == r.last) = true := beq_iff_eq.2 h3
          have hgn : ¬ g = b ∨ True := .inr trivial
          clear h3
          go_wp2_with fail
          go_region
          all_goals (try go_wp2_with fail)
          all_goals exact bodyPost_ret (v := .tuple #[.int .i64 1, Rp.val (Sp.rep r), .int .i64 0]) (by simp [results, Rp.val, Sp.rep, Try.results26, go_sem, a0, a1, a2]) rfl ⟨by rw [HE.out, HE2.out.2, Sp.old_1 HE2.out.1, HR.out], by first | exact (bset (bset (bset HBw.out.1 HG.out _ _) HG.out _ _) HG.out _ _).drew | exact bset (bset (bset HBw.out.1.drew HG.out _ _) HG.out _ _) HG.out _ _⟩
        · have d3 : (q == r.last) = false := beq_eq_false_iff_ne.2 h3
          by_cases h4 : q < r.last
          · have HE := Lib.hid (Sp.look_stale HRt.out HLt.out HNq.out (by rw [HR.out]; exact h4))
            have HE2 := Lib.hid (Sp.look_bad (l := ls) (i := i) (q := q) (by rw [HE.out]; omega))
            have d4 : decide (q < r.last) = true := decide_eq_true h4
            go_wp2_with fail
            exact bodyPost_ret (v := .tuple #[.int .i64 0, Rp.val (Sp.rep Sn.zero), .int .i64 16]) (by simp [results, Rp.val, Sp.rep, Sn.zero, Try.results26, go_sem, a0, a1, a2]) rfl ⟨by rw [HE.out, HE2.out.2, Sp.old_0 HE2.out.1], bset (bset (bset HBw.out.1 HG.out _ _) HG.out _ _) HG.out _ _⟩
          · have HE := Lib.hid (Sp.look_ok HRt.out HLt.out HNq.out (by rw [HR.out]; exact h4))
            have HE2 := Lib.hid (Sp.look_new HE.out (by rw [HR.out]; exact h3))
            have d4 : decide (q < r.last) = false := decide_eq_false h4
            go_wp2_with fail
            exact bodyPost_ret (v := .tuple #[.int .i64 0, Rp.val (Sp.rep Sn.zero), .int .i64 0]) (by simp [results, Rp.val, Sp.rep, Sn.zero, Try.results26, go_sem, a0, a1, a2]) rfl ⟨by rw [HE.out, HE2.out.2, Sp.old_0 HE2.out.1], bset (bset (bset HBw.out.1 HG.out _ _) HG.out _ _) HG.out _ _⟩
  · rw [Sp.pos_no hlt]
    have HE := Lib.hid (Sp.look_gone (q := q) HRt.out hlt)
    have HE2 := Lib.hid (Sp.look_bad (l := ls) (i := i) (q := q) (by rw [HE.out]; omega))
    clear hlt
    go_wp2_with fail
    exact bodyPost_ret (v := .tuple #[.int .i64 0, Rp.val (Sp.rep Sn.zero), .int .i64 15]) (by simp [results, Rp.val, Sp.rep, Sn.zero, Try.results26, go_sem, a0, a1, a2]) rfl ⟨by rw [HE.out, HE2.out.2, Sp.old_0 HE2.out.1], bset (bset (bset HBw.out.1 HG.out _ _) HG.out _ _) HG.out _ _⟩
end Go.Proofs.Ytfilanbjfnnknaa
