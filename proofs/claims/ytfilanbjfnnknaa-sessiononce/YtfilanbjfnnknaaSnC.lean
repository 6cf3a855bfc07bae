/- CONTRACTS OF PACKAGE session: Join, Leave, Look, Keep. -/
import Derived.Test.YtfilanbjfnnknaaSnCw
import Derived.Deep.RegionHeld3
set_option linter.unusedVariables false
namespace Go.Proofs.Ytfilanbjfnnknaa
open Go.RowKit
open Mem
open Go.Sort (grow)

set_option maxHeartbeats 2000000 in
theorem ses_join (ls : List Sn.T) (i : Int) (ao : Option Addr) (n cap : Nat) (w : World) (hL : Sn.Ls w ao n cap ls) (hi : Fit i) :
    Calls Try.prog 7 #[.slice ao n cap, .int .i64 i] w (JoinE w ls i) := by
  have HR := Lib.hid hL
  have HN := Lib.hid hL.len
  have hcap := hL.reach
  have hfit := hL.fits
  clear hL hi
  go_enter Try.func7, Try.ntmps7
  go_wp2_with fail
  refine (ses_right ls ao n cap _ _ (Below.refl _ _) HR.out).mono ?_
  rintro e w1 ⟨rfl, b1⟩
  have HB1 := Lib.hid b1
  clear b1
  cases hT : Sp.rightB ls
  · have HP := Lib.hid (Sp.join_arg (i := i) hT)
    clear hT
    go_wp2_with fail
    go_ret2
    exact ⟨_, by rw [HP.out.1]; rfl, by rw [HP.out.2]; exact Sn.own_nil _ _, HB1.out⟩
  · have HT := Lib.hid hT
    clear hT
    by_cases hi : i < 1
    · have HP := Lib.hid (Sp.join_low HT.out hi)
      have hd : decide (i < 1) = true := decide_eq_true hi
      clear hi
      go_wp2_with fail
      go_ret2
      exact ⟨_, by rw [HP.out.1]; rfl, by rw [HP.out.2]; exact Sn.own_nil _ _, HB1.out⟩
    · have HI1 := Lib.hid hi
      have hd : decide (i < 1) = false := decide_eq_false hi
      clear hi
      go_wp2_with fail
      refine (ses_index ls i ao n cap _ _ HB1.out (HR.out.below HB1.out)).mono ?_
      rintro e w4 ⟨rfl, b4⟩
      have HB4 := Lib.hid b4
      have HI : Hid (Sp.ix i ls ≤ n) := Lib.hid (by have := Sp.ix_le i ls; have := HN.out; omega)
      clear b4
      obtain ⟨j, hj⟩ : ∃ j, Sp.ix i ls = j := ⟨_, rfl⟩
      have HIx := Lib.hid hj
      rw [hj] at HI
      rw [hj]
      clear hj
      have hin := HI.out
      by_cases hlt : j < n
      · have HP := Lib.hid (Sp.join_taken (i := i) HT.out (by have := HI1.out; omega) (by rw [HIx.out]; exact HN.out ▸ hlt))
        go_wp2_with fail
        go_ret2
        exact ⟨_, by rw [HP.out.1]; rfl, by rw [HP.out.2]; exact Sn.own_nil _ _, HB4.out⟩
      · have HNo : Hid (¬ Sp.ix i ls < ls.length) := Lib.hid (by rw [HIx.out]; exact HN.out ▸ hlt)
        by_cases h8 : n = 8
        · have hq : ((n : Int) == 8) = true := beq_iff_eq.2 (by omega)
          have HP := Lib.hid (Sp.join_full (i := i) HT.out (by have := HI1.out; omega) HNo.out (by have := HN.out; omega))
          clear h8
          go_wp2_with fail
          go_ret2
          exact ⟨_, by rw [HP.out.1]; rfl, by rw [HP.out.2]; exact Sn.own_nil _ _, HB4.out⟩
        · have hq : ((n : Int) == 8) = false := beq_eq_false_iff_ne.2 (by omega)
          have HL8 : Hid (n < 8) := Lib.hid (by have h1 := ((Sp.right_iff ls).1 HT.out).1; have := HN.out; omega)
          have HP := Lib.hid (Sp.join_ok (i := i) HT.out (by have := HI1.out; omega) HNo.out (by have := HL8.out; have := HN.out; omega))
          clear h8
          go_wp2_with fail
          refine (ses_fresh i _ _ HB4.out).mono ?_
          rintro e w6 ⟨rfl, b6⟩
          have HB6 := Lib.hid b6
          clear b6
          go_wp2_with fail
          refine (ses_with ls ao n cap (Sp.new i) _ (HR.out.below HB6.out) HL8.out).mono ?_
          rintro e w5 ⟨v, rfl, o5, b5⟩
          have HO := Lib.hid (Sn.own_mono o5 HB6.out.size)
          have HB5 := Lib.hid (bchain HB6.out b5)
          clear o5 b5
          go_wp2_with fail
          go_ret2
          exact ⟨v, by rw [HP.out.1]; rfl, by rw [HP.out.2]; exact HO.out, HB5.out⟩
theorem Sn.make_room (c : Nat) (hn : c ≤ 1000) (u : World) : (Instr.makeSlice 25 (.int .i64 0) (.int .i64 (c : Int))).run Try.prog u =
    .ok (.slice (some ⟨u.heap.size, 0, none⟩) 0 c) (u.alloc (.cells (Sn.zeros c) 33)) := by
  obtain ⟨i0, hi, hz0, hz1, hz2⟩ := info_parts Sn.info
  have h := run_make (P := Try.prog) u 25 33 i0 Sn.zeroV Try.underlying25 hi hz0 .i64 .i64 0 (c : Int) (by omega) (by omega) (by rw [hz2]; omega) (by omega)
  rw [hz1, Int.toNat_natCast, Sn.made] at h
  exact h
set_option maxHeartbeats 2000000 in
theorem ses_leave (ls : List Sn.T) (i : Int) (ao : Option Addr) (n cap : Nat) (w : World) (hL : Sn.Ls w ao n cap ls) (hi : Fit i) :
    Calls Try.prog 10 #[.slice ao n cap, .int .i64 i] w (LeaveE w ls i) := by
  have HR := Lib.hid hL
  have HN := Lib.hid hL.len
  have hcap := hL.reach
  have hfit := hL.fits
  clear hL hi
  go_enter Try.func10, Try.ntmps10
  go_wp2_with fail
  refine (ses_right ls ao n cap _ _ (Below.refl _ _) HR.out).mono ?_
  rintro e w1 ⟨rfl, b1⟩
  have HB1 := Lib.hid b1
  clear b1
  cases hT : Sp.rightB ls
  · have HP := Lib.hid (Sp.leave_arg (i := i) hT)
    clear hT
    go_wp2_with fail
    go_ret2
    exact ⟨_, by rw [HP.out.1]; rfl, by rw [HP.out.2]; exact Sn.own_nil _ _, HB1.out⟩
  · have HT := Lib.hid hT
    have HL8 : Hid (n ≤ 8) := Lib.hid (by have h1 := ((Sp.right_iff ls).1 hT).1; have := HN.out; omega)
    clear hT
    go_wp2_with fail
    refine (ses_index ls i ao n cap _ _ HB1.out (HR.out.below HB1.out)).mono ?_
    rintro e x ⟨rfl, b4⟩
    have HB4 := Lib.hid b4
    have HI : Hid (Sp.ix i ls ≤ n) := Lib.hid (by have := Sp.ix_le i ls; have := HN.out; omega)
    clear b4
    obtain ⟨k, hj⟩ : ∃ j, Sp.ix i ls = j := ⟨_, rfl⟩
    have HIx := Lib.hid hj
    rw [hj] at HI
    rw [hj]
    clear hj
    have hin := HI.out
    by_cases hlt : k < n
    · have hq : ((k : Int) == (n : Int)) = false := beq_eq_false_iff_ne.2 (by omega)
      have HP := Lib.hid (Sp.leave_ok HT.out (by rw [HIx.out]; exact HN.out ▸ hlt))
      rw [HIx.out] at HP
      have HRx := Lib.hid (HR.out.below HB4.out)
      obtain ⟨m, hm⟩ : ∃ m, n = m + 1 := ⟨n - 1, by omega⟩
      have hnm : (n : Int) - 1 = (m : Int) := by omega
      obtain ⟨p, hp⟩ : ∃ p, k + 1 = p := ⟨_, rfl⟩
      have hkp : (k : Int) + 1 = (p : Int) := by omega
      rw [show Sp.cut ls k = [] ++ ls.take k ++ ls.drop p by unfold Sp.cut; rw [hp]; rfl] at HP
      obtain ⟨hs1, hR1⟩ := HRx.out.to k (by omega)
      obtain ⟨ao2, cap2, hs2, hR2⟩ := HRx.out.from p (by omega)
      obtain ⟨j, hj⟩ : ∃ j, n - p = j := ⟨_, rfl⟩
      rw [hj] at hs2 hR2
      have HR1 := Lib.hid hR1
      have HR2 := Lib.hid hR2
      have hmb : m ≤ 8 := by have := HL8.out; omega
      have hjb : j ≤ 8 := by have := HL8.out; omega
      have hkb : k ≤ 8 := by have := HL8.out; omega
      have hmk := Sn.make_room m (by omega)
      clear hR1 hR2 hj hm hp
      have hB1 : Below x.heap.size x (x.alloc (.cells (Sn.zeros m) 33)) := (Below.refl _ _).alloc (Nat.le_refl _) _
      have HB2 := Lib.hid hB1
      clear hB1
      go_wp2_with (at_builtin; go_must (refine Sn.wpList_append _ rfl (.tmp 22) (.tmp 25) rfl x.heap.size (.slice (some ⟨x.heap.size, 0, none⟩) 0 m) [] rfl (Sn.own_cap x x.heap.size m (Nat.le_refl _) (by omega)) ao k cap (ls.take k) rfl HR1.out.len HR1.out.nil (HR1.out.below HB2.out).seg (by simp only [List.length_nil]; omega) (by simp) ?_))
      intro v1 y1 o1 gr1 _
      have hb1 := HB2.out.grown gr1 HB2.out.size (Sn.own_ge (Sn.own_cap x x.heap.size m (Nat.le_refl _) (by omega)))
      have HO1 := Lib.hid o1
      have HY1 := Lib.hid hb1
      have hsz1 : x.heap.size ≤ y1.heap.size := hb1.size
      clear o1 gr1 hb1
      go_wp2_with (at_builtin; go_must (refine Sn.wpList_append _ rfl (.tmp 27) (.tmp 31) rfl x.heap.size v1 ([] ++ ls.take k) rfl HO1.out ao2 j cap2 (ls.drop p) rfl HR2.out.len HR2.out.nil (HR2.out.below HY1.out).seg (by rw [List.nil_append, ← HR1.out.len]; omega) hsz1 ?_))
      intro v2 y2 o2 gr2 _
      have hb2 := HY1.out.grown gr2 HY1.out.size (Sn.own_ge HO1.out)
      have HO2 := Lib.hid o2
      have HY2 := Lib.hid hb2
      clear o2 gr2 hb2
      go_wp2
      go_ret2
      exact ⟨v2, by rw [HP.out.1]; rfl, by rw [HP.out.2]; exact Sn.own_mono HO2.out HB4.out.size, bchain HB4.out HY2.out⟩
    · obtain rfl : k = n := by omega
      have hq : ((k : Int) == (k : Int)) = true := beq_self_eq_true _
      have HP := Lib.hid (Sp.leave_none HT.out (by rw [HIx.out]; exact HN.out ▸ hlt))
      go_wp2_with fail
      go_ret2
      exact ⟨_, by rw [HP.out.1]; rfl, by rw [HP.out.2]; exact Sn.own_nil _ _, HB4.out⟩
def Rp.none0 : Rp.T := ⟨0, 0, 0⟩
theorem Rp.frz0 (w : World) (r : Rp.T) (o : Nat) : (Rp.box w r).frozen? ⟨w.heap.size, o, none⟩ = false := frozen_of_row (Rp.box w r) w.heap.size o _ _ (heap_alloc_new w _)
theorem bset30 {w0 u : World} {p : Nat} (h : Below w0.heap.size w0 u) (hp : w0.heap.size ≤ p) (x0 x1 x2 : Value) : Below w0.heap.size w0 (((u.setCell ⟨p, 0, none⟩ x0).setCell ⟨p, 1, none⟩ x1).setCell ⟨p, 2, none⟩ x2) := bset (bset (bset h hp _ _) hp _ _) hp _ _
theorem Sp.rep_none0 : Sp.rep Sn.zero = Rp.none0 := rfl
set_option maxHeartbeats 2000000 in
theorem ses_look (ls : List Sn.T) (i q : Int) (ao : Option Addr) (n cap : Nat) (w0 w : World) (hw : Below w0.heap.size w0 w) (hL : Sn.Ls w ao n cap ls) (hi : Fit i) (hq : Fit q) :
    Calls Try.prog 9 #[.slice ao n cap, .int .i64 i, .int .i64 q] w (LookE w0 ls i q) := by
  have HW := Lib.hid hw
  have HR := Lib.hid hL
  have HN := Lib.hid hL.len
  have hcap := hL.reach
  have hfit := hL.fits
  clear hL hi hw hq
  go_enter Try.func9, Try.ntmps9
  go_wp2_with fail
  refine (ses_right ls ao n cap (Rp.box w Rp.none0) _ (Below.refl _ _) (HR.out.below (Rp.below_own w Rp.none0))).mono ?_
  rintro e w1 ⟨rfl, b1⟩
  cases hT : Sp.rightB ls
  · have HP := Lib.hid (Sp.look_arg (i := i) (q := q) hT)
    have HO := Lib.hid (Sp.look_bad (l := ls) (i := i) (q := q) (by rw [HP.out]; omega))
    have hx := b1
    have hC := (Rp.c_box w Rp.none0).below hx
    unfold Rp.C at hC
    obtain ⟨a0, a1, a2⟩ := hC
    have hsz : w.heap.size < (Rp.box w Rp.none0).heap.size := by rw [Rp.box_size]; omega
    have f0 := ((bcell hx).2 w.heap.size 0 hsz).trans (Rp.frz0 w Rp.none0 0)
    have f1 := ((bcell hx).2 w.heap.size 1 hsz).trans (Rp.frz0 w Rp.none0 1)
    have f2 := ((bcell hx).2 w.heap.size 2 hsz).trans (Rp.frz0 w Rp.none0 2)
    have hB1 := bchain (Rp.below_own w Rp.none0) hx
    have HB1 := Lib.hid (And.intro (bchain HW.out hB1) HW.out.size)
    have HBw := Lib.hid hB1
    clear b1 hx hsz hB1
    clear hT
    go_wp2_with fail
    exact bodyPost_ret (v := .tuple #[Rp.val Rp.none0, .bool false, .int .i64 1]) (by simp [results, Rp.val, Rp.none0, Try.results9, go_sem, a0, a1, a2]; try rfl) rfl ⟨by rw [HP.out, HO.out.1, HO.out.2]; rfl, bset30 HB1.out.1 HB1.out.2 _ _ _⟩
  · have HT := Lib.hid hT
    have HB0 := Lib.hid b1
    clear hT b1
    go_wp2_with fail
    refine (ses_index ls i ao n cap (Rp.box w Rp.none0) _ HB0.out (HR.out.below (bchain (Rp.below_own w Rp.none0) HB0.out))).mono ?_
    rintro e w1 ⟨rfl, hx⟩
    have hC := (Rp.c_box w Rp.none0).below hx
    unfold Rp.C at hC
    obtain ⟨a0, a1, a2⟩ := hC
    have hsz : w.heap.size < (Rp.box w Rp.none0).heap.size := by rw [Rp.box_size]; omega
    have f0 := ((bcell hx).2 w.heap.size 0 hsz).trans (Rp.frz0 w Rp.none0 0)
    have f1 := ((bcell hx).2 w.heap.size 1 hsz).trans (Rp.frz0 w Rp.none0 1)
    have f2 := ((bcell hx).2 w.heap.size 2 hsz).trans (Rp.frz0 w Rp.none0 2)
    have hB1 := bchain (Rp.below_own w Rp.none0) hx
    have HB1 := Lib.hid (And.intro (bchain HW.out hB1) HW.out.size)
    have HBw := Lib.hid hB1
    clear hx hsz hB1
    have HI : Hid (Sp.ix i ls ≤ n) := Lib.hid (by have := Sp.ix_le i ls; have := HN.out; omega)
    by_cases hlt : Sp.ix i ls < ls.length
    · have hO := Sp.own_at hlt
      have HLt := Lib.hid hlt
      have hin : Sp.ix i ls < n := by have := HN.out; omega
      obtain ⟨b, off, rfl⟩ := HR.out.at (by omega)
      have hrow := (HR.out.row (Sp.ix i ls) hlt).below HBw.out
      rw [← hO] at hrow
      obtain ⟨r, hr⟩ : ∃ r, Sp.own ls i = r := ⟨_, rfl⟩
      have HRr := Lib.hid hr
      rw [hr] at hrow
      clear hO hr hlt
      obtain ⟨j, hj⟩ : ∃ j, Sp.ix i ls = j := ⟨_, rfl⟩
      rw [hj] at hrow hin
      rw [hj]
      clear hj HI
      obtain ⟨g0, g1, g2, g3, g4⟩ := hrow
      have hq : ((j : Int) == (n : Int)) = false := beq_eq_false_iff_ne.2 (by omega)
      go_wp2_with fail
      refine (ses_numbers q _).mono ?_
      rintro e w2 ⟨rfl, hw2⟩
      have hw3 := hw2.symm
      clear hw2
      subst hw3
      cases hn : Sp.numB q
      · have HP := Lib.hid (Sp.look_seq HT.out HLt.out hn)
        have HO := Lib.hid (Sp.look_bad (l := ls) (i := i) (q := q) (by rw [HP.out]; omega))
        clear hn
        go_wp2_with fail
        exact bodyPost_ret (v := .tuple #[Rp.val Rp.none0, .bool false, .int .i64 1]) (by simp [results, Rp.val, Rp.none0, Try.results9, go_sem, a0, a1, a2]; try rfl) rfl ⟨by rw [HP.out, HO.out.1, HO.out.2]; rfl, bset30 HB1.out.1 HB1.out.2 _ _ _⟩
      · have HNm := Lib.hid hn
        clear hn
        by_cases he : q = r.last
        · have HP := Lib.hid (Sp.look_ok HT.out HLt.out HNm.out (by rw [HRr.out]; omega))
          have HO := Lib.hid (Sp.look_old HP.out (by rw [HRr.out]; exact he))
          have hqe : (q == r.last) = true := beq_iff_eq.2 he
          clear he
          go_wp2_with fail
          exact bodyPost_ret (v := .tuple #[Rp.val (Sp.rep r), .bool true, .int .i64 0]) (by simp [results, Rp.val, Sp.rep, Try.results9, go_sem, a0, a1, a2]; try rfl) rfl ⟨by rw [HP.out, HO.out.1, HO.out.2, HRr.out], bset30 HB1.out.1 HB1.out.2 _ _ _⟩
        · have hqe : (q == r.last) = false := beq_eq_false_iff_ne.2 he
          by_cases hs : q < r.last
          · have HP := Lib.hid (Sp.look_stale HT.out HLt.out HNm.out (by rw [HRr.out]; exact hs))
            have HO := Lib.hid (Sp.look_bad (l := ls) (i := i) (q := q) (by rw [HP.out]; omega))
            have hqs : decide (q < r.last) = true := decide_eq_true hs
            clear he hs
            go_wp2_with fail
            exact bodyPost_ret (v := .tuple #[Rp.val Rp.none0, .bool false, .int .i64 16]) (by simp [results, Rp.val, Rp.none0, Try.results9, go_sem, a0, a1, a2]; try rfl) rfl ⟨by rw [HP.out, HO.out.1, HO.out.2]; rfl, bset30 HB1.out.1 HB1.out.2 _ _ _⟩
          · have HP := Lib.hid (Sp.look_ok HT.out HLt.out HNm.out (by rw [HRr.out]; exact hs))
            have HO := Lib.hid (Sp.look_new HP.out (by rw [HRr.out]; exact he))
            have hqs : decide (q < r.last) = false := decide_eq_false hs
            clear he hs
            go_wp2_with fail
            exact bodyPost_ret (v := .tuple #[Rp.val Rp.none0, .bool false, .int .i64 0]) (by simp [results, Rp.val, Rp.none0, Try.results9, go_sem, a0, a1, a2]; try rfl) rfl ⟨by rw [HP.out, HO.out.1, HO.out.2]; rfl, bset30 HB1.out.1 HB1.out.2 _ _ _⟩
    · have HP := Lib.hid (Sp.look_gone (q := q) HT.out hlt)
      have HO := Lib.hid (Sp.look_bad (l := ls) (i := i) (q := q) (by rw [HP.out]; omega))
      have hix : Sp.ix i ls = n := by have := Sp.ix_le i ls; have := HN.out; omega
      rw [hix]
      have hq : ((n : Int) == (n : Int)) = true := beq_self_eq_true _
      clear hlt hix
      go_wp2_with fail
      exact bodyPost_ret (v := .tuple #[Rp.val Rp.none0, .bool false, .int .i64 15]) (by simp [results, Rp.val, Rp.none0, Try.results9, go_sem, a0, a1, a2]; try rfl) rfl ⟨by rw [HP.out, HO.out.1, HO.out.2]; rfl, bset30 HB1.out.1 HB1.out.2 _ _ _⟩
set_option maxHeartbeats 4000000 in
theorem ses_keep (ls : List Sn.T) (i q : Int) (r : Rp.T) (ao : Option Addr) (n cap : Nat) (w : World) (hL : Sn.Ls w ao n cap ls) (hi : Fit i) (hq : Fit q) (hr : Rp.Short r) :
    Calls Try.prog 8 #[.slice ao n cap, .int .i64 i, .int .i64 q, Rp.val r] w (KeepE w ls i q r) := by
  obtain ⟨U, hU, hbU, hCU⟩ := Rp.boxed1 w r
  have HL := Lib.hid (hL.below hbU)
  have HN := Lib.hid hL.len
  have HBU := Lib.hid hbU
  have HCU := Lib.hid hCU
  have HF := Lib.hid (And.intro hi hq)
  have hcap := hL.reach
  have hfit := hL.fits
  clear hL hbU hCU hi hq hr
  unfold Rp.val
  go_enter Try.func8, Try.ntmps8
  go_wp2_with fail
  refine (ses_look ls i q ao n cap U _ (Below.refl _ _) HL.out HF.out.1 HF.out.2).mono ?_
  rintro e w1 ⟨rfl, b1⟩
  have HB1 := Lib.hid b1
  clear b1 hU
  obtain ⟨rp, hrp⟩ : ∃ rp, Sp.rep (Sp.lookT ls i q) = rp := ⟨_, rfl⟩
  rw [hrp]
  clear hrp
  unfold Rp.val
  by_cases hE : Sp.lookE ls i q = 0
  · cases hO : Sp.lookO ls i q
    · have HP := Lib.hid (Sp.keep_ok (y := r.why) (n := r.num) (g := r.gross) hE hO)
      obtain ⟨hT, hlt, _⟩ := Sp.look_0 hE
      have hn8 : n ≤ 8 := by have := ((Sp.right_iff ls).1 hT).1; have := HN.out; omega
      have hin : Sp.ix i ls < n := by have := HN.out; omega
      rw [hE]
      obtain ⟨k, hk⟩ : ∃ k, Sp.ix i ls = k := ⟨_, rfl⟩
      have HK := Lib.hid hk
      rw [hk] at hin hlt HP
      have HX := Lib.hid hlt
      have hbx := bchain HB1.out (Rp.below_own w1 rp)
      have hmk := Sn.make n (by omega)
      have hblk0 := Sn.block_made (Rp.box w1 rp) n
      have hbel0 : Below (Rp.box w1 rp).heap.size (Rp.box w1 rp) ((Rp.box w1 rp).alloc (.cells (Sn.zeros n) 33)) := (Below.refl _ _).alloc (Nat.le_refl _) _
      have hbx2 := bchain hbx hbel0
      obtain ⟨W3, hcp, hblk, hbel, hsz⟩ := Sn.copy ((Rp.box w1 rp).alloc (.cells (Sn.zeros n) 33)) (Rp.box w1 rp).heap.size [] n ao n cap ls (by rw [List.append_nil]; exact hblk0) HN.out ((HL.out.below hbx2).seg)
      rw [List.length_nil, Nat.add_zero] at hcp
      rw [List.append_nil] at hblk
      have hb3 := bchain hbx (hbel _ _ hbel0 (Nat.le_refl _))
      have hUs : U.heap.size ≤ (Rp.box w1 rp).heap.size := hbx.size
      have HB3 := Lib.hid hb3
      have HBk := Lib.hid hblk
      have hC := HCU.out.below hb3
      have hUs2 : w.heap.size < U.heap.size := cell_lt HCU.out.1
      rw [Rp.box_size] at hcp HBk hUs
      unfold Rp.box at hcp
      clear hbx hblk0 hbel0 hbx2 hblk hbel hb3 hE hO hT hlt hk hsz
      unfold Rp.C at hC
      obtain ⟨a0, a1, a2⟩ := hC
      have HGt := Lib.hid (show U.heap.size ≤ w1.heap.size + 1 from hUs)
      have hne : ¬ w.heap.size = w1.heap.size + 1 := by omega
      clear hUs
      go_wp2_with fail
      go_region_with (go_at_call 22; refine (ses_index ls i ao n cap W3 _ (by first | exact Below.refl _ _ | exact (Below.refl _ _).drew) (by first | exact HL.out.below HB3.out | exact (HL.out.below HB3.out).below (Below.refl _ _).drew)).mono ?_; rintro e w4 ⟨rfl, b4⟩; rw [HK.out]; have HB4 := Lib.hid b4; have HOw := Lib.hid (Sn.own_of_block (B := w1.heap.size + 1) (HBk.out.below b4) (Nat.le_refl _) HN.out (by omega)); obtain ⟨hAt, hfz, hge⟩ := Sn.own_at HOw.out k HX.out; have d0 := ((bcell b4).1 w.heap.size 0 (cell_lt a0)).trans a0; have d1 := ((bcell b4).1 w.heap.size 1 (cell_lt a0)).trans a1; have d2 := ((bcell b4).1 w.heap.size 2 (cell_lt a0)).trans a2; obtain ⟨c0, c1, c2, c3, c4⟩ := hAt; have f0 := hfz (k * 5); have f1 := hfz (k * 5 + 1); have f2 := hfz (k * 5 + 2); have f3 := hfz (k * 5 + 3); have f4 := hfz (k * 5 + 4); clear b4 hfz hge)
      all_goals
        have HPut := Lib.hid (Sn.own_mono (Sn.own_store HOw.out k HX.out ⟨i, q, r.why, r.num, r.gross⟩) (show w.heap.size ≤ w1.heap.size + 1 by have := HGt.out; omega))
        have HBl := Lib.hid (Sn.below_store (bchain (bchain HBU.out HB3.out) HB4.out) (show w.heap.size ≤ w1.heap.size + 1 by have := HGt.out; omega) k (.int .i64 i) (.int .i64 q) (.int .i64 r.why) (.int .i64 r.num) (.int .i64 r.gross))
        clear c0 c1 c2 c3 c4 d0 d1 d2 f0 f1 f2 f3 f4 a0 a1 a2
        go_wp2_with fail
        go_ret2
        exact ⟨_, by rw [HP.out.1]; rfl, by rw [HP.out.2]; exact HPut.out, HBl.out⟩
    · have HP := Lib.hid (Sp.keep_old (y := r.why) (n := r.num) (g := r.gross) hE hO)
      rw [hE]
      clear hE hO
      go_wp2_with fail
      go_ret2
      exact ⟨_, by rw [HP.out.1]; rfl, by rw [HP.out.2]; exact Sn.own_nil _ _, below_box (bchain HBU.out HB1.out) _⟩
  · have HP := Lib.hid (Sp.keep_bad (y := r.why) (n := r.num) (g := r.gross) hE)
    obtain ⟨e, he⟩ : ∃ e, Sp.lookE ls i q = e := ⟨_, rfl⟩
    have HE := Lib.hid he
    have hne : (e != 0) = true := bne_iff_ne.2 (he ▸ hE)
    rw [he]
    clear he hE
    go_wp2_with fail
    go_ret2
    exact ⟨_, by rw [HP.out.1, HE.out]; rfl, by rw [HP.out.2]; exact Sn.own_nil _ _, below_box (bchain HBU.out HB1.out) _⟩
end Go.Proofs.Ytfilanbjfnnknaa
