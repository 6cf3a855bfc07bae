/- MERGED: CdSc, CdSd. (By mg.py.) -/
import Derived.Test.YtndfhnaafaijcaaMGe
/- CONTRACTS OF PACKAGE command: read. (By genread9.py.) -/
set_option linter.unusedVariables false
set_option maxRecDepth 100000
namespace Go.Proofs.Ytndfhnaafaijcaa
open Go.RowKit
open Mem Pk Cm
set_option maxHeartbeats 8000000 in
theorem read_5 (p : Nat) (ao : Option Addr) (n cap : Nat) (bs : List UInt8) (s : St) (w : World) (hR : Rd w p ao n cap bs s) (hbs : bs.length ≤ 1000000) :
    Calls Try.prog 36 #[.pointer (some ⟨p, 0, none⟩), .int .i64 5] w (ReadE p ao n cap bs (rCredit bs s) w) := by
  have hlt := cell_lt hR.c0
  have HR0 := Lib.hid hR
  have HBs := Lib.hid hbs
  have hb0 : Below w.heap.size w ((w.alloc (.cells #[.int .i64 0, .string .empty, .int .i64 0, .string .empty, .int .i64 0, .int .i64 0, .int .i64 0, .int .i64 0, .int .i64 0, .int .i64 0, .int .i64 0, .slice none 0 0, .string .empty, .int .i64 0, .int .i64 0] 37)).alloc (.cells #[.int .i64 5, .string .empty, .int .i64 0, .string .empty, .int .i64 0, .int .i64 0, .int .i64 0, .int .i64 0, .int .i64 0, .int .i64 0, .int .i64 0, .slice none 0 0, .string .empty, .int .i64 0, .int .i64 0] 37)) := below_box (below_box (Below.refl _ _) _) _
  have HB0 := Lib.hid hb0
  have HR := Lib.hid (hR.below hb0)
  have HOff := Lib.hid (hR.off (Nat.le_succ _))
  have HA0 : Hid (Cm.Blk ((w.alloc (.cells #[.int .i64 0, .string .empty, .int .i64 0, .string .empty, .int .i64 0, .int .i64 0, .int .i64 0, .int .i64 0, .int .i64 0, .int .i64 0, .int .i64 0, .slice none 0 0, .string .empty, .int .i64 0, .int .i64 0] 37)).alloc (.cells #[.int .i64 5, .string .empty, .int .i64 0, .string .empty, .int .i64 0, .int .i64 0, .int .i64 0, .int .i64 0, .int .i64 0, .int .i64 0, .int .i64 0, .slice none 0 0, .string .empty, .int .i64 0, .int .i64 0] 37)) w.heap.size Cm.T.zero) := Lib.hid (heap_old (heap_alloc_new w _))
  have HC0 : Hid (Cm.Blk ((w.alloc (.cells #[.int .i64 0, .string .empty, .int .i64 0, .string .empty, .int .i64 0, .int .i64 0, .int .i64 0, .int .i64 0, .int .i64 0, .int .i64 0, .int .i64 0, .slice none 0 0, .string .empty, .int .i64 0, .int .i64 0] 37)).alloc (.cells #[.int .i64 5, .string .empty, .int .i64 0, .string .empty, .int .i64 0, .int .i64 0, .int .i64 0, .int .i64 0, .int .i64 0, .int .i64 0, .int .i64 0, .slice none 0 0, .string .empty, .int .i64 0, .int .i64 0] 37)) (w.heap.size + 1) { Cm.T.zero with kind := 5 }) := Lib.hid (Mem.heap_next w _ _)
  have hn0 : w.heap.size ≠ p := by omega
  have hn1 : w.heap.size + 1 ≠ p := by omega
  have hn01 : w.heap.size ≠ w.heap.size + 1 := by omega
  clear hR hb0 hbs
  go_enter Try.func36, Try.ntmps36
  go_wp2_with fail
  refine (cmd_text p ao n cap bs s _ HR.out).mono ?_
  rintro e x1 ⟨rfl, hR1, hU1⟩
  obtain ⟨v1, st1, hq1⟩ : ∃ v q, rText bs 64 s = (v, q) := ⟨_, _, rfl⟩
  rw [hq1] at hR1 ⊢
  dsimp only at hR1 ⊢
  have B1 := HC0.out.upd hU1 hn1
  have q1_1 := B1.cell 1
  have z1_1 := B1.fz 1
  change _ = some _ at q1_1
  have HC1 := Lib.hid (B1.set (c' := { Cm.T.zero with kind := 5, series := v1 }) 1 (.string v1) rfl)
  have HA1 := Lib.hid ((HA0.out.upd hU1 hn0).other (q := w.heap.size + 1) (o := 1) (.string v1) hn01)
  have HR1 := Lib.hid (hR1.other (q := w.heap.size + 1) (o := 1) HOff.out (.string v1))
  have HU1 := Lib.hid (((Upd.of p HB0.out).trans hU1).fresh (q := w.heap.size + 1) (o := 1) (by omega) (.string v1))
  clear hR1 hU1 B1
  go_wp2_with fail
  refine (cmd_day p ao n cap bs st1 _ HR1.out).mono ?_
  rintro e x2 ⟨rfl, hR2, hU2⟩
  obtain ⟨⟨v2a, v2b, v2c⟩, st2, hq2⟩ : ∃ v q, rDay bs st1 = (v, q) := ⟨_, _, rfl⟩
  rw [hq2] at hR2 ⊢
  dsimp only at hR2 ⊢
  have B2 := HC1.out.upd hU2 hn1
  have q2_8 := B2.cell 8
  have z2_8 := B2.fz 8
  change _ = some _ at q2_8
  have q2_9 := B2.cell 9
  have z2_9 := B2.fz 9
  change _ = some _ at q2_9
  have q2_10 := B2.cell 10
  have z2_10 := B2.fz 10
  change _ = some _ at q2_10
  have HC2 := Lib.hid (((B2.set (c' := { Cm.T.zero with kind := 5, series := v1, y := v2a }) 8 (.int .i64 v2a) rfl).set (c' := { Cm.T.zero with kind := 5, series := v1, y := v2a, m := v2b }) 9 (.int .i64 v2b) rfl).set (c' := { Cm.T.zero with kind := 5, series := v1, y := v2a, m := v2b, d := v2c }) 10 (.int .i64 v2c) rfl)
  have HA2 := Lib.hid ((((HA1.out.upd hU2 hn0).other (q := w.heap.size + 1) (o := 8) (.int .i64 v2a) hn01).other (q := w.heap.size + 1) (o := 9) (.int .i64 v2b) hn01).other (q := w.heap.size + 1) (o := 10) (.int .i64 v2c) hn01)
  have HR2 := Lib.hid (((hR2.other (q := w.heap.size + 1) (o := 8) HOff.out (.int .i64 v2a)).other (q := w.heap.size + 1) (o := 9) HOff.out (.int .i64 v2b)).other (q := w.heap.size + 1) (o := 10) HOff.out (.int .i64 v2c))
  have HU2 := Lib.hid ((((HU1.out.trans hU2).fresh (q := w.heap.size + 1) (o := 8) (by omega) (.int .i64 v2a)).fresh (q := w.heap.size + 1) (o := 9) (by omega) (.int .i64 v2b)).fresh (q := w.heap.size + 1) (o := 10) (by omega) (.int .i64 v2c))
  clear hR2 hU2 B2
  go_wp2_with fail
  refine (cmd_text p ao n cap bs st2 _ HR2.out).mono ?_
  rintro e x3 ⟨rfl, hR3, hU3⟩
  obtain ⟨v3, st3, hq3⟩ : ∃ v q, rText bs 64 st2 = (v, q) := ⟨_, _, rfl⟩
  rw [hq3] at hR3 ⊢
  dsimp only at hR3 ⊢
  have B3 := HC2.out.upd hU3 hn1
  have q3_12 := B3.cell 12
  have z3_12 := B3.fz 12
  change _ = some _ at q3_12
  have HC3 := Lib.hid (B3.set (c' := { Cm.T.zero with kind := 5, series := v1, y := v2a, m := v2b, d := v2c, ofs := v3 }) 12 (.string v3) rfl)
  have HA3 := Lib.hid ((HA2.out.upd hU3 hn0).other (q := w.heap.size + 1) (o := 12) (.string v3) hn01)
  have HR3 := Lib.hid (hR3.other (q := w.heap.size + 1) (o := 12) HOff.out (.string v3))
  have HU3 := Lib.hid ((HU2.out.trans hU3).fresh (q := w.heap.size + 1) (o := 12) (by omega) (.string v3))
  clear hR3 hU3 B3
  go_wp2_with fail
  refine (rd_num p ao n cap bs st3 _ HR3.out).mono ?_
  rintro e x4 ⟨rfl, hR4, hU4⟩
  obtain ⟨v4, st4, hq4⟩ : ∃ v q, rNum bs st3 = (v, q) := ⟨_, _, rfl⟩
  rw [hq4] at hR4 ⊢
  dsimp only at hR4 ⊢
  have B4 := HC3.out.upd hU4 hn1
  have q4_13 := B4.cell 13
  have z4_13 := B4.fz 13
  change _ = some _ at q4_13
  have HC4 := Lib.hid (B4.set (c' := { Cm.T.zero with kind := 5, series := v1, y := v2a, m := v2b, d := v2c, ofs := v3, ofn := v4 }) 13 (.int .i64 v4) rfl)
  have HA4 := Lib.hid ((HA3.out.upd hU4 hn0).other (q := w.heap.size + 1) (o := 13) (.int .i64 v4) hn01)
  have HR4 := Lib.hid (hR4.other (q := w.heap.size + 1) (o := 13) HOff.out (.int .i64 v4))
  have HU4 := Lib.hid ((HU3.out.trans hU4).fresh (q := w.heap.size + 1) (o := 13) (by omega) (.int .i64 v4))
  clear hR4 hU4 B4
  have HS : Hid (rCredit bs s = (⟨5, v1, 0, .empty, 0, 0, 0, 0, v2a, v2b, v2c, [], v3, v4, 0⟩, st4)) := Lib.hid (by
    unfold rCredit
    rw [hq1]
    dsimp only
    rw [hq2]
    dsimp only
    rw [hq3]
    dsimp only
    rw [hq4])
  have f1 : v1.size ≤ 140737488355328 := by have h := rText_size bs 64 s; rw [hq1] at h; have := HBs.out; dsimp only at h; omega
  have f2 : Fit v2a ∧ Fit v2b ∧ Fit v2c := by have h := rDay_fit bs st1; rw [hq2] at h; exact h
  have f3 : v3.size ≤ 140737488355328 := by have h := rText_size bs 64 st2; rw [hq3] at h; have := HBs.out; dsimp only at h; omega
  have f4 : Fit v4 := by have h := rNum_fit bs st3; rw [hq4] at h; exact h
  have HF : Hid (S.Fit' ⟨5, v1, 0, .empty, 0, 0, 0, 0, v2a, v2b, v2c, [], v3, v4, 0⟩) := Lib.hid (fitS f1 empty_size f3 fit0 fit0 fit0 fit0 fit0 f2.1 f2.2.1 f2.2.2 f4 fit0 (fun _ h => by cases h))
  clear hq1 hq2 hq3 hq4 f1 f2 f3 f4
  go_wp2_with (first | (with_reducible apply Cm.wplB_load; rfl; rfl; kernel_rfl; exact HC4.out) | (with_reducible apply Cm.wplB_store; rfl; rfl; kernel_rfl; kernel_rfl; exact HA4.out))
  refine bodyPost_ret (Cm.results_blk Try.results36 rfl (HA4.out.row { Cm.T.zero with kind := 5, series := v1, y := v2a, m := v2b, d := v2c, ofs := v3, ofn := v4 })) rfl ?_
  have hbw : ∀ (X : World) (cs : Array Value), Below w.heap.size X (X.setRow w.heap.size cs) := fun X cs => below_row (Nat.le_refl _) cs
  refine ⟨⟨{ Cm.T.zero with kind := 5, series := v1, y := v2a, m := v2b, d := v2c, ofs := v3, ofn := v4 }, rfl, ?_, ?_, ?_⟩, ?_, HU4.out.past (hbw _ _)⟩
  · rw [HS.out]
    exact Cm.in_of HF.out (⟨by show (-9223372036854775808 : Int) ≤ 5; omega, by show (5 : Int) ≤ 9223372036854775807; omega⟩) (Ln.ls_nil _)
  · rw [HS.out]
    rfl
  · exact Nat.zero_le _
  · rw [HS.out]
    exact HR4.out.past (hbw _ _) hlt HR0.out.bytes_lt
set_option maxHeartbeats 8000000 in
theorem read_7 (p : Nat) (ao : Option Addr) (n cap : Nat) (bs : List UInt8) (s : St) (w : World) (hR : Rd w p ao n cap bs s) (hbs : bs.length ≤ 1000000) :
    Calls Try.prog 36 #[.pointer (some ⟨p, 0, none⟩), .int .i64 7] w (ReadE p ao n cap bs (rLeave bs s) w) := by
  have hlt := cell_lt hR.c0
  have HR0 := Lib.hid hR
  have HBs := Lib.hid hbs
  have hb0 : Below w.heap.size w ((w.alloc (.cells #[.int .i64 0, .string .empty, .int .i64 0, .string .empty, .int .i64 0, .int .i64 0, .int .i64 0, .int .i64 0, .int .i64 0, .int .i64 0, .int .i64 0, .slice none 0 0, .string .empty, .int .i64 0, .int .i64 0] 37)).alloc (.cells #[.int .i64 7, .string .empty, .int .i64 0, .string .empty, .int .i64 0, .int .i64 0, .int .i64 0, .int .i64 0, .int .i64 0, .int .i64 0, .int .i64 0, .slice none 0 0, .string .empty, .int .i64 0, .int .i64 0] 37)) := below_box (below_box (Below.refl _ _) _) _
  have HB0 := Lib.hid hb0
  have HR := Lib.hid (hR.below hb0)
  have HOff := Lib.hid (hR.off (Nat.le_succ _))
  have HA0 : Hid (Cm.Blk ((w.alloc (.cells #[.int .i64 0, .string .empty, .int .i64 0, .string .empty, .int .i64 0, .int .i64 0, .int .i64 0, .int .i64 0, .int .i64 0, .int .i64 0, .int .i64 0, .slice none 0 0, .string .empty, .int .i64 0, .int .i64 0] 37)).alloc (.cells #[.int .i64 7, .string .empty, .int .i64 0, .string .empty, .int .i64 0, .int .i64 0, .int .i64 0, .int .i64 0, .int .i64 0, .int .i64 0, .int .i64 0, .slice none 0 0, .string .empty, .int .i64 0, .int .i64 0] 37)) w.heap.size Cm.T.zero) := Lib.hid (heap_old (heap_alloc_new w _))
  have HC0 : Hid (Cm.Blk ((w.alloc (.cells #[.int .i64 0, .string .empty, .int .i64 0, .string .empty, .int .i64 0, .int .i64 0, .int .i64 0, .int .i64 0, .int .i64 0, .int .i64 0, .int .i64 0, .slice none 0 0, .string .empty, .int .i64 0, .int .i64 0] 37)).alloc (.cells #[.int .i64 7, .string .empty, .int .i64 0, .string .empty, .int .i64 0, .int .i64 0, .int .i64 0, .int .i64 0, .int .i64 0, .int .i64 0, .int .i64 0, .slice none 0 0, .string .empty, .int .i64 0, .int .i64 0] 37)) (w.heap.size + 1) { Cm.T.zero with kind := 7 }) := Lib.hid (Mem.heap_next w _ _)
  have hn0 : w.heap.size ≠ p := by omega
  have hn1 : w.heap.size + 1 ≠ p := by omega
  have hn01 : w.heap.size ≠ w.heap.size + 1 := by omega
  clear hR hb0 hbs
  go_enter Try.func36, Try.ntmps36
  go_wp2_with fail
  refine (rd_num p ao n cap bs s _ HR.out).mono ?_
  rintro e x1 ⟨rfl, hR1, hU1⟩
  obtain ⟨v1, st1, hq1⟩ : ∃ v q, rNum bs s = (v, q) := ⟨_, _, rfl⟩
  rw [hq1] at hR1 ⊢
  dsimp only at hR1 ⊢
  have B1 := HC0.out.upd hU1 hn1
  have q1_14 := B1.cell 14
  have z1_14 := B1.fz 14
  change _ = some _ at q1_14
  have HC1 := Lib.hid (B1.set (c' := { Cm.T.zero with kind := 7, session := v1 }) 14 (.int .i64 v1) rfl)
  have HA1 := Lib.hid ((HA0.out.upd hU1 hn0).other (q := w.heap.size + 1) (o := 14) (.int .i64 v1) hn01)
  have HR1 := Lib.hid (hR1.other (q := w.heap.size + 1) (o := 14) HOff.out (.int .i64 v1))
  have HU1 := Lib.hid (((Upd.of p HB0.out).trans hU1).fresh (q := w.heap.size + 1) (o := 14) (by omega) (.int .i64 v1))
  clear hR1 hU1 B1
  have HS : Hid (rLeave bs s = (⟨7, .empty, 0, .empty, 0, 0, 0, 0, 0, 0, 0, [], .empty, 0, v1⟩, st1)) := Lib.hid (by
    unfold rLeave
    rw [hq1])
  have f1 : Fit v1 := by have h := rNum_fit bs s; rw [hq1] at h; exact h
  have HF : Hid (S.Fit' ⟨7, .empty, 0, .empty, 0, 0, 0, 0, 0, 0, 0, [], .empty, 0, v1⟩) := Lib.hid (fitS empty_size empty_size empty_size fit0 fit0 fit0 fit0 fit0 fit0 fit0 fit0 fit0 f1 (fun _ h => by cases h))
  clear hq1 f1
  go_wp2_with (first | (with_reducible apply Cm.wplB_load; rfl; rfl; kernel_rfl; exact HC1.out) | (with_reducible apply Cm.wplB_store; rfl; rfl; kernel_rfl; kernel_rfl; exact HA1.out))
  refine bodyPost_ret (Cm.results_blk Try.results36 rfl (HA1.out.row { Cm.T.zero with kind := 7, session := v1 })) rfl ?_
  have hbw : ∀ (X : World) (cs : Array Value), Below w.heap.size X (X.setRow w.heap.size cs) := fun X cs => below_row (Nat.le_refl _) cs
  refine ⟨⟨{ Cm.T.zero with kind := 7, session := v1 }, rfl, ?_, ?_, ?_⟩, ?_, HU1.out.past (hbw _ _)⟩
  · rw [HS.out]
    exact Cm.in_of HF.out (⟨by show (-9223372036854775808 : Int) ≤ 7; omega, by show (7 : Int) ≤ 9223372036854775807; omega⟩) (Ln.ls_nil _)
  · rw [HS.out]
    rfl
  · exact Nat.zero_le _
  · rw [HS.out]
    exact HR1.out.past (hbw _ _) hlt HR0.out.bytes_lt
end Go.Proofs.Ytndfhnaafaijcaa

/- CONTRACTS OF PACKAGE command: read. (By genread9.py.) -/
set_option linter.unusedVariables false
set_option maxRecDepth 100000
namespace Go.Proofs.Ytndfhnaafaijcaa
open Go.RowKit
open Mem Pk Cm
set_option maxHeartbeats 8000000 in
theorem read_8 (p : Nat) (ao : Option Addr) (n cap : Nat) (bs : List UInt8) (s : St) (w : World) (hR : Rd w p ao n cap bs s) (hbs : bs.length ≤ 1000000) :
    Calls Try.prog 36 #[.pointer (some ⟨p, 0, none⟩), .int .i64 8] w (ReadE p ao n cap bs (rAsk bs s) w) := by
  have hlt := cell_lt hR.c0
  have HR0 := Lib.hid hR
  have HBs := Lib.hid hbs
  have hb0 : Below w.heap.size w ((w.alloc (.cells #[.int .i64 0, .string .empty, .int .i64 0, .string .empty, .int .i64 0, .int .i64 0, .int .i64 0, .int .i64 0, .int .i64 0, .int .i64 0, .int .i64 0, .slice none 0 0, .string .empty, .int .i64 0, .int .i64 0] 37)).alloc (.cells #[.int .i64 8, .string .empty, .int .i64 0, .string .empty, .int .i64 0, .int .i64 0, .int .i64 0, .int .i64 0, .int .i64 0, .int .i64 0, .int .i64 0, .slice none 0 0, .string .empty, .int .i64 0, .int .i64 0] 37)) := below_box (below_box (Below.refl _ _) _) _
  have HB0 := Lib.hid hb0
  have HR := Lib.hid (hR.below hb0)
  have HOff := Lib.hid (hR.off (Nat.le_succ _))
  have HA0 : Hid (Cm.Blk ((w.alloc (.cells #[.int .i64 0, .string .empty, .int .i64 0, .string .empty, .int .i64 0, .int .i64 0, .int .i64 0, .int .i64 0, .int .i64 0, .int .i64 0, .int .i64 0, .slice none 0 0, .string .empty, .int .i64 0, .int .i64 0] 37)).alloc (.cells #[.int .i64 8, .string .empty, .int .i64 0, .string .empty, .int .i64 0, .int .i64 0, .int .i64 0, .int .i64 0, .int .i64 0, .int .i64 0, .int .i64 0, .slice none 0 0, .string .empty, .int .i64 0, .int .i64 0] 37)) w.heap.size Cm.T.zero) := Lib.hid (heap_old (heap_alloc_new w _))
  have HC0 : Hid (Cm.Blk ((w.alloc (.cells #[.int .i64 0, .string .empty, .int .i64 0, .string .empty, .int .i64 0, .int .i64 0, .int .i64 0, .int .i64 0, .int .i64 0, .int .i64 0, .int .i64 0, .slice none 0 0, .string .empty, .int .i64 0, .int .i64 0] 37)).alloc (.cells #[.int .i64 8, .string .empty, .int .i64 0, .string .empty, .int .i64 0, .int .i64 0, .int .i64 0, .int .i64 0, .int .i64 0, .int .i64 0, .int .i64 0, .slice none 0 0, .string .empty, .int .i64 0, .int .i64 0] 37)) (w.heap.size + 1) { Cm.T.zero with kind := 8 }) := Lib.hid (Mem.heap_next w _ _)
  have hn0 : w.heap.size ≠ p := by omega
  have hn1 : w.heap.size + 1 ≠ p := by omega
  have hn01 : w.heap.size ≠ w.heap.size + 1 := by omega
  clear hR hb0 hbs
  go_enter Try.func36, Try.ntmps36
  go_wp2_with fail
  refine (cmd_text p ao n cap bs s _ HR.out).mono ?_
  rintro e x1 ⟨rfl, hR1, hU1⟩
  obtain ⟨v1, st1, hq1⟩ : ∃ v q, rText bs 64 s = (v, q) := ⟨_, _, rfl⟩
  rw [hq1] at hR1 ⊢
  dsimp only at hR1 ⊢
  have B1 := HC0.out.upd hU1 hn1
  have q1_1 := B1.cell 1
  have z1_1 := B1.fz 1
  change _ = some _ at q1_1
  have HC1 := Lib.hid (B1.set (c' := { Cm.T.zero with kind := 8, series := v1 }) 1 (.string v1) rfl)
  have HA1 := Lib.hid ((HA0.out.upd hU1 hn0).other (q := w.heap.size + 1) (o := 1) (.string v1) hn01)
  have HR1 := Lib.hid (hR1.other (q := w.heap.size + 1) (o := 1) HOff.out (.string v1))
  have HU1 := Lib.hid (((Upd.of p HB0.out).trans hU1).fresh (q := w.heap.size + 1) (o := 1) (by omega) (.string v1))
  clear hR1 hU1 B1
  have HS : Hid (rAsk bs s = (⟨8, v1, 0, .empty, 0, 0, 0, 0, 0, 0, 0, [], .empty, 0, 0⟩, st1)) := Lib.hid (by
    unfold rAsk
    rw [hq1])
  have f1 : v1.size ≤ 140737488355328 := by have h := rText_size bs 64 s; rw [hq1] at h; have := HBs.out; dsimp only at h; omega
  have HF : Hid (S.Fit' ⟨8, v1, 0, .empty, 0, 0, 0, 0, 0, 0, 0, [], .empty, 0, 0⟩) := Lib.hid (fitS f1 empty_size empty_size fit0 fit0 fit0 fit0 fit0 fit0 fit0 fit0 fit0 fit0 (fun _ h => by cases h))
  clear hq1 f1
  go_wp2_with (first | (with_reducible apply Cm.wplB_load; rfl; rfl; kernel_rfl; exact HC1.out) | (with_reducible apply Cm.wplB_store; rfl; rfl; kernel_rfl; kernel_rfl; exact HA1.out))
  refine bodyPost_ret (Cm.results_blk Try.results36 rfl (HA1.out.row { Cm.T.zero with kind := 8, series := v1 })) rfl ?_
  have hbw : ∀ (X : World) (cs : Array Value), Below w.heap.size X (X.setRow w.heap.size cs) := fun X cs => below_row (Nat.le_refl _) cs
  refine ⟨⟨{ Cm.T.zero with kind := 8, series := v1 }, rfl, ?_, ?_, ?_⟩, ?_, HU1.out.past (hbw _ _)⟩
  · rw [HS.out]
    exact Cm.in_of HF.out (⟨by show (-9223372036854775808 : Int) ≤ 8; omega, by show (8 : Int) ≤ 9223372036854775807; omega⟩) (Ln.ls_nil _)
  · rw [HS.out]
    rfl
  · exact Nat.zero_le _
  · rw [HS.out]
    exact HR1.out.past (hbw _ _) hlt HR0.out.bytes_lt
set_option maxHeartbeats 8000000 in
theorem read_6 (p : Nat) (ao : Option Addr) (n cap : Nat) (bs : List UInt8) (s : St) (w : World) (hR : Rd w p ao n cap bs s) (hbs : bs.length ≤ 1000000) :
    Calls Try.prog 36 #[.pointer (some ⟨p, 0, none⟩), .int .i64 6] w (ReadE p ao n cap bs (rJoin s) w) := by
  have hlt := cell_lt hR.c0
  have HR0 := Lib.hid hR
  have HBs := Lib.hid hbs
  have hb0 : Below w.heap.size w ((w.alloc (.cells #[.int .i64 0, .string .empty, .int .i64 0, .string .empty, .int .i64 0, .int .i64 0, .int .i64 0, .int .i64 0, .int .i64 0, .int .i64 0, .int .i64 0, .slice none 0 0, .string .empty, .int .i64 0, .int .i64 0] 37)).alloc (.cells #[.int .i64 6, .string .empty, .int .i64 0, .string .empty, .int .i64 0, .int .i64 0, .int .i64 0, .int .i64 0, .int .i64 0, .int .i64 0, .int .i64 0, .slice none 0 0, .string .empty, .int .i64 0, .int .i64 0] 37)) := below_box (below_box (Below.refl _ _) _) _
  have HB0 := Lib.hid hb0
  have HR := Lib.hid (hR.below hb0)
  have HOff := Lib.hid (hR.off (Nat.le_succ _))
  have HA0 : Hid (Cm.Blk ((w.alloc (.cells #[.int .i64 0, .string .empty, .int .i64 0, .string .empty, .int .i64 0, .int .i64 0, .int .i64 0, .int .i64 0, .int .i64 0, .int .i64 0, .int .i64 0, .slice none 0 0, .string .empty, .int .i64 0, .int .i64 0] 37)).alloc (.cells #[.int .i64 6, .string .empty, .int .i64 0, .string .empty, .int .i64 0, .int .i64 0, .int .i64 0, .int .i64 0, .int .i64 0, .int .i64 0, .int .i64 0, .slice none 0 0, .string .empty, .int .i64 0, .int .i64 0] 37)) w.heap.size Cm.T.zero) := Lib.hid (heap_old (heap_alloc_new w _))
  have HC0 : Hid (Cm.Blk ((w.alloc (.cells #[.int .i64 0, .string .empty, .int .i64 0, .string .empty, .int .i64 0, .int .i64 0, .int .i64 0, .int .i64 0, .int .i64 0, .int .i64 0, .int .i64 0, .slice none 0 0, .string .empty, .int .i64 0, .int .i64 0] 37)).alloc (.cells #[.int .i64 6, .string .empty, .int .i64 0, .string .empty, .int .i64 0, .int .i64 0, .int .i64 0, .int .i64 0, .int .i64 0, .int .i64 0, .int .i64 0, .slice none 0 0, .string .empty, .int .i64 0, .int .i64 0] 37)) (w.heap.size + 1) { Cm.T.zero with kind := 6 }) := Lib.hid (Mem.heap_next w _ _)
  have hn0 : w.heap.size ≠ p := by omega
  have hn1 : w.heap.size + 1 ≠ p := by omega
  have hn01 : w.heap.size ≠ w.heap.size + 1 := by omega
  clear hR hb0 hbs
  go_enter Try.func36, Try.ntmps36
  go_wp2_with (first | (with_reducible apply Cm.wpl_load; rfl; rfl; kernel_rfl; exact Cm.heap_second _ _ _; rfl) | (with_reducible apply Cm.wpl_store; rfl; rfl; kernel_rfl; exact Cm.size_one _ _; kernel_rfl; rfl; rfl; rfl) | (with_reducible apply Cm.wpl_store_mid; rfl; rfl; kernel_rfl; rfl; kernel_rfl; rfl; rfl; rfl))
  refine bodyPost_ret (Cm.results_row Try.results36 rfl (Cm.heap_next _ _ _) rfl) rfl ?_
  exact ⟨⟨{ Cm.T.zero with kind := 6 }, rfl, Cm.in_of (fitS empty_size empty_size empty_size fit0 fit0 fit0 fit0 fit0 fit0 fit0 fit0 fit0 fit0 (fun _ h => by cases h)) (⟨by show (-9223372036854775808 : Int) ≤ 6; omega, by show (6 : Int) ≤ 9223372036854775807; omega⟩) (Ln.ls_nil _), rfl, Nat.zero_le _⟩, HR0.out.below (below_box (below_box (Below.refl _ _) _) _), Upd.of p (below_box (below_box (Below.refl _ _) _) _)⟩
end Go.Proofs.Ytndfhnaafaijcaa
