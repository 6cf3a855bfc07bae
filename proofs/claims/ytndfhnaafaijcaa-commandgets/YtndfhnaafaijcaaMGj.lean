/- MERGED: CdSa, CdSb. (By mg.py.) -/
import Derived.Test.YtndfhnaafaijcaaMGe
/- CONTRACTS OF PACKAGE command: read. (By genread9.py.) -/
set_option linter.unusedVariables false
set_option maxRecDepth 100000
namespace Go.Proofs.Ytndfhnaafaijcaa
open Go.RowKit
open Mem Pk Cm
set_option maxHeartbeats 8000000 in
theorem read_1 (p : Nat) (ao : Option Addr) (n cap : Nat) (bs : List UInt8) (s : St) (w : World) (hR : Rd w p ao n cap bs s) (hbs : bs.length ≤ 1000000) :
    Calls Try.prog 36 #[.pointer (some ⟨p, 0, none⟩), .int .i64 1] w (ReadE p ao n cap bs (rOpen bs s) w) := by
  have hlt := cell_lt hR.c0
  have HR0 := Lib.hid hR
  have HBs := Lib.hid hbs
  have hb0 : Below w.heap.size w ((w.alloc (.cells #[.int .i64 0, .string .empty, .int .i64 0, .string .empty, .int .i64 0, .int .i64 0, .int .i64 0, .int .i64 0, .int .i64 0, .int .i64 0, .int .i64 0, .slice none 0 0, .string .empty, .int .i64 0, .int .i64 0] 37)).alloc (.cells #[.int .i64 1, .string .empty, .int .i64 0, .string .empty, .int .i64 0, .int .i64 0, .int .i64 0, .int .i64 0, .int .i64 0, .int .i64 0, .int .i64 0, .slice none 0 0, .string .empty, .int .i64 0, .int .i64 0] 37)) := below_box (below_box (Below.refl _ _) _) _
  have HB0 := Lib.hid hb0
  have HR := Lib.hid (hR.below hb0)
  have HOff := Lib.hid (hR.off (Nat.le_succ _))
  have HA0 : Hid (Cm.Blk ((w.alloc (.cells #[.int .i64 0, .string .empty, .int .i64 0, .string .empty, .int .i64 0, .int .i64 0, .int .i64 0, .int .i64 0, .int .i64 0, .int .i64 0, .int .i64 0, .slice none 0 0, .string .empty, .int .i64 0, .int .i64 0] 37)).alloc (.cells #[.int .i64 1, .string .empty, .int .i64 0, .string .empty, .int .i64 0, .int .i64 0, .int .i64 0, .int .i64 0, .int .i64 0, .int .i64 0, .int .i64 0, .slice none 0 0, .string .empty, .int .i64 0, .int .i64 0] 37)) w.heap.size Cm.T.zero) := Lib.hid (heap_old (heap_alloc_new w _))
  have HC0 : Hid (Cm.Blk ((w.alloc (.cells #[.int .i64 0, .string .empty, .int .i64 0, .string .empty, .int .i64 0, .int .i64 0, .int .i64 0, .int .i64 0, .int .i64 0, .int .i64 0, .int .i64 0, .slice none 0 0, .string .empty, .int .i64 0, .int .i64 0] 37)).alloc (.cells #[.int .i64 1, .string .empty, .int .i64 0, .string .empty, .int .i64 0, .int .i64 0, .int .i64 0, .int .i64 0, .int .i64 0, .int .i64 0, .int .i64 0, .slice none 0 0, .string .empty, .int .i64 0, .int .i64 0] 37)) (w.heap.size + 1) { Cm.T.zero with kind := 1 }) := Lib.hid (Mem.heap_next w _ _)
  have hn0 : w.heap.size ≠ p := by omega
  have hn1 : w.heap.size + 1 ≠ p := by omega
  have hn01 : w.heap.size ≠ w.heap.size + 1 := by omega
  clear hR hb0 hbs
  go_enter Try.func36, Try.ntmps36
  go_wp2_with fail
  refine (cmd_text p ao n cap bs s _ HR.out).mono ?_
  rintro e x1 ⟨rfl, hR1, hU1⟩
  obtain ⟨v1, st1, hq1⟩ : ∃ v q, rText bs 64 s = (v, q) := ⟨_, _, rfl⟩
  rw [hq1] at hR1 ⊢
  dsimp only at hR1 ⊢
  have B1 := HC0.out.upd hU1 hn1
  have q1_1 := B1.cell 1
  have z1_1 := B1.fz 1
  change _ = some _ at q1_1
  have HC1 := Lib.hid (B1.set (c' := { Cm.T.zero with kind := 1, series := v1 }) 1 (.string v1) rfl)
  have HA1 := Lib.hid ((HA0.out.upd hU1 hn0).other (q := w.heap.size + 1) (o := 1) (.string v1) hn01)
  have HR1 := Lib.hid (hR1.other (q := w.heap.size + 1) (o := 1) HOff.out (.string v1))
  have HU1 := Lib.hid (((Upd.of p HB0.out).trans hU1).fresh (q := w.heap.size + 1) (o := 1) (by omega) (.string v1))
  clear hR1 hU1 B1
  go_wp2_with fail
  refine (rd_num p ao n cap bs st1 _ HR1.out).mono ?_
  rintro e x2 ⟨rfl, hR2, hU2⟩
  obtain ⟨v2, st2, hq2⟩ : ∃ v q, rNum bs st1 = (v, q) := ⟨_, _, rfl⟩
  rw [hq2] at hR2 ⊢
  dsimp only at hR2 ⊢
  have B2 := HC1.out.upd hU2 hn1
  have q2_2 := B2.cell 2
  have z2_2 := B2.fz 2
  change _ = some _ at q2_2
  have HC2 := Lib.hid (B2.set (c' := { Cm.T.zero with kind := 1, series := v1, limit := v2 }) 2 (.int .i64 v2) rfl)
  have HA2 := Lib.hid ((HA1.out.upd hU2 hn0).other (q := w.heap.size + 1) (o := 2) (.int .i64 v2) hn01)
  have HR2 := Lib.hid (hR2.other (q := w.heap.size + 1) (o := 2) HOff.out (.int .i64 v2))
  have HU2 := Lib.hid ((HU1.out.trans hU2).fresh (q := w.heap.size + 1) (o := 2) (by omega) (.int .i64 v2))
  clear hR2 hU2 B2
  have HS : Hid (rOpen bs s = (⟨1, v1, v2, .empty, 0, 0, 0, 0, 0, 0, 0, [], .empty, 0, 0⟩, st2)) := Lib.hid (by
    unfold rOpen
    rw [hq1]
    dsimp only
    rw [hq2])
  have f1 : v1.size ≤ 140737488355328 := by have h := rText_size bs 64 s; rw [hq1] at h; have := HBs.out; dsimp only at h; omega
  have f2 : Fit v2 := by have h := rNum_fit bs st1; rw [hq2] at h; exact h
  have HF : Hid (S.Fit' ⟨1, v1, v2, .empty, 0, 0, 0, 0, 0, 0, 0, [], .empty, 0, 0⟩) := Lib.hid (fitS f1 empty_size empty_size f2 fit0 fit0 fit0 fit0 fit0 fit0 fit0 fit0 fit0 (fun _ h => by cases h))
  clear hq1 hq2 f1 f2
  go_wp2_with (first | (with_reducible apply Cm.wplB_load; rfl; rfl; kernel_rfl; exact HC2.out) | (with_reducible apply Cm.wplB_store; rfl; rfl; kernel_rfl; kernel_rfl; exact HA2.out))
  refine bodyPost_ret (Cm.results_blk Try.results36 rfl (HA2.out.row { Cm.T.zero with kind := 1, series := v1, limit := v2 })) rfl ?_
  have hbw : ∀ (X : World) (cs : Array Value), Below w.heap.size X (X.setRow w.heap.size cs) := fun X cs => below_row (Nat.le_refl _) cs
  refine ⟨⟨{ Cm.T.zero with kind := 1, series := v1, limit := v2 }, rfl, ?_, ?_, ?_⟩, ?_, HU2.out.past (hbw _ _)⟩
  · rw [HS.out]
    exact Cm.in_of HF.out (⟨by show (-9223372036854775808 : Int) ≤ 1; omega, by show (1 : Int) ≤ 9223372036854775807; omega⟩) (Ln.ls_nil _)
  · rw [HS.out]
    rfl
  · exact Nat.zero_le _
  · rw [HS.out]
    exact HR2.out.past (hbw _ _) hlt HR0.out.bytes_lt
set_option maxHeartbeats 8000000 in
theorem read_2 (p : Nat) (ao : Option Addr) (n cap : Nat) (bs : List UInt8) (s : St) (w : World) (hR : Rd w p ao n cap bs s) (hbs : bs.length ≤ 1000000) :
    Calls Try.prog 36 #[.pointer (some ⟨p, 0, none⟩), .int .i64 2] w (ReadE p ao n cap bs (rShut bs s) w) := by
  have hlt := cell_lt hR.c0
  have HR0 := Lib.hid hR
  have HBs := Lib.hid hbs
  have hb0 : Below w.heap.size w ((w.alloc (.cells #[.int .i64 0, .string .empty, .int .i64 0, .string .empty, .int .i64 0, .int .i64 0, .int .i64 0, .int .i64 0, .int .i64 0, .int .i64 0, .int .i64 0, .slice none 0 0, .string .empty, .int .i64 0, .int .i64 0] 37)).alloc (.cells #[.int .i64 2, .string .empty, .int .i64 0, .string .empty, .int .i64 0, .int .i64 0, .int .i64 0, .int .i64 0, .int .i64 0, .int .i64 0, .int .i64 0, .slice none 0 0, .string .empty, .int .i64 0, .int .i64 0] 37)) := below_box (below_box (Below.refl _ _) _) _
  have HB0 := Lib.hid hb0
  have HR := Lib.hid (hR.below hb0)
  have HOff := Lib.hid (hR.off (Nat.le_succ _))
  have HA0 : Hid (Cm.Blk ((w.alloc (.cells #[.int .i64 0, .string .empty, .int .i64 0, .string .empty, .int .i64 0, .int .i64 0, .int .i64 0, .int .i64 0, .int .i64 0, .int .i64 0, .int .i64 0, .slice none 0 0, .string .empty, .int .i64 0, .int .i64 0] 37)).alloc (.cells #[.int .i64 2, .string .empty, .int .i64 0, .string .empty, .int .i64 0, .int .i64 0, .int .i64 0, .int .i64 0, .int .i64 0, .int .i64 0, .int .i64 0, .slice none 0 0, .string .empty, .int .i64 0, .int .i64 0] 37)) w.heap.size Cm.T.zero) := Lib.hid (heap_old (heap_alloc_new w _))
  have HC0 : Hid (Cm.Blk ((w.alloc (.cells #[.int .i64 0, .string .empty, .int .i64 0, .string .empty, .int .i64 0, .int .i64 0, .int .i64 0, .int .i64 0, .int .i64 0, .int .i64 0, .int .i64 0, .slice none 0 0, .string .empty, .int .i64 0, .int .i64 0] 37)).alloc (.cells #[.int .i64 2, .string .empty, .int .i64 0, .string .empty, .int .i64 0, .int .i64 0, .int .i64 0, .int .i64 0, .int .i64 0, .int .i64 0, .int .i64 0, .slice none 0 0, .string .empty, .int .i64 0, .int .i64 0] 37)) (w.heap.size + 1) { Cm.T.zero with kind := 2 }) := Lib.hid (Mem.heap_next w _ _)
  have hn0 : w.heap.size ≠ p := by omega
  have hn1 : w.heap.size + 1 ≠ p := by omega
  have hn01 : w.heap.size ≠ w.heap.size + 1 := by omega
  clear hR hb0 hbs
  go_enter Try.func36, Try.ntmps36
  go_wp2_with fail
  refine (cmd_text p ao n cap bs s _ HR.out).mono ?_
  rintro e x1 ⟨rfl, hR1, hU1⟩
  obtain ⟨v1, st1, hq1⟩ : ∃ v q, rText bs 64 s = (v, q) := ⟨_, _, rfl⟩
  rw [hq1] at hR1 ⊢
  dsimp only at hR1 ⊢
  have B1 := HC0.out.upd hU1 hn1
  have q1_1 := B1.cell 1
  have z1_1 := B1.fz 1
  change _ = some _ at q1_1
  have HC1 := Lib.hid (B1.set (c' := { Cm.T.zero with kind := 2, series := v1 }) 1 (.string v1) rfl)
  have HA1 := Lib.hid ((HA0.out.upd hU1 hn0).other (q := w.heap.size + 1) (o := 1) (.string v1) hn01)
  have HR1 := Lib.hid (hR1.other (q := w.heap.size + 1) (o := 1) HOff.out (.string v1))
  have HU1 := Lib.hid (((Upd.of p HB0.out).trans hU1).fresh (q := w.heap.size + 1) (o := 1) (by omega) (.string v1))
  clear hR1 hU1 B1
  have HS : Hid (rShut bs s = (⟨2, v1, 0, .empty, 0, 0, 0, 0, 0, 0, 0, [], .empty, 0, 0⟩, st1)) := Lib.hid (by
    unfold rShut
    rw [hq1])
  have f1 : v1.size ≤ 140737488355328 := by have h := rText_size bs 64 s; rw [hq1] at h; have := HBs.out; dsimp only at h; omega
  have HF : Hid (S.Fit' ⟨2, v1, 0, .empty, 0, 0, 0, 0, 0, 0, 0, [], .empty, 0, 0⟩) := Lib.hid (fitS f1 empty_size empty_size fit0 fit0 fit0 fit0 fit0 fit0 fit0 fit0 fit0 fit0 (fun _ h => by cases h))
  clear hq1 f1
  go_wp2_with (first | (with_reducible apply Cm.wplB_load; rfl; rfl; kernel_rfl; exact HC1.out) | (with_reducible apply Cm.wplB_store; rfl; rfl; kernel_rfl; kernel_rfl; exact HA1.out))
  refine bodyPost_ret (Cm.results_blk Try.results36 rfl (HA1.out.row { Cm.T.zero with kind := 2, series := v1 })) rfl ?_
  have hbw : ∀ (X : World) (cs : Array Value), Below w.heap.size X (X.setRow w.heap.size cs) := fun X cs => below_row (Nat.le_refl _) cs
  refine ⟨⟨{ Cm.T.zero with kind := 2, series := v1 }, rfl, ?_, ?_, ?_⟩, ?_, HU1.out.past (hbw _ _)⟩
  · rw [HS.out]
    exact Cm.in_of HF.out (⟨by show (-9223372036854775808 : Int) ≤ 2; omega, by show (2 : Int) ≤ 9223372036854775807; omega⟩) (Ln.ls_nil _)
  · rw [HS.out]
    rfl
  · exact Nat.zero_le _
  · rw [HS.out]
    exact HR1.out.past (hbw _ _) hlt HR0.out.bytes_lt
set_option maxHeartbeats 8000000 in
theorem read_3 (p : Nat) (ao : Option Addr) (n cap : Nat) (bs : List UInt8) (s : St) (w : World) (hR : Rd w p ao n cap bs s) (hbs : bs.length ≤ 1000000) :
    Calls Try.prog 36 #[.pointer (some ⟨p, 0, none⟩), .int .i64 3] w (ReadE p ao n cap bs (rLevy bs s) w) := by
  have hlt := cell_lt hR.c0
  have HR0 := Lib.hid hR
  have HBs := Lib.hid hbs
  have hb0 : Below w.heap.size w ((w.alloc (.cells #[.int .i64 0, .string .empty, .int .i64 0, .string .empty, .int .i64 0, .int .i64 0, .int .i64 0, .int .i64 0, .int .i64 0, .int .i64 0, .int .i64 0, .slice none 0 0, .string .empty, .int .i64 0, .int .i64 0] 37)).alloc (.cells #[.int .i64 3, .string .empty, .int .i64 0, .string .empty, .int .i64 0, .int .i64 0, .int .i64 0, .int .i64 0, .int .i64 0, .int .i64 0, .int .i64 0, .slice none 0 0, .string .empty, .int .i64 0, .int .i64 0] 37)) := below_box (below_box (Below.refl _ _) _) _
  have HB0 := Lib.hid hb0
  have HR := Lib.hid (hR.below hb0)
  have HOff := Lib.hid (hR.off (Nat.le_succ _))
  have HA0 : Hid (Cm.Blk ((w.alloc (.cells #[.int .i64 0, .string .empty, .int .i64 0, .string .empty, .int .i64 0, .int .i64 0, .int .i64 0, .int .i64 0, .int .i64 0, .int .i64 0, .int .i64 0, .slice none 0 0, .string .empty, .int .i64 0, .int .i64 0] 37)).alloc (.cells #[.int .i64 3, .string .empty, .int .i64 0, .string .empty, .int .i64 0, .int .i64 0, .int .i64 0, .int .i64 0, .int .i64 0, .int .i64 0, .int .i64 0, .slice none 0 0, .string .empty, .int .i64 0, .int .i64 0] 37)) w.heap.size Cm.T.zero) := Lib.hid (heap_old (heap_alloc_new w _))
  have HC0 : Hid (Cm.Blk ((w.alloc (.cells #[.int .i64 0, .string .empty, .int .i64 0, .string .empty, .int .i64 0, .int .i64 0, .int .i64 0, .int .i64 0, .int .i64 0, .int .i64 0, .int .i64 0, .slice none 0 0, .string .empty, .int .i64 0, .int .i64 0] 37)).alloc (.cells #[.int .i64 3, .string .empty, .int .i64 0, .string .empty, .int .i64 0, .int .i64 0, .int .i64 0, .int .i64 0, .int .i64 0, .int .i64 0, .int .i64 0, .slice none 0 0, .string .empty, .int .i64 0, .int .i64 0] 37)) (w.heap.size + 1) { Cm.T.zero with kind := 3 }) := Lib.hid (Mem.heap_next w _ _)
  have hn0 : w.heap.size ≠ p := by omega
  have hn1 : w.heap.size + 1 ≠ p := by omega
  have hn01 : w.heap.size ≠ w.heap.size + 1 := by omega
  clear hR hb0 hbs
  go_enter Try.func36, Try.ntmps36
  go_wp2_with fail
  refine (cmd_text p ao n cap bs s _ HR.out).mono ?_
  rintro e x1 ⟨rfl, hR1, hU1⟩
  obtain ⟨v1, st1, hq1⟩ : ∃ v q, rText bs 64 s = (v, q) := ⟨_, _, rfl⟩
  rw [hq1] at hR1 ⊢
  dsimp only at hR1 ⊢
  have B1 := HC0.out.upd hU1 hn1
  have q1_3 := B1.cell 3
  have z1_3 := B1.fz 3
  change _ = some _ at q1_3
  have HC1 := Lib.hid (B1.set (c' := { Cm.T.zero with kind := 3, cat := v1 }) 3 (.string v1) rfl)
  have HA1 := Lib.hid ((HA0.out.upd hU1 hn0).other (q := w.heap.size + 1) (o := 3) (.string v1) hn01)
  have HR1 := Lib.hid (hR1.other (q := w.heap.size + 1) (o := 3) HOff.out (.string v1))
  have HU1 := Lib.hid (((Upd.of p HB0.out).trans hU1).fresh (q := w.heap.size + 1) (o := 3) (by omega) (.string v1))
  clear hR1 hU1 B1
  go_wp2_with fail
  refine (cmd_day p ao n cap bs st1 _ HR1.out).mono ?_
  rintro e x2 ⟨rfl, hR2, hU2⟩
  obtain ⟨⟨v2a, v2b, v2c⟩, st2, hq2⟩ : ∃ v q, rDay bs st1 = (v, q) := ⟨_, _, rfl⟩
  rw [hq2] at hR2 ⊢
  dsimp only at hR2 ⊢
  have B2 := HC1.out.upd hU2 hn1
  have q2_4 := B2.cell 4
  have z2_4 := B2.fz 4
  change _ = some _ at q2_4
  have q2_5 := B2.cell 5
  have z2_5 := B2.fz 5
  change _ = some _ at q2_5
  have q2_6 := B2.cell 6
  have z2_6 := B2.fz 6
  change _ = some _ at q2_6
  have HC2 := Lib.hid (((B2.set (c' := { Cm.T.zero with kind := 3, cat := v1, fy := v2a }) 4 (.int .i64 v2a) rfl).set (c' := { Cm.T.zero with kind := 3, cat := v1, fy := v2a, fm := v2b }) 5 (.int .i64 v2b) rfl).set (c' := { Cm.T.zero with kind := 3, cat := v1, fy := v2a, fm := v2b, fd := v2c }) 6 (.int .i64 v2c) rfl)
  have HA2 := Lib.hid ((((HA1.out.upd hU2 hn0).other (q := w.heap.size + 1) (o := 4) (.int .i64 v2a) hn01).other (q := w.heap.size + 1) (o := 5) (.int .i64 v2b) hn01).other (q := w.heap.size + 1) (o := 6) (.int .i64 v2c) hn01)
  have HR2 := Lib.hid (((hR2.other (q := w.heap.size + 1) (o := 4) HOff.out (.int .i64 v2a)).other (q := w.heap.size + 1) (o := 5) HOff.out (.int .i64 v2b)).other (q := w.heap.size + 1) (o := 6) HOff.out (.int .i64 v2c))
  have HU2 := Lib.hid ((((HU1.out.trans hU2).fresh (q := w.heap.size + 1) (o := 4) (by omega) (.int .i64 v2a)).fresh (q := w.heap.size + 1) (o := 5) (by omega) (.int .i64 v2b)).fresh (q := w.heap.size + 1) (o := 6) (by omega) (.int .i64 v2c))
  clear hR2 hU2 B2
  go_wp2_with fail
  refine (rd_num p ao n cap bs st2 _ HR2.out).mono ?_
  rintro e x3 ⟨rfl, hR3, hU3⟩
  obtain ⟨v3, st3, hq3⟩ : ∃ v q, rNum bs st2 = (v, q) := ⟨_, _, rfl⟩
  rw [hq3] at hR3 ⊢
  dsimp only at hR3 ⊢
  have B3 := HC2.out.upd hU3 hn1
  have q3_7 := B3.cell 7
  have z3_7 := B3.fz 7
  change _ = some _ at q3_7
  have HC3 := Lib.hid (B3.set (c' := { Cm.T.zero with kind := 3, cat := v1, fy := v2a, fm := v2b, fd := v2c, bp := v3 }) 7 (.int .i64 v3) rfl)
  have HA3 := Lib.hid ((HA2.out.upd hU3 hn0).other (q := w.heap.size + 1) (o := 7) (.int .i64 v3) hn01)
  have HR3 := Lib.hid (hR3.other (q := w.heap.size + 1) (o := 7) HOff.out (.int .i64 v3))
  have HU3 := Lib.hid ((HU2.out.trans hU3).fresh (q := w.heap.size + 1) (o := 7) (by omega) (.int .i64 v3))
  clear hR3 hU3 B3
  have HS : Hid (rLevy bs s = (⟨3, .empty, 0, v1, v2a, v2b, v2c, v3, 0, 0, 0, [], .empty, 0, 0⟩, st3)) := Lib.hid (by
    unfold rLevy
    rw [hq1]
    dsimp only
    rw [hq2]
    dsimp only
    rw [hq3])
  have f1 : v1.size ≤ 140737488355328 := by have h := rText_size bs 64 s; rw [hq1] at h; have := HBs.out; dsimp only at h; omega
  have f2 : Fit v2a ∧ Fit v2b ∧ Fit v2c := by have h := rDay_fit bs st1; rw [hq2] at h; exact h
  have f3 : Fit v3 := by have h := rNum_fit bs st2; rw [hq3] at h; exact h
  have HF : Hid (S.Fit' ⟨3, .empty, 0, v1, v2a, v2b, v2c, v3, 0, 0, 0, [], .empty, 0, 0⟩) := Lib.hid (fitS empty_size f1 empty_size fit0 f2.1 f2.2.1 f2.2.2 f3 fit0 fit0 fit0 fit0 fit0 (fun _ h => by cases h))
  clear hq1 hq2 hq3 f1 f2 f3
  go_wp2_with (first | (with_reducible apply Cm.wplB_load; rfl; rfl; kernel_rfl; exact HC3.out) | (with_reducible apply Cm.wplB_store; rfl; rfl; kernel_rfl; kernel_rfl; exact HA3.out))
  refine bodyPost_ret (Cm.results_blk Try.results36 rfl (HA3.out.row { Cm.T.zero with kind := 3, cat := v1, fy := v2a, fm := v2b, fd := v2c, bp := v3 })) rfl ?_
  have hbw : ∀ (X : World) (cs : Array Value), Below w.heap.size X (X.setRow w.heap.size cs) := fun X cs => below_row (Nat.le_refl _) cs
  refine ⟨⟨{ Cm.T.zero with kind := 3, cat := v1, fy := v2a, fm := v2b, fd := v2c, bp := v3 }, rfl, ?_, ?_, ?_⟩, ?_, HU3.out.past (hbw _ _)⟩
  · rw [HS.out]
    exact Cm.in_of HF.out (⟨by show (-9223372036854775808 : Int) ≤ 3; omega, by show (3 : Int) ≤ 9223372036854775807; omega⟩) (Ln.ls_nil _)
  · rw [HS.out]
    rfl
  · exact Nat.zero_le _
  · rw [HS.out]
    exact HR3.out.past (hbw _ _) hlt HR0.out.bytes_lt
end Go.Proofs.Ytndfhnaafaijcaa

/- CONTRACTS OF PACKAGE command: read. (By genread9.py.) -/
set_option linter.unusedVariables false
set_option maxRecDepth 100000
namespace Go.Proofs.Ytndfhnaafaijcaa
open Go.RowKit
open Mem Pk Cm
set_option maxHeartbeats 8000000 in
theorem read_4 (p : Nat) (ao : Option Addr) (n cap : Nat) (bs : List UInt8) (s : St) (w : World) (hR : Rd w p ao n cap bs s) (hbs : bs.length ≤ 1000000) :
    Calls Try.prog 36 #[.pointer (some ⟨p, 0, none⟩), .int .i64 4] w (ReadE p ao n cap bs (rPost bs s) w) := by
  have hlt := cell_lt hR.c0
  have HR0 := Lib.hid hR
  have HBs := Lib.hid hbs
  have hb0 : Below w.heap.size w ((w.alloc (.cells #[.int .i64 0, .string .empty, .int .i64 0, .string .empty, .int .i64 0, .int .i64 0, .int .i64 0, .int .i64 0, .int .i64 0, .int .i64 0, .int .i64 0, .slice none 0 0, .string .empty, .int .i64 0, .int .i64 0] 37)).alloc (.cells #[.int .i64 4, .string .empty, .int .i64 0, .string .empty, .int .i64 0, .int .i64 0, .int .i64 0, .int .i64 0, .int .i64 0, .int .i64 0, .int .i64 0, .slice none 0 0, .string .empty, .int .i64 0, .int .i64 0] 37)) := below_box (below_box (Below.refl _ _) _) _
  have HB0 := Lib.hid hb0
  have HR := Lib.hid (hR.below hb0)
  have HOff := Lib.hid (hR.off (Nat.le_succ _))
  have HA0 : Hid (Cm.Blk ((w.alloc (.cells #[.int .i64 0, .string .empty, .int .i64 0, .string .empty, .int .i64 0, .int .i64 0, .int .i64 0, .int .i64 0, .int .i64 0, .int .i64 0, .int .i64 0, .slice none 0 0, .string .empty, .int .i64 0, .int .i64 0] 37)).alloc (.cells #[.int .i64 4, .string .empty, .int .i64 0, .string .empty, .int .i64 0, .int .i64 0, .int .i64 0, .int .i64 0, .int .i64 0, .int .i64 0, .int .i64 0, .slice none 0 0, .string .empty, .int .i64 0, .int .i64 0] 37)) w.heap.size Cm.T.zero) := Lib.hid (heap_old (heap_alloc_new w _))
  have HC0 : Hid (Cm.Blk ((w.alloc (.cells #[.int .i64 0, .string .empty, .int .i64 0, .string .empty, .int .i64 0, .int .i64 0, .int .i64 0, .int .i64 0, .int .i64 0, .int .i64 0, .int .i64 0, .slice none 0 0, .string .empty, .int .i64 0, .int .i64 0] 37)).alloc (.cells #[.int .i64 4, .string .empty, .int .i64 0, .string .empty, .int .i64 0, .int .i64 0, .int .i64 0, .int .i64 0, .int .i64 0, .int .i64 0, .int .i64 0, .slice none 0 0, .string .empty, .int .i64 0, .int .i64 0] 37)) (w.heap.size + 1) { Cm.T.zero with kind := 4 }) := Lib.hid (Mem.heap_next w _ _)
  have hn0 : w.heap.size ≠ p := by omega
  have hn1 : w.heap.size + 1 ≠ p := by omega
  have hn01 : w.heap.size ≠ w.heap.size + 1 := by omega
  clear hR hb0 hbs
  go_enter Try.func36, Try.ntmps36
  go_wp2_with fail
  refine (cmd_text p ao n cap bs s _ HR.out).mono ?_
  rintro e x1 ⟨rfl, hR1, hU1⟩
  obtain ⟨v1, st1, hq1⟩ : ∃ v q, rText bs 64 s = (v, q) := ⟨_, _, rfl⟩
  rw [hq1] at hR1 ⊢
  dsimp only at hR1 ⊢
  have B1 := HC0.out.upd hU1 hn1
  have q1_1 := B1.cell 1
  have z1_1 := B1.fz 1
  change _ = some _ at q1_1
  have HC1 := Lib.hid (B1.set (c' := { Cm.T.zero with kind := 4, series := v1 }) 1 (.string v1) rfl)
  have HA1 := Lib.hid ((HA0.out.upd hU1 hn0).other (q := w.heap.size + 1) (o := 1) (.string v1) hn01)
  have HR1 := Lib.hid (hR1.other (q := w.heap.size + 1) (o := 1) HOff.out (.string v1))
  have HU1 := Lib.hid (((Upd.of p HB0.out).trans hU1).fresh (q := w.heap.size + 1) (o := 1) (by omega) (.string v1))
  clear hR1 hU1 B1
  go_wp2_with fail
  refine (cmd_day p ao n cap bs st1 _ HR1.out).mono ?_
  rintro e x2 ⟨rfl, hR2, hU2⟩
  obtain ⟨⟨v2a, v2b, v2c⟩, st2, hq2⟩ : ∃ v q, rDay bs st1 = (v, q) := ⟨_, _, rfl⟩
  rw [hq2] at hR2 ⊢
  dsimp only at hR2 ⊢
  have B2 := HC1.out.upd hU2 hn1
  have q2_8 := B2.cell 8
  have z2_8 := B2.fz 8
  change _ = some _ at q2_8
  have q2_9 := B2.cell 9
  have z2_9 := B2.fz 9
  change _ = some _ at q2_9
  have q2_10 := B2.cell 10
  have z2_10 := B2.fz 10
  change _ = some _ at q2_10
  have HC2 := Lib.hid (((B2.set (c' := { Cm.T.zero with kind := 4, series := v1, y := v2a }) 8 (.int .i64 v2a) rfl).set (c' := { Cm.T.zero with kind := 4, series := v1, y := v2a, m := v2b }) 9 (.int .i64 v2b) rfl).set (c' := { Cm.T.zero with kind := 4, series := v1, y := v2a, m := v2b, d := v2c }) 10 (.int .i64 v2c) rfl)
  have HA2 := Lib.hid ((((HA1.out.upd hU2 hn0).other (q := w.heap.size + 1) (o := 8) (.int .i64 v2a) hn01).other (q := w.heap.size + 1) (o := 9) (.int .i64 v2b) hn01).other (q := w.heap.size + 1) (o := 10) (.int .i64 v2c) hn01)
  have HR2 := Lib.hid (((hR2.other (q := w.heap.size + 1) (o := 8) HOff.out (.int .i64 v2a)).other (q := w.heap.size + 1) (o := 9) HOff.out (.int .i64 v2b)).other (q := w.heap.size + 1) (o := 10) HOff.out (.int .i64 v2c))
  have HU2 := Lib.hid ((((HU1.out.trans hU2).fresh (q := w.heap.size + 1) (o := 8) (by omega) (.int .i64 v2a)).fresh (q := w.heap.size + 1) (o := 9) (by omega) (.int .i64 v2b)).fresh (q := w.heap.size + 1) (o := 10) (by omega) (.int .i64 v2c))
  clear hR2 hU2 B2
  go_wp2_with fail
  refine (cmd_lines p ao n cap bs st2 _ HR2.out HBs.out).mono ?_
  rintro e x3 ⟨⟨lv, rfl, hO, hSh⟩, hR3, hU3⟩
  obtain ⟨ls, st3, hq3⟩ : ∃ ls q, rLines bs (rCount bs 12 st2).1.toNat (rCount bs 12 st2).2 = (ls, q) := ⟨_, _, rfl⟩
  rw [hq3] at hO hSh hR3
  dsimp only at hO hSh hR3
  obtain ⟨la, lc, rfl, hLs, hNew⟩ := Ln.own_ls hO hSh
  have B3 := HC2.out.upd hU3 hn1
  have q3_11 := B3.cell 11
  have z3_11 := B3.fz 11
  change _ = some _ at q3_11
  have HC3 := Lib.hid (B3.set (c' := { Cm.T.zero with kind := 4, series := v1, y := v2a, m := v2b, d := v2c, ao := la, n := ls.length, cap := lc }) 11 (.slice la ls.length lc) rfl)
  have HA3 := Lib.hid ((HA2.out.upd hU3 hn0).other (q := w.heap.size + 1) (o := 11) (.slice la ls.length lc) hn01)
  have HR3 := Lib.hid (hR3.other (q := w.heap.size + 1) (o := 11) HOff.out (.slice la ls.length lc))
  have HU3 := Lib.hid ((HU2.out.trans hU3).fresh (q := w.heap.size + 1) (o := 11) (by omega) (.slice la ls.length lc))
  have HLs := Lib.hid (hLs.upd (p := w.heap.size + 1) (Upd.set (o := 11) (.slice la ls.length lc)) (Ln.apart hNew (HC2.out.lt)))
  have HNw := Lib.hid hNew
  have HLn : Hid (ls.length ≤ 1000) := Lib.hid (by
    have h := rLines_len bs (rCount bs 12 st2).1.toNat (rCount bs 12 st2).2
    have h2 := rCount_le bs 12 st2 (by omega)
    rw [hq3] at h
    dsimp only at h
    omega)
  have HSh := Lib.hid hSh
  clear hO hSh hLs hNew
  clear hR3 hU3 B3
  have HS : Hid (rPost bs s = (⟨4, v1, 0, .empty, 0, 0, 0, 0, v2a, v2b, v2c, ls, .empty, 0, 0⟩, st3)) := Lib.hid (by
    unfold rPost
    rw [hq1]
    dsimp only
    rw [hq2]
    dsimp only
    rw [hq3])
  have f1 : v1.size ≤ 140737488355328 := by have h := rText_size bs 64 s; rw [hq1] at h; have := HBs.out; dsimp only at h; omega
  have f2 : Fit v2a ∧ Fit v2b ∧ Fit v2c := by have h := rDay_fit bs st1; rw [hq2] at h; exact h
  have HF : Hid (S.Fit' ⟨4, v1, 0, .empty, 0, 0, 0, 0, v2a, v2b, v2c, ls, .empty, 0, 0⟩) := Lib.hid (fitS f1 empty_size empty_size fit0 fit0 fit0 fit0 fit0 f2.1 f2.2.1 f2.2.2 fit0 fit0 HSh.out)
  clear hq1 hq2 hq3 f1 f2
  go_wp2_with (first | (with_reducible apply Cm.wplB_load; rfl; rfl; kernel_rfl; exact HC3.out) | (with_reducible apply Cm.wplB_store; rfl; rfl; kernel_rfl; kernel_rfl; exact HA3.out))
  refine bodyPost_ret (Cm.results_blk Try.results36 rfl (HA3.out.row { Cm.T.zero with kind := 4, series := v1, y := v2a, m := v2b, d := v2c, ao := la, n := ls.length, cap := lc })) rfl ?_
  have hbw : ∀ (X : World) (cs : Array Value), Below w.heap.size X (X.setRow w.heap.size cs) := fun X cs => below_row (Nat.le_refl _) cs
  refine ⟨⟨{ Cm.T.zero with kind := 4, series := v1, y := v2a, m := v2b, d := v2c, ao := la, n := ls.length, cap := lc }, rfl, ?_, ?_, ?_⟩, ?_, HU3.out.past (hbw _ _)⟩
  · rw [HS.out]
    exact Cm.in_of HF.out (⟨by show (-9223372036854775808 : Int) ≤ 4; omega, by show (4 : Int) ≤ 9223372036854775807; omega⟩) (Ln.Ls.setRow HLs.out (Ln.apart HNw.out (Nat.lt_trans (Nat.lt_succ_self _) HC2.out.lt)))
  · rw [HS.out]
    rfl
  · exact HLn.out
  · rw [HS.out]
    exact HR3.out.past (hbw _ _) hlt HR0.out.bytes_lt
end Go.Proofs.Ytndfhnaafaijcaa
