/- THE DOCUMENT's OWN ANSWER: impostref8.Get. (By genrget.py.) -/
import Derived.Test.YtndfhnaafaijcaaRgE
set_option linter.unusedVariables false
set_option maxRecDepth 100000
namespace Go.Proofs.Ytndfhnaafaijcaa
open Go.RowKit
open Mem Pk Cm

set_option maxHeartbeats 16000000 in
theorem rget_3 (bs : List UInt8) (ao : Option Addr) (m cap : Nat) (w : World) (hL : By.Ls w ao m cap bs) (hsm : ¬ 1024 < m) (he : (rNum bs s0).2.err = 0) (hk : (rNum bs s0).1 = 3) :
    Calls Try.prog 25 #[.slice ao m cap] w (RGetE bs w) := by
  have HL := Lib.hid hL
  have HLen := Lib.hid hL.len
  have hcap := hL.reach
  have hfit := hL.fits
  have hb0 : Below w.heap.size w (w.alloc (.cells #[.int .i64 0, .string .empty, .int .i64 0, .string .empty, .int .i64 0, .int .i64 0, .int .i64 0, .int .i64 0, .int .i64 0, .int .i64 0, .int .i64 0, .slice none 0 0, .string .empty, .int .i64 0, .int .i64 0] 37)) := below_box (Below.refl _ _) _
  have HB0 := Lib.hid hb0
  have HL0 := Lib.hid (hL.below hb0)
  have HA0 : Hid (Cm.Blk (w.alloc (.cells #[.int .i64 0, .string .empty, .int .i64 0, .string .empty, .int .i64 0, .int .i64 0, .int .i64 0, .int .i64 0, .int .i64 0, .int .i64 0, .int .i64 0, .slice none 0 0, .string .empty, .int .i64 0, .int .i64 0] 37)) w.heap.size Cm.T.zero) := Lib.hid (heap_alloc_new w _)
  have HSm : Hid (¬ 1024 < bs.length) := Lib.hid (by rw [← HLen.out]; exact hsm)
  have HBs : Hid (bs.length ≤ 1000000) := Lib.hid (by have := HSm.out; omega)
  have a1 : ¬ (1024 : Int) < (m : Int) := by omega
  have HN := Lib.hid (get_num (bs := bs) HSm.out)
  have HKd := Lib.hid (get_kind (bs := bs) HSm.out)
  have HEn := Lib.hid (get_end (bs := bs) HSm.out)
  have HIs := Lib.hid (get_is (bs := bs) HSm.out)
  obtain ⟨s1, hq⟩ : ∃ s1, rNum bs s0 = (3, s1) := ⟨(rNum bs s0).2, by rw [← hk]⟩
  rw [hq] at he HN HKd HEn HIs
  dsimp only at he HN HKd HEn HIs
  have HQ := Lib.hid hq
  have HE := Lib.hid he
  clear hL hb0 hq hk 
  go_enter Try.func25, Try.ntmps25
  go_wp2_with fail
  refine (ref_read bs ao m cap _ HL0.out (by omega)).mono ?_
  rintro e w1 ⟨⟨p, bo, bc, rfl, hp, hR1⟩, b1⟩
  have hps : w.heap.size + 1 ≤ p := by simpa using hp
  have HA1 := Lib.hid (HA0.out.below b1)
  have HR1 := Lib.hid hR1
  have HB1 := Lib.hid (bchain HB0.out b1)
  have hwp : w.heap.size ≠ p := by omega
  clear hR1 b1 hp
  go_wp2_with fail
  refine (ref_rd_num p bo m bc bs s0 w1 HR1.out).mono ?_
  rintro e w2 ⟨rfl, hR2, hU2⟩
  rw [HQ.out] at hR2 ⊢
  dsimp only at hR2 ⊢
  have hlp := cell_lt hR2.c0
  obtain ⟨W2, hW2, d2, hC2⟩ := Cm.boxB w2 { Cm.T.zero with kind := 3 }
  have HA2 := Lib.hid ((HA1.out.upd hU2 hwp).below d2)
  have HB2 := Lib.hid (bchain (get_upd HB1.out (by omega) hU2) d2)
  have HR2 := Lib.hid (hR2.below d2)
  have HC2 := Lib.hid hC2
  have HOff := Lib.hid (hR2.off (Nat.le_refl _))
  have hgp : w2.heap.size ≠ p := by omega
  have hlw : w.heap.size < w2.heap.size := by omega
  have hwg : w.heap.size ≠ w2.heap.size := by omega
  have e2 := HR2.out.c2
  have e0 := hC2.cell 0
  change _ = some _ at e0
  replace e0 : W2.cell? ⟨w2.heap.size, 0, none⟩ = some (.int .i64 3) := e0
  clear hR2 hU2 d2 hC2
  have q1 : (s1.err != 0) = false := by rw [HE.out]; rfl
  clear he
  go_wp2_with (first | (with_reducible apply Cm.wplB_new (c := { Cm.T.zero with kind := 3 }); rfl; rfl; kernel_rfl; rfl; kernel_rfl; kernel_rfl; rw [hW2]))
  clear hW2 e2 e0
  refine (ref_rd_text p bo m bc bs 64 s1 _ HR2.out).mono ?_
  rintro e x3 ⟨rfl, hR, hU⟩
  obtain ⟨v1, st1, hq1⟩ : ∃ v q, rText bs 64 s1 = (v, q) := ⟨_, _, rfl⟩
  rw [hq1] at hR ⊢
  dsimp only at hR ⊢
  have B1 := HC2.out.upd hU hgp
  have q1_3 := B1.cell 3
  have z1_3 := B1.fz 3
  change _ = some _ at q1_3
  have HC3 := Lib.hid (B1.set (c' := { Cm.T.zero with kind := 3, cat := v1 }) 3 (.string v1) rfl)
  have HA3 := Lib.hid ((HA2.out.upd hU hwp).other (q := w2.heap.size) (o := 3) (.string v1) hwg)
  have HR3 := Lib.hid (hR.other (q := w2.heap.size) (o := 3) HOff.out (.string v1))
  have HB3 := Lib.hid ((get_upd HB2.out (by omega) hU).setCell (p := ⟨w2.heap.size, 3, none⟩) (Nat.le_of_lt hlw) (.string v1))
  clear hR hU B1
  go_wp2_with fail
  refine (ref_date p bo m bc bs st1 _ HR3.out).mono ?_
  rintro e x4 ⟨rfl, hR, hU⟩
  obtain ⟨⟨v2a, v2b, v2c⟩, st2, hq2⟩ : ∃ v q, rDay bs st1 = (v, q) := ⟨_, _, rfl⟩
  rw [hq2] at hR ⊢
  dsimp only at hR ⊢
  have B2 := HC3.out.upd hU hgp
  have q2_4 := B2.cell 4
  have z2_4 := B2.fz 4
  change _ = some _ at q2_4
  have q2_5 := B2.cell 5
  have z2_5 := B2.fz 5
  change _ = some _ at q2_5
  have q2_6 := B2.cell 6
  have z2_6 := B2.fz 6
  change _ = some _ at q2_6
  have HC4 := Lib.hid (((B2.set (c' := { Cm.T.zero with kind := 3, cat := v1, fy := v2a }) 4 (.int .i64 v2a) rfl).set (c' := { Cm.T.zero with kind := 3, cat := v1, fy := v2a, fm := v2b }) 5 (.int .i64 v2b) rfl).set (c' := { Cm.T.zero with kind := 3, cat := v1, fy := v2a, fm := v2b, fd := v2c }) 6 (.int .i64 v2c) rfl)
  have HA4 := Lib.hid ((((HA3.out.upd hU hwp).other (q := w2.heap.size) (o := 4) (.int .i64 v2a) hwg).other (q := w2.heap.size) (o := 5) (.int .i64 v2b) hwg).other (q := w2.heap.size) (o := 6) (.int .i64 v2c) hwg)
  have HR4 := Lib.hid (((hR.other (q := w2.heap.size) (o := 4) HOff.out (.int .i64 v2a)).other (q := w2.heap.size) (o := 5) HOff.out (.int .i64 v2b)).other (q := w2.heap.size) (o := 6) HOff.out (.int .i64 v2c))
  have HB4 := Lib.hid ((((get_upd HB3.out (by omega) hU).setCell (p := ⟨w2.heap.size, 4, none⟩) (Nat.le_of_lt hlw) (.int .i64 v2a)).setCell (p := ⟨w2.heap.size, 5, none⟩) (Nat.le_of_lt hlw) (.int .i64 v2b)).setCell (p := ⟨w2.heap.size, 6, none⟩) (Nat.le_of_lt hlw) (.int .i64 v2c))
  clear hR hU B2
  go_wp2_with fail
  refine (ref_rd_num p bo m bc bs st2 _ HR4.out).mono ?_
  rintro e x5 ⟨rfl, hR, hU⟩
  obtain ⟨v3, st3, hq3⟩ : ∃ v q, rNum bs st2 = (v, q) := ⟨_, _, rfl⟩
  rw [hq3] at hR ⊢
  dsimp only at hR ⊢
  have B3 := HC4.out.upd hU hgp
  have q3_7 := B3.cell 7
  have z3_7 := B3.fz 7
  change _ = some _ at q3_7
  have HC5 := Lib.hid (B3.set (c' := { Cm.T.zero with kind := 3, cat := v1, fy := v2a, fm := v2b, fd := v2c, bp := v3 }) 7 (.int .i64 v3) rfl)
  have HA5 := Lib.hid ((HA4.out.upd hU hwp).other (q := w2.heap.size) (o := 7) (.int .i64 v3) hwg)
  have HR5 := Lib.hid (hR.other (q := w2.heap.size) (o := 7) HOff.out (.int .i64 v3))
  have HB5 := Lib.hid ((get_upd HB4.out (by omega) hU).setCell (p := ⟨w2.heap.size, 7, none⟩) (Nat.le_of_lt hlw) (.int .i64 v3))
  clear hR hU B3
  go_wp2_with fail
  have HS : Hid (rLevy bs s1 = (⟨3, .empty, 0, v1, v2a, v2b, v2c, v3, 0, 0, 0, [], .empty, 0, 0⟩, st3)) := Lib.hid (by
    unfold rLevy
    rw [hq1]
    dsimp only
    rw [hq2]
    dsimp only
    rw [hq3])
  have f1 : v1.size ≤ 140737488355328 := by have h := rText_size bs 64 s1; rw [hq1] at h; have := HBs.out; dsimp only at h; omega
  have f2 : Fit v2a ∧ Fit v2b ∧ Fit v2c := by have h := rDay_fit bs st1; rw [hq2] at h; exact h
  have f3 : Fit v3 := by have h := rNum_fit bs st2; rw [hq3] at h; exact h
  have HF : Hid (S.Fit' ⟨3, .empty, 0, v1, v2a, v2b, v2c, v3, 0, 0, 0, [], .empty, 0, 0⟩) := Lib.hid (fitS empty_size f1 empty_size fit0 f2.1 f2.2.1 f2.2.2 f3 fit0 fit0 fit0 fit0 fit0 (fun _ h => by cases h))
  clear hq1 hq2 hq3 f1 f2 f3
  have HRd : Hid (rRead bs 3 s1 = (⟨3, .empty, 0, v1, v2a, v2b, v2c, v3, 0, 0, 0, [], .empty, 0, 0⟩, st3)) := Lib.hid (HS.out)
  rw [HRd.out] at HEn HIs
  dsimp only at HEn HIs
  refine (ref_rd_end p bo m bc bs st3 _ HR5.out).mono ?_
  rintro e xe ⟨rfl, hR, hU⟩
  have HCe := Lib.hid (HC5.out.upd hU hgp)
  have HAe := Lib.hid (HA5.out.upd hU hwp)
  have HBe := Lib.hid (get_upd HB5.out (by omega) hU)
  obtain ⟨x, hx⟩ : ∃ x, (rEnd bs st3).1 = x := ⟨_, rfl⟩
  rw [hx] at HEn HIs ⊢
  clear hR hU hx
  by_cases hz : x = 0
  · subst hz
    have HG : Hid (get bs = (⟨3, .empty, 0, v1, v2a, v2b, v2c, v3, 0, 0, 0, [], .empty, 0, 0⟩, 0)) := Lib.hid (HIs.out HE.out ⟨by omega, by omega⟩ rfl)
    go_wp2_with (first | (with_reducible apply Cm.wplB_load (g := w2.heap.size) (c := { Cm.T.zero with kind := 3, cat := v1, fy := v2a, fm := v2b, fd := v2c, bp := v3 }); rfl; rfl; kernel_rfl; exact HCe.out) | (with_reducible apply Cm.wplB_store (g := w.heap.size) (old := Cm.T.zero) (c := { Cm.T.zero with kind := 3, cat := v1, fy := v2a, fm := v2b, fd := v2c, bp := v3 }); rfl; rfl; kernel_rfl; kernel_rfl; exact HAe.out))
    refine bodyPost_ret (Cm.results_blk2 Try.results25 rfl (HAe.out.row { Cm.T.zero with kind := 3, cat := v1, fy := v2a, fm := v2b, fd := v2c, bp := v3 })) rfl ?_
    exact rget_is HG.out (Cm.in_of HF.out (⟨by show (-9223372036854775808 : Int) ≤ 3; omega, by show (3 : Int) ≤ 9223372036854775807; omega⟩) (Ln.ls_nil _)) rfl (Nat.zero_le _) (HBe.out.trans (below_row (Nat.le_refl _) _))
  · have HZ := Lib.hid hz
    have q2 : (x != 0) = true := bne_iff_ne.2 hz
    go_wp2_with (first | (with_reducible apply Cm.wplB_store (g := w.heap.size) (old := Cm.T.zero) (c := Cm.T.zero); rfl; rfl; kernel_rfl; kernel_rfl; exact HAe.out))
    refine bodyPost_ret (Cm.results_blk2 Try.results25 rfl (HAe.out.row Cm.T.zero)) rfl ?_
    exact rget_zero (HEn.out HE.out ⟨by omega, by omega⟩ HZ.out) (HBe.out.trans (below_row (Nat.le_refl _) _))
set_option maxHeartbeats 16000000 in
theorem rget_5 (bs : List UInt8) (ao : Option Addr) (m cap : Nat) (w : World) (hL : By.Ls w ao m cap bs) (hsm : ¬ 1024 < m) (he : (rNum bs s0).2.err = 0) (hk : (rNum bs s0).1 = 5) :
    Calls Try.prog 25 #[.slice ao m cap] w (RGetE bs w) := by
  have HL := Lib.hid hL
  have HLen := Lib.hid hL.len
  have hcap := hL.reach
  have hfit := hL.fits
  have hb0 : Below w.heap.size w (w.alloc (.cells #[.int .i64 0, .string .empty, .int .i64 0, .string .empty, .int .i64 0, .int .i64 0, .int .i64 0, .int .i64 0, .int .i64 0, .int .i64 0, .int .i64 0, .slice none 0 0, .string .empty, .int .i64 0, .int .i64 0] 37)) := below_box (Below.refl _ _) _
  have HB0 := Lib.hid hb0
  have HL0 := Lib.hid (hL.below hb0)
  have HA0 : Hid (Cm.Blk (w.alloc (.cells #[.int .i64 0, .string .empty, .int .i64 0, .string .empty, .int .i64 0, .int .i64 0, .int .i64 0, .int .i64 0, .int .i64 0, .int .i64 0, .int .i64 0, .slice none 0 0, .string .empty, .int .i64 0, .int .i64 0] 37)) w.heap.size Cm.T.zero) := Lib.hid (heap_alloc_new w _)
  have HSm : Hid (¬ 1024 < bs.length) := Lib.hid (by rw [← HLen.out]; exact hsm)
  have HBs : Hid (bs.length ≤ 1000000) := Lib.hid (by have := HSm.out; omega)
  have a1 : ¬ (1024 : Int) < (m : Int) := by omega
  have HN := Lib.hid (get_num (bs := bs) HSm.out)
  have HKd := Lib.hid (get_kind (bs := bs) HSm.out)
  have HEn := Lib.hid (get_end (bs := bs) HSm.out)
  have HIs := Lib.hid (get_is (bs := bs) HSm.out)
  obtain ⟨s1, hq⟩ : ∃ s1, rNum bs s0 = (5, s1) := ⟨(rNum bs s0).2, by rw [← hk]⟩
  rw [hq] at he HN HKd HEn HIs
  dsimp only at he HN HKd HEn HIs
  have HQ := Lib.hid hq
  have HE := Lib.hid he
  clear hL hb0 hq hk 
  go_enter Try.func25, Try.ntmps25
  go_wp2_with fail
  refine (ref_read bs ao m cap _ HL0.out (by omega)).mono ?_
  rintro e w1 ⟨⟨p, bo, bc, rfl, hp, hR1⟩, b1⟩
  have hps : w.heap.size + 1 ≤ p := by simpa using hp
  have HA1 := Lib.hid (HA0.out.below b1)
  have HR1 := Lib.hid hR1
  have HB1 := Lib.hid (bchain HB0.out b1)
  have hwp : w.heap.size ≠ p := by omega
  clear hR1 b1 hp
  go_wp2_with fail
  refine (ref_rd_num p bo m bc bs s0 w1 HR1.out).mono ?_
  rintro e w2 ⟨rfl, hR2, hU2⟩
  rw [HQ.out] at hR2 ⊢
  dsimp only at hR2 ⊢
  have hlp := cell_lt hR2.c0
  obtain ⟨W2, hW2, d2, hC2⟩ := Cm.boxB w2 { Cm.T.zero with kind := 5 }
  have HA2 := Lib.hid ((HA1.out.upd hU2 hwp).below d2)
  have HB2 := Lib.hid (bchain (get_upd HB1.out (by omega) hU2) d2)
  have HR2 := Lib.hid (hR2.below d2)
  have HC2 := Lib.hid hC2
  have HOff := Lib.hid (hR2.off (Nat.le_refl _))
  have hgp : w2.heap.size ≠ p := by omega
  have hlw : w.heap.size < w2.heap.size := by omega
  have hwg : w.heap.size ≠ w2.heap.size := by omega
  have e2 := HR2.out.c2
  have e0 := hC2.cell 0
  change _ = some _ at e0
  replace e0 : W2.cell? ⟨w2.heap.size, 0, none⟩ = some (.int .i64 5) := e0
  clear hR2 hU2 d2 hC2
  have q1 : (s1.err != 0) = false := by rw [HE.out]; rfl
  clear he
  go_wp2_with (first | (with_reducible apply Cm.wplB_new (c := { Cm.T.zero with kind := 5 }); rfl; rfl; kernel_rfl; rfl; kernel_rfl; kernel_rfl; rw [hW2]))
  clear hW2 e2 e0
  refine (ref_rd_text p bo m bc bs 64 s1 _ HR2.out).mono ?_
  rintro e x3 ⟨rfl, hR, hU⟩
  obtain ⟨v1, st1, hq1⟩ : ∃ v q, rText bs 64 s1 = (v, q) := ⟨_, _, rfl⟩
  rw [hq1] at hR ⊢
  dsimp only at hR ⊢
  have B1 := HC2.out.upd hU hgp
  have q1_1 := B1.cell 1
  have z1_1 := B1.fz 1
  change _ = some _ at q1_1
  have HC3 := Lib.hid (B1.set (c' := { Cm.T.zero with kind := 5, series := v1 }) 1 (.string v1) rfl)
  have HA3 := Lib.hid ((HA2.out.upd hU hwp).other (q := w2.heap.size) (o := 1) (.string v1) hwg)
  have HR3 := Lib.hid (hR.other (q := w2.heap.size) (o := 1) HOff.out (.string v1))
  have HB3 := Lib.hid ((get_upd HB2.out (by omega) hU).setCell (p := ⟨w2.heap.size, 1, none⟩) (Nat.le_of_lt hlw) (.string v1))
  clear hR hU B1
  go_wp2_with fail
  refine (ref_date p bo m bc bs st1 _ HR3.out).mono ?_
  rintro e x4 ⟨rfl, hR, hU⟩
  obtain ⟨⟨v2a, v2b, v2c⟩, st2, hq2⟩ : ∃ v q, rDay bs st1 = (v, q) := ⟨_, _, rfl⟩
  rw [hq2] at hR ⊢
  dsimp only at hR ⊢
  have B2 := HC3.out.upd hU hgp
  have q2_8 := B2.cell 8
  have z2_8 := B2.fz 8
  change _ = some _ at q2_8
  have q2_9 := B2.cell 9
  have z2_9 := B2.fz 9
  change _ = some _ at q2_9
  have q2_10 := B2.cell 10
  have z2_10 := B2.fz 10
  change _ = some _ at q2_10
  have HC4 := Lib.hid (((B2.set (c' := { Cm.T.zero with kind := 5, series := v1, y := v2a }) 8 (.int .i64 v2a) rfl).set (c' := { Cm.T.zero with kind := 5, series := v1, y := v2a, m := v2b }) 9 (.int .i64 v2b) rfl).set (c' := { Cm.T.zero with kind := 5, series := v1, y := v2a, m := v2b, d := v2c }) 10 (.int .i64 v2c) rfl)
  have HA4 := Lib.hid ((((HA3.out.upd hU hwp).other (q := w2.heap.size) (o := 8) (.int .i64 v2a) hwg).other (q := w2.heap.size) (o := 9) (.int .i64 v2b) hwg).other (q := w2.heap.size) (o := 10) (.int .i64 v2c) hwg)
  have HR4 := Lib.hid (((hR.other (q := w2.heap.size) (o := 8) HOff.out (.int .i64 v2a)).other (q := w2.heap.size) (o := 9) HOff.out (.int .i64 v2b)).other (q := w2.heap.size) (o := 10) HOff.out (.int .i64 v2c))
  have HB4 := Lib.hid ((((get_upd HB3.out (by omega) hU).setCell (p := ⟨w2.heap.size, 8, none⟩) (Nat.le_of_lt hlw) (.int .i64 v2a)).setCell (p := ⟨w2.heap.size, 9, none⟩) (Nat.le_of_lt hlw) (.int .i64 v2b)).setCell (p := ⟨w2.heap.size, 10, none⟩) (Nat.le_of_lt hlw) (.int .i64 v2c))
  clear hR hU B2
  go_wp2_with fail
  refine (ref_rd_text p bo m bc bs 64 st2 _ HR4.out).mono ?_
  rintro e x5 ⟨rfl, hR, hU⟩
  obtain ⟨v3, st3, hq3⟩ : ∃ v q, rText bs 64 st2 = (v, q) := ⟨_, _, rfl⟩
  rw [hq3] at hR ⊢
  dsimp only at hR ⊢
  have B3 := HC4.out.upd hU hgp
  have q3_12 := B3.cell 12
  have z3_12 := B3.fz 12
  change _ = some _ at q3_12
  have HC5 := Lib.hid (B3.set (c' := { Cm.T.zero with kind := 5, series := v1, y := v2a, m := v2b, d := v2c, ofs := v3 }) 12 (.string v3) rfl)
  have HA5 := Lib.hid ((HA4.out.upd hU hwp).other (q := w2.heap.size) (o := 12) (.string v3) hwg)
  have HR5 := Lib.hid (hR.other (q := w2.heap.size) (o := 12) HOff.out (.string v3))
  have HB5 := Lib.hid ((get_upd HB4.out (by omega) hU).setCell (p := ⟨w2.heap.size, 12, none⟩) (Nat.le_of_lt hlw) (.string v3))
  clear hR hU B3
  go_wp2_with fail
  refine (ref_rd_num p bo m bc bs st3 _ HR5.out).mono ?_
  rintro e x6 ⟨rfl, hR, hU⟩
  obtain ⟨v4, st4, hq4⟩ : ∃ v q, rNum bs st3 = (v, q) := ⟨_, _, rfl⟩
  rw [hq4] at hR ⊢
  dsimp only at hR ⊢
  have B4 := HC5.out.upd hU hgp
  have q4_13 := B4.cell 13
  have z4_13 := B4.fz 13
  change _ = some _ at q4_13
  have HC6 := Lib.hid (B4.set (c' := { Cm.T.zero with kind := 5, series := v1, y := v2a, m := v2b, d := v2c, ofs := v3, ofn := v4 }) 13 (.int .i64 v4) rfl)
  have HA6 := Lib.hid ((HA5.out.upd hU hwp).other (q := w2.heap.size) (o := 13) (.int .i64 v4) hwg)
  have HR6 := Lib.hid (hR.other (q := w2.heap.size) (o := 13) HOff.out (.int .i64 v4))
  have HB6 := Lib.hid ((get_upd HB5.out (by omega) hU).setCell (p := ⟨w2.heap.size, 13, none⟩) (Nat.le_of_lt hlw) (.int .i64 v4))
  clear hR hU B4
  go_wp2_with fail
  have HS : Hid (rCredit bs s1 = (⟨5, v1, 0, .empty, 0, 0, 0, 0, v2a, v2b, v2c, [], v3, v4, 0⟩, st4)) := Lib.hid (by
    unfold rCredit
    rw [hq1]
    dsimp only
    rw [hq2]
    dsimp only
    rw [hq3]
    dsimp only
    rw [hq4])
  have f1 : v1.size ≤ 140737488355328 := by have h := rText_size bs 64 s1; rw [hq1] at h; have := HBs.out; dsimp only at h; omega
  have f2 : Fit v2a ∧ Fit v2b ∧ Fit v2c := by have h := rDay_fit bs st1; rw [hq2] at h; exact h
  have f3 : v3.size ≤ 140737488355328 := by have h := rText_size bs 64 st2; rw [hq3] at h; have := HBs.out; dsimp only at h; omega
  have f4 : Fit v4 := by have h := rNum_fit bs st3; rw [hq4] at h; exact h
  have HF : Hid (S.Fit' ⟨5, v1, 0, .empty, 0, 0, 0, 0, v2a, v2b, v2c, [], v3, v4, 0⟩) := Lib.hid (fitS f1 empty_size f3 fit0 fit0 fit0 fit0 fit0 f2.1 f2.2.1 f2.2.2 f4 fit0 (fun _ h => by cases h))
  clear hq1 hq2 hq3 hq4 f1 f2 f3 f4
  have HRd : Hid (rRead bs 5 s1 = (⟨5, v1, 0, .empty, 0, 0, 0, 0, v2a, v2b, v2c, [], v3, v4, 0⟩, st4)) := Lib.hid (HS.out)
  rw [HRd.out] at HEn HIs
  dsimp only at HEn HIs
  refine (ref_rd_end p bo m bc bs st4 _ HR6.out).mono ?_
  rintro e xe ⟨rfl, hR, hU⟩
  have HCe := Lib.hid (HC6.out.upd hU hgp)
  have HAe := Lib.hid (HA6.out.upd hU hwp)
  have HBe := Lib.hid (get_upd HB6.out (by omega) hU)
  obtain ⟨x, hx⟩ : ∃ x, (rEnd bs st4).1 = x := ⟨_, rfl⟩
  rw [hx] at HEn HIs ⊢
  clear hR hU hx
  by_cases hz : x = 0
  · subst hz
    have HG : Hid (get bs = (⟨5, v1, 0, .empty, 0, 0, 0, 0, v2a, v2b, v2c, [], v3, v4, 0⟩, 0)) := Lib.hid (HIs.out HE.out ⟨by omega, by omega⟩ rfl)
    go_wp2_with (first | (with_reducible apply Cm.wplB_load (g := w2.heap.size) (c := { Cm.T.zero with kind := 5, series := v1, y := v2a, m := v2b, d := v2c, ofs := v3, ofn := v4 }); rfl; rfl; kernel_rfl; exact HCe.out) | (with_reducible apply Cm.wplB_store (g := w.heap.size) (old := Cm.T.zero) (c := { Cm.T.zero with kind := 5, series := v1, y := v2a, m := v2b, d := v2c, ofs := v3, ofn := v4 }); rfl; rfl; kernel_rfl; kernel_rfl; exact HAe.out))
    refine bodyPost_ret (Cm.results_blk2 Try.results25 rfl (HAe.out.row { Cm.T.zero with kind := 5, series := v1, y := v2a, m := v2b, d := v2c, ofs := v3, ofn := v4 })) rfl ?_
    exact rget_is HG.out (Cm.in_of HF.out (⟨by show (-9223372036854775808 : Int) ≤ 5; omega, by show (5 : Int) ≤ 9223372036854775807; omega⟩) (Ln.ls_nil _)) rfl (Nat.zero_le _) (HBe.out.trans (below_row (Nat.le_refl _) _))
  · have HZ := Lib.hid hz
    have q2 : (x != 0) = true := bne_iff_ne.2 hz
    go_wp2_with (first | (with_reducible apply Cm.wplB_store (g := w.heap.size) (old := Cm.T.zero) (c := Cm.T.zero); rfl; rfl; kernel_rfl; kernel_rfl; exact HAe.out))
    refine bodyPost_ret (Cm.results_blk2 Try.results25 rfl (HAe.out.row Cm.T.zero)) rfl ?_
    exact rget_zero (HEn.out HE.out ⟨by omega, by omega⟩ HZ.out) (HBe.out.trans (below_row (Nat.le_refl _) _))
end Go.Proofs.Ytndfhnaafaijcaa
