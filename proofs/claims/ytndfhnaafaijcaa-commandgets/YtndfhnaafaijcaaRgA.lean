/- THE DOCUMENT's OWN ANSWER: impostref8.Get. (By genrget.py.) -/
import Derived.Test.YtndfhnaafaijcaaRgE
set_option linter.unusedVariables false
set_option maxRecDepth 100000
namespace Go.Proofs.Ytndfhnaafaijcaa
open Go.RowKit
open Mem Pk Cm

set_option maxHeartbeats 16000000 in
theorem rget_1 (bs : List UInt8) (ao : Option Addr) (m cap : Nat) (w : World) (hL : By.Ls w ao m cap bs) (hsm : ¬ 1024 < m) (he : (rNum bs s0).2.err = 0) (hk : (rNum bs s0).1 = 1) :
    Calls Try.prog 25 #[.slice ao m cap] w (RGetE bs w) := by
  have HL := Lib.hid hL
  have HLen := Lib.hid hL.len
  have hcap := hL.reach
  have hfit := hL.fits
  have hb0 : Below w.heap.size w (w.alloc (.cells #[.int .i64 0, .string .empty, .int .i64 0, .string .empty, .int .i64 0, .int .i64 0, .int .i64 0, .int .i64 0, .int .i64 0, .int .i64 0, .int .i64 0, .slice none 0 0, .string .empty, .int .i64 0, .int .i64 0] 37)) := below_box (Below.refl _ _) _
  have HB0 := Lib.hid hb0
  have HL0 := Lib.hid (hL.below hb0)
  have HA0 : Hid (Cm.Blk (w.alloc (.cells #[.int .i64 0, .string .empty, .int .i64 0, .string .empty, .int .i64 0, .int .i64 0, .int .i64 0, .int .i64 0, .int .i64 0, .int .i64 0, .int .i64 0, .slice none 0 0, .string .empty, .int .i64 0, .int .i64 0] 37)) w.heap.size Cm.T.zero) := Lib.hid (heap_alloc_new w _)
  have HSm : Hid (¬ 1024 < bs.length) := Lib.hid (by rw [← HLen.out]; exact hsm)
  have HBs : Hid (bs.length ≤ 1000000) := Lib.hid (by have := HSm.out; omega)
  have a1 : ¬ (1024 : Int) < (m : Int) := by omega
  have HN := Lib.hid (get_num (bs := bs) HSm.out)
  have HKd := Lib.hid (get_kind (bs := bs) HSm.out)
  have HEn := Lib.hid (get_end (bs := bs) HSm.out)
  have HIs := Lib.hid (get_is (bs := bs) HSm.out)
  obtain ⟨s1, hq⟩ : ∃ s1, rNum bs s0 = (1, s1) := ⟨(rNum bs s0).2, by rw [← hk]⟩
  rw [hq] at he HN HKd HEn HIs
  dsimp only at he HN HKd HEn HIs
  have HQ := Lib.hid hq
  have HE := Lib.hid he
  clear hL hb0 hq hk 
  go_enter Try.func25, Try.ntmps25
  go_wp2_with fail
  refine (ref_read bs ao m cap _ HL0.out (by omega)).mono ?_
  rintro e w1 ⟨⟨p, bo, bc, rfl, hp, hR1⟩, b1⟩
  have hps : w.heap.size + 1 ≤ p := by simpa using hp
  have HA1 := Lib.hid (HA0.out.below b1)
  have HR1 := Lib.hid hR1
  have HB1 := Lib.hid (bchain HB0.out b1)
  have hwp : w.heap.size ≠ p := by omega
  clear hR1 b1 hp
  go_wp2_with fail
  refine (ref_rd_num p bo m bc bs s0 w1 HR1.out).mono ?_
  rintro e w2 ⟨rfl, hR2, hU2⟩
  rw [HQ.out] at hR2 ⊢
  dsimp only at hR2 ⊢
  have hlp := cell_lt hR2.c0
  obtain ⟨W2, hW2, d2, hC2⟩ := Cm.boxB w2 { Cm.T.zero with kind := 1 }
  have HA2 := Lib.hid ((HA1.out.upd hU2 hwp).below d2)
  have HB2 := Lib.hid (bchain (get_upd HB1.out (by omega) hU2) d2)
  have HR2 := Lib.hid (hR2.below d2)
  have HC2 := Lib.hid hC2
  have HOff := Lib.hid (hR2.off (Nat.le_refl _))
  have hgp : w2.heap.size ≠ p := by omega
  have hlw : w.heap.size < w2.heap.size := by omega
  have hwg : w.heap.size ≠ w2.heap.size := by omega
  have e2 := HR2.out.c2
  have e0 := hC2.cell 0
  change _ = some _ at e0
  replace e0 : W2.cell? ⟨w2.heap.size, 0, none⟩ = some (.int .i64 1) := e0
  clear hR2 hU2 d2 hC2
  have q1 : (s1.err != 0) = false := by rw [HE.out]; rfl
  clear he
  go_wp2_with (first | (with_reducible apply Cm.wplB_new (c := { Cm.T.zero with kind := 1 }); rfl; rfl; kernel_rfl; rfl; kernel_rfl; kernel_rfl; rw [hW2]))
  clear hW2 e2 e0
  refine (ref_rd_text p bo m bc bs 64 s1 _ HR2.out).mono ?_
  rintro e x3 ⟨rfl, hR, hU⟩
  obtain ⟨v1, st1, hq1⟩ : ∃ v q, rText bs 64 s1 = (v, q) := ⟨_, _, rfl⟩
  rw [hq1] at hR ⊢
  dsimp only at hR ⊢
  have B1 := HC2.out.upd hU hgp
  have q1_1 := B1.cell 1
  have z1_1 := B1.fz 1
  change _ = some _ at q1_1
  have HC3 := Lib.hid (B1.set (c' := { Cm.T.zero with kind := 1, series := v1 }) 1 (.string v1) rfl)
  have HA3 := Lib.hid ((HA2.out.upd hU hwp).other (q := w2.heap.size) (o := 1) (.string v1) hwg)
  have HR3 := Lib.hid (hR.other (q := w2.heap.size) (o := 1) HOff.out (.string v1))
  have HB3 := Lib.hid ((get_upd HB2.out (by omega) hU).setCell (p := ⟨w2.heap.size, 1, none⟩) (Nat.le_of_lt hlw) (.string v1))
  clear hR hU B1
  go_wp2_with fail
  refine (ref_rd_num p bo m bc bs st1 _ HR3.out).mono ?_
  rintro e x4 ⟨rfl, hR, hU⟩
  obtain ⟨v2, st2, hq2⟩ : ∃ v q, rNum bs st1 = (v, q) := ⟨_, _, rfl⟩
  rw [hq2] at hR ⊢
  dsimp only at hR ⊢
  have B2 := HC3.out.upd hU hgp
  have q2_2 := B2.cell 2
  have z2_2 := B2.fz 2
  change _ = some _ at q2_2
  have HC4 := Lib.hid (B2.set (c' := { Cm.T.zero with kind := 1, series := v1, limit := v2 }) 2 (.int .i64 v2) rfl)
  have HA4 := Lib.hid ((HA3.out.upd hU hwp).other (q := w2.heap.size) (o := 2) (.int .i64 v2) hwg)
  have HR4 := Lib.hid (hR.other (q := w2.heap.size) (o := 2) HOff.out (.int .i64 v2))
  have HB4 := Lib.hid ((get_upd HB3.out (by omega) hU).setCell (p := ⟨w2.heap.size, 2, none⟩) (Nat.le_of_lt hlw) (.int .i64 v2))
  clear hR hU B2
  go_wp2_with fail
  have HS : Hid (rOpen bs s1 = (⟨1, v1, v2, .empty, 0, 0, 0, 0, 0, 0, 0, [], .empty, 0, 0⟩, st2)) := Lib.hid (by
    unfold rOpen
    rw [hq1]
    dsimp only
    rw [hq2])
  have f1 : v1.size ≤ 140737488355328 := by have h := rText_size bs 64 s1; rw [hq1] at h; have := HBs.out; dsimp only at h; omega
  have f2 : Fit v2 := by have h := rNum_fit bs st1; rw [hq2] at h; exact h
  have HF : Hid (S.Fit' ⟨1, v1, v2, .empty, 0, 0, 0, 0, 0, 0, 0, [], .empty, 0, 0⟩) := Lib.hid (fitS f1 empty_size empty_size f2 fit0 fit0 fit0 fit0 fit0 fit0 fit0 fit0 fit0 (fun _ h => by cases h))
  clear hq1 hq2 f1 f2
  have HRd : Hid (rRead bs 1 s1 = (⟨1, v1, v2, .empty, 0, 0, 0, 0, 0, 0, 0, [], .empty, 0, 0⟩, st2)) := Lib.hid (HS.out)
  rw [HRd.out] at HEn HIs
  dsimp only at HEn HIs
  refine (ref_rd_end p bo m bc bs st2 _ HR4.out).mono ?_
  rintro e xe ⟨rfl, hR, hU⟩
  have HCe := Lib.hid (HC4.out.upd hU hgp)
  have HAe := Lib.hid (HA4.out.upd hU hwp)
  have HBe := Lib.hid (get_upd HB4.out (by omega) hU)
  obtain ⟨x, hx⟩ : ∃ x, (rEnd bs st2).1 = x := ⟨_, rfl⟩
  rw [hx] at HEn HIs ⊢
  clear hR hU hx
  by_cases hz : x = 0
  · subst hz
    have HG : Hid (get bs = (⟨1, v1, v2, .empty, 0, 0, 0, 0, 0, 0, 0, [], .empty, 0, 0⟩, 0)) := Lib.hid (HIs.out HE.out ⟨by omega, by omega⟩ rfl)
    go_wp2_with (first | (with_reducible apply Cm.wplB_load (g := w2.heap.size) (c := { Cm.T.zero with kind := 1, series := v1, limit := v2 }); rfl; rfl; kernel_rfl; exact HCe.out) | (with_reducible apply Cm.wplB_store (g := w.heap.size) (old := Cm.T.zero) (c := { Cm.T.zero with kind := 1, series := v1, limit := v2 }); rfl; rfl; kernel_rfl; kernel_rfl; exact HAe.out))
    refine bodyPost_ret (Cm.results_blk2 Try.results25 rfl (HAe.out.row { Cm.T.zero with kind := 1, series := v1, limit := v2 })) rfl ?_
    exact rget_is HG.out (Cm.in_of HF.out (⟨by show (-9223372036854775808 : Int) ≤ 1; omega, by show (1 : Int) ≤ 9223372036854775807; omega⟩) (Ln.ls_nil _)) rfl (Nat.zero_le _) (HBe.out.trans (below_row (Nat.le_refl _) _))
  · have HZ := Lib.hid hz
    have q2 : (x != 0) = true := bne_iff_ne.2 hz
    go_wp2_with (first | (with_reducible apply Cm.wplB_store (g := w.heap.size) (old := Cm.T.zero) (c := Cm.T.zero); rfl; rfl; kernel_rfl; kernel_rfl; exact HAe.out))
    refine bodyPost_ret (Cm.results_blk2 Try.results25 rfl (HAe.out.row Cm.T.zero)) rfl ?_
    exact rget_zero (HEn.out HE.out ⟨by omega, by omega⟩ HZ.out) (HBe.out.trans (below_row (Nat.le_refl _) _))
set_option maxHeartbeats 16000000 in
theorem rget_2 (bs : List UInt8) (ao : Option Addr) (m cap : Nat) (w : World) (hL : By.Ls w ao m cap bs) (hsm : ¬ 1024 < m) (he : (rNum bs s0).2.err = 0) (hk : (rNum bs s0).1 = 2) :
    Calls Try.prog 25 #[.slice ao m cap] w (RGetE bs w) := by
  have HL := Lib.hid hL
  have HLen := Lib.hid hL.len
  have hcap := hL.reach
  have hfit := hL.fits
  have hb0 : Below w.heap.size w (w.alloc (.cells #[.int .i64 0, .string .empty, .int .i64 0, .string .empty, .int .i64 0, .int .i64 0, .int .i64 0, .int .i64 0, .int .i64 0, .int .i64 0, .int .i64 0, .slice none 0 0, .string .empty, .int .i64 0, .int .i64 0] 37)) := below_box (Below.refl _ _) _
  have HB0 := Lib.hid hb0
  have HL0 := Lib.hid (hL.below hb0)
  have HA0 : Hid (Cm.Blk (w.alloc (.cells #[.int .i64 0, .string .empty, .int .i64 0, .string .empty, .int .i64 0, .int .i64 0, .int .i64 0, .int .i64 0, .int .i64 0, .int .i64 0, .int .i64 0, .slice none 0 0, .string .empty, .int .i64 0, .int .i64 0] 37)) w.heap.size Cm.T.zero) := Lib.hid (heap_alloc_new w _)
  have HSm : Hid (¬ 1024 < bs.length) := Lib.hid (by rw [← HLen.out]; exact hsm)
  have HBs : Hid (bs.length ≤ 1000000) := Lib.hid (by have := HSm.out; omega)
  have a1 : ¬ (1024 : Int) < (m : Int) := by omega
  have HN := Lib.hid (get_num (bs := bs) HSm.out)
  have HKd := Lib.hid (get_kind (bs := bs) HSm.out)
  have HEn := Lib.hid (get_end (bs := bs) HSm.out)
  have HIs := Lib.hid (get_is (bs := bs) HSm.out)
  obtain ⟨s1, hq⟩ : ∃ s1, rNum bs s0 = (2, s1) := ⟨(rNum bs s0).2, by rw [← hk]⟩
  rw [hq] at he HN HKd HEn HIs
  dsimp only at he HN HKd HEn HIs
  have HQ := Lib.hid hq
  have HE := Lib.hid he
  clear hL hb0 hq hk 
  go_enter Try.func25, Try.ntmps25
  go_wp2_with fail
  refine (ref_read bs ao m cap _ HL0.out (by omega)).mono ?_
  rintro e w1 ⟨⟨p, bo, bc, rfl, hp, hR1⟩, b1⟩
  have hps : w.heap.size + 1 ≤ p := by simpa using hp
  have HA1 := Lib.hid (HA0.out.below b1)
  have HR1 := Lib.hid hR1
  have HB1 := Lib.hid (bchain HB0.out b1)
  have hwp : w.heap.size ≠ p := by omega
  clear hR1 b1 hp
  go_wp2_with fail
  refine (ref_rd_num p bo m bc bs s0 w1 HR1.out).mono ?_
  rintro e w2 ⟨rfl, hR2, hU2⟩
  rw [HQ.out] at hR2 ⊢
  dsimp only at hR2 ⊢
  have hlp := cell_lt hR2.c0
  obtain ⟨W2, hW2, d2, hC2⟩ := Cm.boxB w2 { Cm.T.zero with kind := 2 }
  have HA2 := Lib.hid ((HA1.out.upd hU2 hwp).below d2)
  have HB2 := Lib.hid (bchain (get_upd HB1.out (by omega) hU2) d2)
  have HR2 := Lib.hid (hR2.below d2)
  have HC2 := Lib.hid hC2
  have HOff := Lib.hid (hR2.off (Nat.le_refl _))
  have hgp : w2.heap.size ≠ p := by omega
  have hlw : w.heap.size < w2.heap.size := by omega
  have hwg : w.heap.size ≠ w2.heap.size := by omega
  have e2 := HR2.out.c2
  have e0 := hC2.cell 0
  change _ = some _ at e0
  replace e0 : W2.cell? ⟨w2.heap.size, 0, none⟩ = some (.int .i64 2) := e0
  clear hR2 hU2 d2 hC2
  have q1 : (s1.err != 0) = false := by rw [HE.out]; rfl
  clear he
  go_wp2_with (first | (with_reducible apply Cm.wplB_new (c := { Cm.T.zero with kind := 2 }); rfl; rfl; kernel_rfl; rfl; kernel_rfl; kernel_rfl; rw [hW2]))
  clear hW2 e2 e0
  refine (ref_rd_text p bo m bc bs 64 s1 _ HR2.out).mono ?_
  rintro e x3 ⟨rfl, hR, hU⟩
  obtain ⟨v1, st1, hq1⟩ : ∃ v q, rText bs 64 s1 = (v, q) := ⟨_, _, rfl⟩
  rw [hq1] at hR ⊢
  dsimp only at hR ⊢
  have B1 := HC2.out.upd hU hgp
  have q1_1 := B1.cell 1
  have z1_1 := B1.fz 1
  change _ = some _ at q1_1
  have HC3 := Lib.hid (B1.set (c' := { Cm.T.zero with kind := 2, series := v1 }) 1 (.string v1) rfl)
  have HA3 := Lib.hid ((HA2.out.upd hU hwp).other (q := w2.heap.size) (o := 1) (.string v1) hwg)
  have HR3 := Lib.hid (hR.other (q := w2.heap.size) (o := 1) HOff.out (.string v1))
  have HB3 := Lib.hid ((get_upd HB2.out (by omega) hU).setCell (p := ⟨w2.heap.size, 1, none⟩) (Nat.le_of_lt hlw) (.string v1))
  clear hR hU B1
  go_wp2_with fail
  have HS : Hid (rShut bs s1 = (⟨2, v1, 0, .empty, 0, 0, 0, 0, 0, 0, 0, [], .empty, 0, 0⟩, st1)) := Lib.hid (by
    unfold rShut
    rw [hq1])
  have f1 : v1.size ≤ 140737488355328 := by have h := rText_size bs 64 s1; rw [hq1] at h; have := HBs.out; dsimp only at h; omega
  have HF : Hid (S.Fit' ⟨2, v1, 0, .empty, 0, 0, 0, 0, 0, 0, 0, [], .empty, 0, 0⟩) := Lib.hid (fitS f1 empty_size empty_size fit0 fit0 fit0 fit0 fit0 fit0 fit0 fit0 fit0 fit0 (fun _ h => by cases h))
  clear hq1 f1
  have HRd : Hid (rRead bs 2 s1 = (⟨2, v1, 0, .empty, 0, 0, 0, 0, 0, 0, 0, [], .empty, 0, 0⟩, st1)) := Lib.hid (HS.out)
  rw [HRd.out] at HEn HIs
  dsimp only at HEn HIs
  refine (ref_rd_end p bo m bc bs st1 _ HR3.out).mono ?_
  rintro e xe ⟨rfl, hR, hU⟩
  have HCe := Lib.hid (HC3.out.upd hU hgp)
  have HAe := Lib.hid (HA3.out.upd hU hwp)
  have HBe := Lib.hid (get_upd HB3.out (by omega) hU)
  obtain ⟨x, hx⟩ : ∃ x, (rEnd bs st1).1 = x := ⟨_, rfl⟩
  rw [hx] at HEn HIs ⊢
  clear hR hU hx
  by_cases hz : x = 0
  · subst hz
    have HG : Hid (get bs = (⟨2, v1, 0, .empty, 0, 0, 0, 0, 0, 0, 0, [], .empty, 0, 0⟩, 0)) := Lib.hid (HIs.out HE.out ⟨by omega, by omega⟩ rfl)
    go_wp2_with (first | (with_reducible apply Cm.wplB_load (g := w2.heap.size) (c := { Cm.T.zero with kind := 2, series := v1 }); rfl; rfl; kernel_rfl; exact HCe.out) | (with_reducible apply Cm.wplB_store (g := w.heap.size) (old := Cm.T.zero) (c := { Cm.T.zero with kind := 2, series := v1 }); rfl; rfl; kernel_rfl; kernel_rfl; exact HAe.out))
    refine bodyPost_ret (Cm.results_blk2 Try.results25 rfl (HAe.out.row { Cm.T.zero with kind := 2, series := v1 })) rfl ?_
    exact rget_is HG.out (Cm.in_of HF.out (⟨by show (-9223372036854775808 : Int) ≤ 2; omega, by show (2 : Int) ≤ 9223372036854775807; omega⟩) (Ln.ls_nil _)) rfl (Nat.zero_le _) (HBe.out.trans (below_row (Nat.le_refl _) _))
  · have HZ := Lib.hid hz
    have q2 : (x != 0) = true := bne_iff_ne.2 hz
    go_wp2_with (first | (with_reducible apply Cm.wplB_store (g := w.heap.size) (old := Cm.T.zero) (c := Cm.T.zero); rfl; rfl; kernel_rfl; kernel_rfl; exact HAe.out))
    refine bodyPost_ret (Cm.results_blk2 Try.results25 rfl (HAe.out.row Cm.T.zero)) rfl ?_
    exact rget_zero (HEn.out HE.out ⟨by omega, by omega⟩ HZ.out) (HBe.out.trans (below_row (Nat.le_refl _) _))
set_option maxHeartbeats 16000000 in
theorem rget_8 (bs : List UInt8) (ao : Option Addr) (m cap : Nat) (w : World) (hL : By.Ls w ao m cap bs) (hsm : ¬ 1024 < m) (he : (rNum bs s0).2.err = 0) (hk : (rNum bs s0).1 = 8) :
    Calls Try.prog 25 #[.slice ao m cap] w (RGetE bs w) := by
  have HL := Lib.hid hL
  have HLen := Lib.hid hL.len
  have hcap := hL.reach
  have hfit := hL.fits
  have hb0 : Below w.heap.size w (w.alloc (.cells #[.int .i64 0, .string .empty, .int .i64 0, .string .empty, .int .i64 0, .int .i64 0, .int .i64 0, .int .i64 0, .int .i64 0, .int .i64 0, .int .i64 0, .slice none 0 0, .string .empty, .int .i64 0, .int .i64 0] 37)) := below_box (Below.refl _ _) _
  have HB0 := Lib.hid hb0
  have HL0 := Lib.hid (hL.below hb0)
  have HA0 : Hid (Cm.Blk (w.alloc (.cells #[.int .i64 0, .string .empty, .int .i64 0, .string .empty, .int .i64 0, .int .i64 0, .int .i64 0, .int .i64 0, .int .i64 0, .int .i64 0, .int .i64 0, .slice none 0 0, .string .empty, .int .i64 0, .int .i64 0] 37)) w.heap.size Cm.T.zero) := Lib.hid (heap_alloc_new w _)
  have HSm : Hid (¬ 1024 < bs.length) := Lib.hid (by rw [← HLen.out]; exact hsm)
  have HBs : Hid (bs.length ≤ 1000000) := Lib.hid (by have := HSm.out; omega)
  have a1 : ¬ (1024 : Int) < (m : Int) := by omega
  have HN := Lib.hid (get_num (bs := bs) HSm.out)
  have HKd := Lib.hid (get_kind (bs := bs) HSm.out)
  have HEn := Lib.hid (get_end (bs := bs) HSm.out)
  have HIs := Lib.hid (get_is (bs := bs) HSm.out)
  obtain ⟨s1, hq⟩ : ∃ s1, rNum bs s0 = (8, s1) := ⟨(rNum bs s0).2, by rw [← hk]⟩
  rw [hq] at he HN HKd HEn HIs
  dsimp only at he HN HKd HEn HIs
  have HQ := Lib.hid hq
  have HE := Lib.hid he
  clear hL hb0 hq hk 
  go_enter Try.func25, Try.ntmps25
  go_wp2_with fail
  refine (ref_read bs ao m cap _ HL0.out (by omega)).mono ?_
  rintro e w1 ⟨⟨p, bo, bc, rfl, hp, hR1⟩, b1⟩
  have hps : w.heap.size + 1 ≤ p := by simpa using hp
  have HA1 := Lib.hid (HA0.out.below b1)
  have HR1 := Lib.hid hR1
  have HB1 := Lib.hid (bchain HB0.out b1)
  have hwp : w.heap.size ≠ p := by omega
  clear hR1 b1 hp
  go_wp2_with fail
  refine (ref_rd_num p bo m bc bs s0 w1 HR1.out).mono ?_
  rintro e w2 ⟨rfl, hR2, hU2⟩
  rw [HQ.out] at hR2 ⊢
  dsimp only at hR2 ⊢
  have hlp := cell_lt hR2.c0
  obtain ⟨W2, hW2, d2, hC2⟩ := Cm.boxB w2 { Cm.T.zero with kind := 8 }
  have HA2 := Lib.hid ((HA1.out.upd hU2 hwp).below d2)
  have HB2 := Lib.hid (bchain (get_upd HB1.out (by omega) hU2) d2)
  have HR2 := Lib.hid (hR2.below d2)
  have HC2 := Lib.hid hC2
  have HOff := Lib.hid (hR2.off (Nat.le_refl _))
  have hgp : w2.heap.size ≠ p := by omega
  have hlw : w.heap.size < w2.heap.size := by omega
  have hwg : w.heap.size ≠ w2.heap.size := by omega
  have e2 := HR2.out.c2
  have e0 := hC2.cell 0
  change _ = some _ at e0
  replace e0 : W2.cell? ⟨w2.heap.size, 0, none⟩ = some (.int .i64 8) := e0
  clear hR2 hU2 d2 hC2
  have q1 : (s1.err != 0) = false := by rw [HE.out]; rfl
  clear he
  go_wp2_with (first | (with_reducible apply Cm.wplB_new (c := { Cm.T.zero with kind := 8 }); rfl; rfl; kernel_rfl; rfl; kernel_rfl; kernel_rfl; rw [hW2]))
  clear hW2 e2 e0
  refine (ref_rd_text p bo m bc bs 64 s1 _ HR2.out).mono ?_
  rintro e x3 ⟨rfl, hR, hU⟩
  obtain ⟨v1, st1, hq1⟩ : ∃ v q, rText bs 64 s1 = (v, q) := ⟨_, _, rfl⟩
  rw [hq1] at hR ⊢
  dsimp only at hR ⊢
  have B1 := HC2.out.upd hU hgp
  have q1_1 := B1.cell 1
  have z1_1 := B1.fz 1
  change _ = some _ at q1_1
  have HC3 := Lib.hid (B1.set (c' := { Cm.T.zero with kind := 8, series := v1 }) 1 (.string v1) rfl)
  have HA3 := Lib.hid ((HA2.out.upd hU hwp).other (q := w2.heap.size) (o := 1) (.string v1) hwg)
  have HR3 := Lib.hid (hR.other (q := w2.heap.size) (o := 1) HOff.out (.string v1))
  have HB3 := Lib.hid ((get_upd HB2.out (by omega) hU).setCell (p := ⟨w2.heap.size, 1, none⟩) (Nat.le_of_lt hlw) (.string v1))
  clear hR hU B1
  go_wp2_with fail
  have HS : Hid (rAsk bs s1 = (⟨8, v1, 0, .empty, 0, 0, 0, 0, 0, 0, 0, [], .empty, 0, 0⟩, st1)) := Lib.hid (by
    unfold rAsk
    rw [hq1])
  have f1 : v1.size ≤ 140737488355328 := by have h := rText_size bs 64 s1; rw [hq1] at h; have := HBs.out; dsimp only at h; omega
  have HF : Hid (S.Fit' ⟨8, v1, 0, .empty, 0, 0, 0, 0, 0, 0, 0, [], .empty, 0, 0⟩) := Lib.hid (fitS f1 empty_size empty_size fit0 fit0 fit0 fit0 fit0 fit0 fit0 fit0 fit0 fit0 (fun _ h => by cases h))
  clear hq1 f1
  have HRd : Hid (rRead bs 8 s1 = (⟨8, v1, 0, .empty, 0, 0, 0, 0, 0, 0, 0, [], .empty, 0, 0⟩, st1)) := Lib.hid (HS.out)
  rw [HRd.out] at HEn HIs
  dsimp only at HEn HIs
  refine (ref_rd_end p bo m bc bs st1 _ HR3.out).mono ?_
  rintro e xe ⟨rfl, hR, hU⟩
  have HCe := Lib.hid (HC3.out.upd hU hgp)
  have HAe := Lib.hid (HA3.out.upd hU hwp)
  have HBe := Lib.hid (get_upd HB3.out (by omega) hU)
  obtain ⟨x, hx⟩ : ∃ x, (rEnd bs st1).1 = x := ⟨_, rfl⟩
  rw [hx] at HEn HIs ⊢
  clear hR hU hx
  by_cases hz : x = 0
  · subst hz
    have HG : Hid (get bs = (⟨8, v1, 0, .empty, 0, 0, 0, 0, 0, 0, 0, [], .empty, 0, 0⟩, 0)) := Lib.hid (HIs.out HE.out ⟨by omega, by omega⟩ rfl)
    go_wp2_with (first | (with_reducible apply Cm.wplB_load (g := w2.heap.size) (c := { Cm.T.zero with kind := 8, series := v1 }); rfl; rfl; kernel_rfl; exact HCe.out) | (with_reducible apply Cm.wplB_store (g := w.heap.size) (old := Cm.T.zero) (c := { Cm.T.zero with kind := 8, series := v1 }); rfl; rfl; kernel_rfl; kernel_rfl; exact HAe.out))
    refine bodyPost_ret (Cm.results_blk2 Try.results25 rfl (HAe.out.row { Cm.T.zero with kind := 8, series := v1 })) rfl ?_
    exact rget_is HG.out (Cm.in_of HF.out (⟨by show (-9223372036854775808 : Int) ≤ 8; omega, by show (8 : Int) ≤ 9223372036854775807; omega⟩) (Ln.ls_nil _)) rfl (Nat.zero_le _) (HBe.out.trans (below_row (Nat.le_refl _) _))
  · have HZ := Lib.hid hz
    have q2 : (x != 0) = true := bne_iff_ne.2 hz
    go_wp2_with (first | (with_reducible apply Cm.wplB_store (g := w.heap.size) (old := Cm.T.zero) (c := Cm.T.zero); rfl; rfl; kernel_rfl; kernel_rfl; exact HAe.out))
    refine bodyPost_ret (Cm.results_blk2 Try.results25 rfl (HAe.out.row Cm.T.zero)) rfl ?_
    exact rget_zero (HEn.out HE.out ⟨by omega, by omega⟩ HZ.out) (HBe.out.trans (below_row (Nat.le_refl _) _))
set_option maxHeartbeats 16000000 in
theorem rget_6 (bs : List UInt8) (ao : Option Addr) (m cap : Nat) (w : World) (hL : By.Ls w ao m cap bs) (hsm : ¬ 1024 < m) (he : (rNum bs s0).2.err = 0) (hk : (rNum bs s0).1 = 6) :
    Calls Try.prog 25 #[.slice ao m cap] w (RGetE bs w) := by
  have HL := Lib.hid hL
  have HLen := Lib.hid hL.len
  have hcap := hL.reach
  have hfit := hL.fits
  have hb0 : Below w.heap.size w (w.alloc (.cells #[.int .i64 0, .string .empty, .int .i64 0, .string .empty, .int .i64 0, .int .i64 0, .int .i64 0, .int .i64 0, .int .i64 0, .int .i64 0, .int .i64 0, .slice none 0 0, .string .empty, .int .i64 0, .int .i64 0] 37)) := below_box (Below.refl _ _) _
  have HB0 := Lib.hid hb0
  have HL0 := Lib.hid (hL.below hb0)
  have HA0 : Hid (Cm.Blk (w.alloc (.cells #[.int .i64 0, .string .empty, .int .i64 0, .string .empty, .int .i64 0, .int .i64 0, .int .i64 0, .int .i64 0, .int .i64 0, .int .i64 0, .int .i64 0, .slice none 0 0, .string .empty, .int .i64 0, .int .i64 0] 37)) w.heap.size Cm.T.zero) := Lib.hid (heap_alloc_new w _)
  have HSm : Hid (¬ 1024 < bs.length) := Lib.hid (by rw [← HLen.out]; exact hsm)
  have HBs : Hid (bs.length ≤ 1000000) := Lib.hid (by have := HSm.out; omega)
  have a1 : ¬ (1024 : Int) < (m : Int) := by omega
  have HN := Lib.hid (get_num (bs := bs) HSm.out)
  have HKd := Lib.hid (get_kind (bs := bs) HSm.out)
  have HEn := Lib.hid (get_end (bs := bs) HSm.out)
  have HIs := Lib.hid (get_is (bs := bs) HSm.out)
  obtain ⟨s1, hq⟩ : ∃ s1, rNum bs s0 = (6, s1) := ⟨(rNum bs s0).2, by rw [← hk]⟩
  rw [hq] at he HN HKd HEn HIs
  dsimp only at he HN HKd HEn HIs
  have HQ := Lib.hid hq
  have HE := Lib.hid he
  clear hL hb0 hq hk 
  go_enter Try.func25, Try.ntmps25
  go_wp2_with fail
  refine (ref_read bs ao m cap _ HL0.out (by omega)).mono ?_
  rintro e w1 ⟨⟨p, bo, bc, rfl, hp, hR1⟩, b1⟩
  have hps : w.heap.size + 1 ≤ p := by simpa using hp
  have HA1 := Lib.hid (HA0.out.below b1)
  have HR1 := Lib.hid hR1
  have HB1 := Lib.hid (bchain HB0.out b1)
  have hwp : w.heap.size ≠ p := by omega
  clear hR1 b1 hp
  go_wp2_with fail
  refine (ref_rd_num p bo m bc bs s0 w1 HR1.out).mono ?_
  rintro e w2 ⟨rfl, hR2, hU2⟩
  rw [HQ.out] at hR2 ⊢
  dsimp only at hR2 ⊢
  have hlp := cell_lt hR2.c0
  obtain ⟨W2, hW2, d2, hC2⟩ := Cm.boxB w2 { Cm.T.zero with kind := 6 }
  have HA2 := Lib.hid ((HA1.out.upd hU2 hwp).below d2)
  have HB2 := Lib.hid (bchain (get_upd HB1.out (by omega) hU2) d2)
  have HR2 := Lib.hid (hR2.below d2)
  have HC2 := Lib.hid hC2
  have HOff := Lib.hid (hR2.off (Nat.le_refl _))
  have hgp : w2.heap.size ≠ p := by omega
  have hlw : w.heap.size < w2.heap.size := by omega
  have hwg : w.heap.size ≠ w2.heap.size := by omega
  have e2 := HR2.out.c2
  have e0 := hC2.cell 0
  change _ = some _ at e0
  replace e0 : W2.cell? ⟨w2.heap.size, 0, none⟩ = some (.int .i64 6) := e0
  clear hR2 hU2 d2 hC2
  have q1 : (s1.err != 0) = false := by rw [HE.out]; rfl
  clear he
  go_wp2_with (first | (with_reducible apply Cm.wplB_new (c := { Cm.T.zero with kind := 6 }); rfl; rfl; kernel_rfl; rfl; kernel_rfl; kernel_rfl; rw [hW2]))
  clear hW2 e2 e0
  have HS : Hid (rJoin s1 = (⟨6, .empty, 0, .empty, 0, 0, 0, 0, 0, 0, 0, [], .empty, 0, 0⟩, s1)) := Lib.hid (by rfl)
  have HF : Hid (S.Fit' ⟨6, .empty, 0, .empty, 0, 0, 0, 0, 0, 0, 0, [], .empty, 0, 0⟩) := Lib.hid (fitS empty_size empty_size empty_size fit0 fit0 fit0 fit0 fit0 fit0 fit0 fit0 fit0 fit0 (fun _ h => by cases h))
  have HRd : Hid (rRead bs 6 s1 = (⟨6, .empty, 0, .empty, 0, 0, 0, 0, 0, 0, 0, [], .empty, 0, 0⟩, s1)) := Lib.hid (HS.out)
  rw [HRd.out] at HEn HIs
  dsimp only at HEn HIs
  refine (ref_rd_end p bo m bc bs s1 _ HR2.out).mono ?_
  rintro e xe ⟨rfl, hR, hU⟩
  have HCe := Lib.hid (HC2.out.upd hU hgp)
  have HAe := Lib.hid (HA2.out.upd hU hwp)
  have HBe := Lib.hid (get_upd HB2.out (by omega) hU)
  obtain ⟨x, hx⟩ : ∃ x, (rEnd bs s1).1 = x := ⟨_, rfl⟩
  rw [hx] at HEn HIs ⊢
  clear hR hU hx
  by_cases hz : x = 0
  · subst hz
    have HG : Hid (get bs = (⟨6, .empty, 0, .empty, 0, 0, 0, 0, 0, 0, 0, [], .empty, 0, 0⟩, 0)) := Lib.hid (HIs.out HE.out ⟨by omega, by omega⟩ rfl)
    go_wp2_with (first | (with_reducible apply Cm.wplB_load (g := w2.heap.size) (c := { Cm.T.zero with kind := 6 }); rfl; rfl; kernel_rfl; exact HCe.out) | (with_reducible apply Cm.wplB_store (g := w.heap.size) (old := Cm.T.zero) (c := { Cm.T.zero with kind := 6 }); rfl; rfl; kernel_rfl; kernel_rfl; exact HAe.out))
    refine bodyPost_ret (Cm.results_blk2 Try.results25 rfl (HAe.out.row { Cm.T.zero with kind := 6 })) rfl ?_
    exact rget_is HG.out (Cm.in_of HF.out (⟨by show (-9223372036854775808 : Int) ≤ 6; omega, by show (6 : Int) ≤ 9223372036854775807; omega⟩) (Ln.ls_nil _)) rfl (Nat.zero_le _) (HBe.out.trans (below_row (Nat.le_refl _) _))
  · have HZ := Lib.hid hz
    have q2 : (x != 0) = true := bne_iff_ne.2 hz
    go_wp2_with (first | (with_reducible apply Cm.wplB_store (g := w.heap.size) (old := Cm.T.zero) (c := Cm.T.zero); rfl; rfl; kernel_rfl; kernel_rfl; exact HAe.out))
    refine bodyPost_ret (Cm.results_blk2 Try.results25 rfl (HAe.out.row Cm.T.zero)) rfl ?_
    exact rget_zero (HEn.out HE.out ⟨by omega, by omega⟩ HZ.out) (HBe.out.trans (below_row (Nat.le_refl _) _))
set_option maxHeartbeats 16000000 in
theorem rget_7 (bs : List UInt8) (ao : Option Addr) (m cap : Nat) (w : World) (hL : By.Ls w ao m cap bs) (hsm : ¬ 1024 < m) (he : (rNum bs s0).2.err = 0) (hk : (rNum bs s0).1 = 7) :
    Calls Try.prog 25 #[.slice ao m cap] w (RGetE bs w) := by
  have HL := Lib.hid hL
  have HLen := Lib.hid hL.len
  have hcap := hL.reach
  have hfit := hL.fits
  have hb0 : Below w.heap.size w (w.alloc (.cells #[.int .i64 0, .string .empty, .int .i64 0, .string .empty, .int .i64 0, .int .i64 0, .int .i64 0, .int .i64 0, .int .i64 0, .int .i64 0, .int .i64 0, .slice none 0 0, .string .empty, .int .i64 0, .int .i64 0] 37)) := below_box (Below.refl _ _) _
  have HB0 := Lib.hid hb0
  have HL0 := Lib.hid (hL.below hb0)
  have HA0 : Hid (Cm.Blk (w.alloc (.cells #[.int .i64 0, .string .empty, .int .i64 0, .string .empty, .int .i64 0, .int .i64 0, .int .i64 0, .int .i64 0, .int .i64 0, .int .i64 0, .int .i64 0, .slice none 0 0, .string .empty, .int .i64 0, .int .i64 0] 37)) w.heap.size Cm.T.zero) := Lib.hid (heap_alloc_new w _)
  have HSm : Hid (¬ 1024 < bs.length) := Lib.hid (by rw [← HLen.out]; exact hsm)
  have HBs : Hid (bs.length ≤ 1000000) := Lib.hid (by have := HSm.out; omega)
  have a1 : ¬ (1024 : Int) < (m : Int) := by omega
  have HN := Lib.hid (get_num (bs := bs) HSm.out)
  have HKd := Lib.hid (get_kind (bs := bs) HSm.out)
  have HEn := Lib.hid (get_end (bs := bs) HSm.out)
  have HIs := Lib.hid (get_is (bs := bs) HSm.out)
  obtain ⟨s1, hq⟩ : ∃ s1, rNum bs s0 = (7, s1) := ⟨(rNum bs s0).2, by rw [← hk]⟩
  rw [hq] at he HN HKd HEn HIs
  dsimp only at he HN HKd HEn HIs
  have HQ := Lib.hid hq
  have HE := Lib.hid he
  clear hL hb0 hq hk 
  go_enter Try.func25, Try.ntmps25
  go_wp2_with fail
  refine (ref_read bs ao m cap _ HL0.out (by omega)).mono ?_
  rintro e w1 ⟨⟨p, bo, bc, rfl, hp, hR1⟩, b1⟩
  have hps : w.heap.size + 1 ≤ p := by simpa using hp
  have HA1 := Lib.hid (HA0.out.below b1)
  have HR1 := Lib.hid hR1
  have HB1 := Lib.hid (bchain HB0.out b1)
  have hwp : w.heap.size ≠ p := by omega
  clear hR1 b1 hp
  go_wp2_with fail
  refine (ref_rd_num p bo m bc bs s0 w1 HR1.out).mono ?_
  rintro e w2 ⟨rfl, hR2, hU2⟩
  rw [HQ.out] at hR2 ⊢
  dsimp only at hR2 ⊢
  have hlp := cell_lt hR2.c0
  obtain ⟨W2, hW2, d2, hC2⟩ := Cm.boxB w2 { Cm.T.zero with kind := 7 }
  have HA2 := Lib.hid ((HA1.out.upd hU2 hwp).below d2)
  have HB2 := Lib.hid (bchain (get_upd HB1.out (by omega) hU2) d2)
  have HR2 := Lib.hid (hR2.below d2)
  have HC2 := Lib.hid hC2
  have HOff := Lib.hid (hR2.off (Nat.le_refl _))
  have hgp : w2.heap.size ≠ p := by omega
  have hlw : w.heap.size < w2.heap.size := by omega
  have hwg : w.heap.size ≠ w2.heap.size := by omega
  have e2 := HR2.out.c2
  have e0 := hC2.cell 0
  change _ = some _ at e0
  replace e0 : W2.cell? ⟨w2.heap.size, 0, none⟩ = some (.int .i64 7) := e0
  clear hR2 hU2 d2 hC2
  have q1 : (s1.err != 0) = false := by rw [HE.out]; rfl
  clear he
  go_wp2_with (first | (with_reducible apply Cm.wplB_new (c := { Cm.T.zero with kind := 7 }); rfl; rfl; kernel_rfl; rfl; kernel_rfl; kernel_rfl; rw [hW2]))
  clear hW2 e2 e0
  refine (ref_rd_num p bo m bc bs s1 _ HR2.out).mono ?_
  rintro e x3 ⟨rfl, hR, hU⟩
  obtain ⟨v1, st1, hq1⟩ : ∃ v q, rNum bs s1 = (v, q) := ⟨_, _, rfl⟩
  rw [hq1] at hR ⊢
  dsimp only at hR ⊢
  have B1 := HC2.out.upd hU hgp
  have q1_14 := B1.cell 14
  have z1_14 := B1.fz 14
  change _ = some _ at q1_14
  have HC3 := Lib.hid (B1.set (c' := { Cm.T.zero with kind := 7, session := v1 }) 14 (.int .i64 v1) rfl)
  have HA3 := Lib.hid ((HA2.out.upd hU hwp).other (q := w2.heap.size) (o := 14) (.int .i64 v1) hwg)
  have HR3 := Lib.hid (hR.other (q := w2.heap.size) (o := 14) HOff.out (.int .i64 v1))
  have HB3 := Lib.hid ((get_upd HB2.out (by omega) hU).setCell (p := ⟨w2.heap.size, 14, none⟩) (Nat.le_of_lt hlw) (.int .i64 v1))
  clear hR hU B1
  go_wp2_with fail
  have HS : Hid (rLeave bs s1 = (⟨7, .empty, 0, .empty, 0, 0, 0, 0, 0, 0, 0, [], .empty, 0, v1⟩, st1)) := Lib.hid (by
    unfold rLeave
    rw [hq1])
  have f1 : Fit v1 := by have h := rNum_fit bs s1; rw [hq1] at h; exact h
  have HF : Hid (S.Fit' ⟨7, .empty, 0, .empty, 0, 0, 0, 0, 0, 0, 0, [], .empty, 0, v1⟩) := Lib.hid (fitS empty_size empty_size empty_size fit0 fit0 fit0 fit0 fit0 fit0 fit0 fit0 fit0 f1 (fun _ h => by cases h))
  clear hq1 f1
  have HRd : Hid (rRead bs 7 s1 = (⟨7, .empty, 0, .empty, 0, 0, 0, 0, 0, 0, 0, [], .empty, 0, v1⟩, st1)) := Lib.hid (HS.out)
  rw [HRd.out] at HEn HIs
  dsimp only at HEn HIs
  refine (ref_rd_end p bo m bc bs st1 _ HR3.out).mono ?_
  rintro e xe ⟨rfl, hR, hU⟩
  have HCe := Lib.hid (HC3.out.upd hU hgp)
  have HAe := Lib.hid (HA3.out.upd hU hwp)
  have HBe := Lib.hid (get_upd HB3.out (by omega) hU)
  obtain ⟨x, hx⟩ : ∃ x, (rEnd bs st1).1 = x := ⟨_, rfl⟩
  rw [hx] at HEn HIs ⊢
  clear hR hU hx
  by_cases hz : x = 0
  · subst hz
    have HG : Hid (get bs = (⟨7, .empty, 0, .empty, 0, 0, 0, 0, 0, 0, 0, [], .empty, 0, v1⟩, 0)) := Lib.hid (HIs.out HE.out ⟨by omega, by omega⟩ rfl)
    go_wp2_with (first | (with_reducible apply Cm.wplB_load (g := w2.heap.size) (c := { Cm.T.zero with kind := 7, session := v1 }); rfl; rfl; kernel_rfl; exact HCe.out) | (with_reducible apply Cm.wplB_store (g := w.heap.size) (old := Cm.T.zero) (c := { Cm.T.zero with kind := 7, session := v1 }); rfl; rfl; kernel_rfl; kernel_rfl; exact HAe.out))
    refine bodyPost_ret (Cm.results_blk2 Try.results25 rfl (HAe.out.row { Cm.T.zero with kind := 7, session := v1 })) rfl ?_
    exact rget_is HG.out (Cm.in_of HF.out (⟨by show (-9223372036854775808 : Int) ≤ 7; omega, by show (7 : Int) ≤ 9223372036854775807; omega⟩) (Ln.ls_nil _)) rfl (Nat.zero_le _) (HBe.out.trans (below_row (Nat.le_refl _) _))
  · have HZ := Lib.hid hz
    have q2 : (x != 0) = true := bne_iff_ne.2 hz
    go_wp2_with (first | (with_reducible apply Cm.wplB_store (g := w.heap.size) (old := Cm.T.zero) (c := Cm.T.zero); rfl; rfl; kernel_rfl; kernel_rfl; exact HAe.out))
    refine bodyPost_ret (Cm.results_blk2 Try.results25 rfl (HAe.out.row Cm.T.zero)) rfl ?_
    exact rget_zero (HEn.out HE.out ⟨by omega, by omega⟩ HZ.out) (HBe.out.trans (below_row (Nat.le_refl _) _))
end Go.Proofs.Ytndfhnaafaijcaa
