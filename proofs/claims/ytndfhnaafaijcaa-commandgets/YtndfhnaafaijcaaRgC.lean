/- THE DOCUMENT's OWN ANSWER: impostref8.Get. (By genrget.py.) -/
import Derived.Test.YtndfhnaafaijcaaRgE
set_option linter.unusedVariables false
set_option maxRecDepth 100000
namespace Go.Proofs.Ytndfhnaafaijcaa
open Go.RowKit
open Mem Pk Cm

theorem rCount_wrong {bs : List UInt8} {most : Int} {s : St} (h : s.err ≠ 0) (ha : s.at' ≤ bs.length) : rCount bs most s = (0, s) := by
  unfold rCount
  have h1 : rWithin bs 0 most s = (0, s) := by
    rw [rWithin_wrong (by rw [rNum_wrong h]; exact h), rNum_wrong h]
  rw [h1]
  dsimp only
  exact if_neg (by omega)
theorem rText_wrong {bs : List UInt8} {most : Int} {s : St} (h : s.err ≠ 0) (ha : s.at' ≤ bs.length) : rText bs most s = (.empty, s) := rText_none (rCount_wrong h ha)
theorem rLines_err {bs : List UInt8} {s : St} (h : s.err ≠ 0) (ha : s.at' ≤ bs.length) : ∀ {k : Nat}, (rLines bs k s).2 = s
  | 0 => rfl
  | k + 1 => by
    have e : (rLine bs s).2 = s := by
      unfold rLine
      dsimp only
      rw [rText_wrong h ha]
      dsimp only
      rw [rText_wrong h ha]
      dsimp only
      rw [rNum_wrong h]
      dsimp only
      rw [rNum_wrong h]
    show (rLines bs k (rLine bs s).2).2 = s
    rw [e]
    exact rLines_err h ha
set_option maxHeartbeats 16000000 in
theorem rget_4 (bs : List UInt8) (ao : Option Addr) (m cap : Nat) (w : World) (hL : By.Ls w ao m cap bs) (hsm : ¬ 1024 < m) (he : (rNum bs s0).2.err = 0) (hk : (rNum bs s0).1 = 4) :
    Calls Try.prog 25 #[.slice ao m cap] w (RGetE bs w) := by
  have HL := Lib.hid hL
  have HLen := Lib.hid hL.len
  have hcap := hL.reach
  have hfit := hL.fits
  have hb0 : Below w.heap.size w (w.alloc (.cells #[.int .i64 0, .string .empty, .int .i64 0, .string .empty, .int .i64 0, .int .i64 0, .int .i64 0, .int .i64 0, .int .i64 0, .int .i64 0, .int .i64 0, .slice none 0 0, .string .empty, .int .i64 0, .int .i64 0] 37)) := below_box (Below.refl _ _) _
  have HB0 := Lib.hid hb0
  have HL0 := Lib.hid (hL.below hb0)
  have HA0 : Hid (Cm.Blk (w.alloc (.cells #[.int .i64 0, .string .empty, .int .i64 0, .string .empty, .int .i64 0, .int .i64 0, .int .i64 0, .int .i64 0, .int .i64 0, .int .i64 0, .int .i64 0, .slice none 0 0, .string .empty, .int .i64 0, .int .i64 0] 37)) w.heap.size Cm.T.zero) := Lib.hid (heap_alloc_new w _)
  have HSm : Hid (¬ 1024 < bs.length) := Lib.hid (by rw [← HLen.out]; exact hsm)
  have HBs : Hid (bs.length ≤ 1000000) := Lib.hid (by have := HSm.out; omega)
  have a1 : ¬ (1024 : Int) < (m : Int) := by omega
  have HN := Lib.hid (get_num (bs := bs) HSm.out)
  have HKd := Lib.hid (get_kind (bs := bs) HSm.out)
  have HEn := Lib.hid (get_end (bs := bs) HSm.out)
  have HIs := Lib.hid (get_is (bs := bs) HSm.out)
  obtain ⟨s1, hq⟩ : ∃ s1, rNum bs s0 = (4, s1) := ⟨(rNum bs s0).2, by rw [← hk]⟩
  rw [hq] at he HN HKd HEn HIs
  dsimp only at he HN HKd HEn HIs
  have HQ := Lib.hid hq
  have HE := Lib.hid he
  clear hL hb0 hq hk 
  go_enter Try.func25, Try.ntmps25
  go_wp2_with fail
  refine (ref_read bs ao m cap _ HL0.out (by omega)).mono ?_
  rintro e w1 ⟨⟨p, bo, bc, rfl, hp, hR1⟩, b1⟩
  have hps : w.heap.size + 1 ≤ p := by simpa using hp
  have HA1 := Lib.hid (HA0.out.below b1)
  have HR1 := Lib.hid hR1
  have HB1 := Lib.hid (bchain HB0.out b1)
  have hwp : w.heap.size ≠ p := by omega
  clear hR1 b1 hp
  go_wp2_with fail
  refine (ref_rd_num p bo m bc bs s0 w1 HR1.out).mono ?_
  rintro e w2 ⟨rfl, hR2, hU2⟩
  rw [HQ.out] at hR2 ⊢
  dsimp only at hR2 ⊢
  have hlp := cell_lt hR2.c0
  obtain ⟨W2, hW2, d2, hC2⟩ := Cm.boxB w2 { Cm.T.zero with kind := 4 }
  have HA2 := Lib.hid ((HA1.out.upd hU2 hwp).below d2)
  have HB2 := Lib.hid (bchain (get_upd HB1.out (by omega) hU2) d2)
  have HR2 := Lib.hid (hR2.below d2)
  have HC2 := Lib.hid hC2
  have HOff := Lib.hid (hR2.off (Nat.le_refl _))
  have hgp : w2.heap.size ≠ p := by omega
  have hlw : w.heap.size < w2.heap.size := by omega
  have hwg : w.heap.size ≠ w2.heap.size := by omega
  have e2 := HR2.out.c2
  have e0 := hC2.cell 0
  change _ = some _ at e0
  replace e0 : W2.cell? ⟨w2.heap.size, 0, none⟩ = some (.int .i64 4) := e0
  clear hR2 hU2 d2 hC2
  have q1 : (s1.err != 0) = false := by rw [HE.out]; rfl
  clear he
  go_wp2_with (first | (with_reducible apply Cm.wplB_new (c := { Cm.T.zero with kind := 4 }); rfl; rfl; kernel_rfl; rfl; kernel_rfl; kernel_rfl; rw [hW2]))
  clear hW2 e2 e0
  refine (ref_rd_text p bo m bc bs 64 s1 _ HR2.out).mono ?_
  rintro e x3 ⟨rfl, hR, hU⟩
  obtain ⟨v1, st1, hq1⟩ : ∃ v q, rText bs 64 s1 = (v, q) := ⟨_, _, rfl⟩
  rw [hq1] at hR ⊢
  dsimp only at hR ⊢
  have B1 := HC2.out.upd hU hgp
  have q1_1 := B1.cell 1
  have z1_1 := B1.fz 1
  change _ = some _ at q1_1
  have HC3 := Lib.hid (B1.set (c' := { Cm.T.zero with kind := 4, series := v1 }) 1 (.string v1) rfl)
  have HA3 := Lib.hid ((HA2.out.upd hU hwp).other (q := w2.heap.size) (o := 1) (.string v1) hwg)
  have HR3 := Lib.hid (hR.other (q := w2.heap.size) (o := 1) HOff.out (.string v1))
  have HB3 := Lib.hid ((get_upd HB2.out (by omega) hU).setCell (p := ⟨w2.heap.size, 1, none⟩) (Nat.le_of_lt hlw) (.string v1))
  clear hR hU B1
  go_wp2_with fail
  refine (ref_date p bo m bc bs st1 _ HR3.out).mono ?_
  rintro e x4 ⟨rfl, hR, hU⟩
  obtain ⟨⟨v2a, v2b, v2c⟩, st2, hq2⟩ : ∃ v q, rDay bs st1 = (v, q) := ⟨_, _, rfl⟩
  rw [hq2] at hR ⊢
  dsimp only at hR ⊢
  have B2 := HC3.out.upd hU hgp
  have q2_8 := B2.cell 8
  have z2_8 := B2.fz 8
  change _ = some _ at q2_8
  have q2_9 := B2.cell 9
  have z2_9 := B2.fz 9
  change _ = some _ at q2_9
  have q2_10 := B2.cell 10
  have z2_10 := B2.fz 10
  change _ = some _ at q2_10
  have HC4 := Lib.hid (((B2.set (c' := { Cm.T.zero with kind := 4, series := v1, y := v2a }) 8 (.int .i64 v2a) rfl).set (c' := { Cm.T.zero with kind := 4, series := v1, y := v2a, m := v2b }) 9 (.int .i64 v2b) rfl).set (c' := { Cm.T.zero with kind := 4, series := v1, y := v2a, m := v2b, d := v2c }) 10 (.int .i64 v2c) rfl)
  have HA4 := Lib.hid ((((HA3.out.upd hU hwp).other (q := w2.heap.size) (o := 8) (.int .i64 v2a) hwg).other (q := w2.heap.size) (o := 9) (.int .i64 v2b) hwg).other (q := w2.heap.size) (o := 10) (.int .i64 v2c) hwg)
  have HR4 := Lib.hid (((hR.other (q := w2.heap.size) (o := 8) HOff.out (.int .i64 v2a)).other (q := w2.heap.size) (o := 9) HOff.out (.int .i64 v2b)).other (q := w2.heap.size) (o := 10) HOff.out (.int .i64 v2c))
  have HB4 := Lib.hid ((((get_upd HB3.out (by omega) hU).setCell (p := ⟨w2.heap.size, 8, none⟩) (Nat.le_of_lt hlw) (.int .i64 v2a)).setCell (p := ⟨w2.heap.size, 9, none⟩) (Nat.le_of_lt hlw) (.int .i64 v2b)).setCell (p := ⟨w2.heap.size, 10, none⟩) (Nat.le_of_lt hlw) (.int .i64 v2c))
  clear hR hU B2
  go_wp2_with fail
  refine (ref_rd_count p bo m bc bs 12 st2 _ HR4.out).mono ?_
  rintro e x5 ⟨rfl, hR, hU⟩
  have hpos := rCount_pos bs 12 st2
  have hle := rCount_le bs 12 st2 (by omega)
  obtain ⟨v3, s3, hq3⟩ : ∃ v q, rCount bs 12 st2 = (v, q) := ⟨_, _, rfl⟩
  rw [hq3] at hR hpos hle ⊢
  dsimp only at hR hpos hle ⊢
  obtain ⟨N, rfl⟩ : ∃ N : Nat, v3 = N := ⟨v3.toNat, by omega⟩
  have HC5 := Lib.hid (HC4.out.upd hU hgp)
  have HA5 := Lib.hid (HA4.out.upd hU hwp)
  have HR5 := Lib.hid hR
  have HB5 := Lib.hid (get_upd HB4.out (by omega) hU)
  have hs5 := hU.size
  have hg5 := HC5.out.lt
  have HQ1 := Lib.hid hq1
  have HQ2 := Lib.hid hq2
  have HQ3 := Lib.hid hq3
  have HP : Hid (rPost bs s1 = (⟨4, v1, 0, .empty, 0, 0, 0, 0, v2a, v2b, v2c, (rLines bs N s3).1, .empty, 0, 0⟩, (rLines bs N s3).2)) := Lib.hid (by
    unfold rPost
    rw [hq1]
    dsimp only
    rw [hq2]
    dsimp only
    rw [hq3]
    dsimp only
    rw [Int.toNat_natCast])
  have f1 : v1.size ≤ 140737488355328 := by have h := rText_size bs 64 s1; rw [hq1] at h; have := HBs.out; dsimp only at h; omega
  have f2 : Fit v2a ∧ Fit v2b ∧ Fit v2c := by have h := rDay_fit bs st1; rw [hq2] at h; exact h
  have HF1 := Lib.hid f1
  have HF2 := Lib.hid f2
  have HRd0 : Hid (rRead bs 4 s1 = (⟨4, v1, 0, .empty, 0, 0, 0, 0, v2a, v2b, v2c, (rLines bs N s3).1, .empty, 0, 0⟩, (rLines bs N s3).2)) := HP
  rw [HRd0.out] at HEn HIs
  dsimp only at HEn HIs
  clear hR hU hq1 hq2 hq3 f1 f2
  go_wp2_with fail
  go_loopw [7, 8] (fun i _ wr => ∃ (k : Nat) (la : Option Addr) (lc : Nat) (st : St) (done : List Ln.T), k ≤ N ∧ i = .int .i64 k ∧ Hid (done.length = k) ∧ Hid (Ln.Own wr x5.heap.size (.slice la k lc) done) ∧ Hid (∀ r ∈ done, Ln.Short r) ∧ Hid (Rd wr p bo m bc bs st) ∧ Hid (Cm.Blk wr w2.heap.size { Cm.T.zero with kind := 4, series := v1, y := v2a, m := v2b, d := v2c, ao := la, n := k, cap := lc }) ∧ Hid (Cm.Blk wr w.heap.size Cm.T.zero) ∧ Hid (Below w.heap.size w wr ∧ x5.heap.size ≤ wr.heap.size) ∧ Hid (done ++ (rLines bs (N - k) st).1 = (rLines bs N s3).1 ∧ (rLines bs (N - k) st).2 = (rLines bs N s3).2)) (fun i _ _ => N - (intOf i).toNat)
  case atStart => exact ⟨0, none, 0, s3, [], by omega, rfl, Lib.hid rfl, Lib.hid (Ln.own_nil _ _), Lib.hid (fun _ h => by cases h), HR5, HC5, HA5, Lib.hid ⟨HB5.out, Nat.le_refl _⟩, Lib.hid ⟨rfl, rfl⟩⟩
  case round =>
    obtain ⟨k, la, lc, st, done, hkN, rfl, HDn, HO, HSh, HR, HCk, HAk, HW, HX⟩ := hrel
    have c2 := HR.out.c2
    have hsw := HW.out.2
    have hpx : p < x5.heap.size := cell_lt HR5.out.c0
    by_cases hlt2 : k < N
    · by_cases her : st.err = 0
      · rw [her] at c2
        have HNx := Lib.hid (rLines_next bs k N hlt2 st)
        clear her
        go_wp2_with fail
        refine (ref_rd_text p bo m bc bs 64 st _ HR.out).mono ?_
        rintro e y1 ⟨rfl, hR1, hU1⟩
        obtain ⟨t1, stA, ht1⟩ : ∃ t1 st1, rText bs 64 st = (t1, st1) := ⟨_, _, rfl⟩
        rw [ht1] at hR1 ⊢
        dsimp only at hR1 ⊢
        have hy1 := hU1.size
        have hqp : y1.heap.size ≠ p := by omega
        have hgq : w2.heap.size ≠ y1.heap.size := by omega
        have hwq : w.heap.size ≠ y1.heap.size := by omega
        clear c2
        go_wp2_with fail
        obtain ⟨W, hW, hbW, hLa⟩ : ∃ W, y1.alloc (.cells #[.string t1, .string ⟨#[]⟩, .int .i64 0, .int .i64 0] 56) = W ∧ Below y1.heap.size y1 W ∧ L4 W y1.heap.size ⟨t1, .empty, 0, 0⟩ := ⟨_, rfl, below_box (Below.refl _ _) _, by simp [go_sem], by simp [go_sem]; rfl, by simp [go_sem], by simp [go_sem], fun o => by simp [go_sem]⟩
        rw [hW]
        have hWs := hbW.size
        have HLa := Lib.hid hLa
        have HRa := Lib.hid (hR1.below hbW)
        have HOfq := Lib.hid (hR1.off (Nat.le_refl _))
        have HOw := Lib.hid (Ln.own_lt (Ln.own_upd HO.out hU1 hpx) (Nat.le_refl _))
        have HOa := Lib.hid (Ln.own_below (Ln.own_upd HO.out hU1 hpx) hbW)
        have HCa := Lib.hid ((HCk.out.upd hU1 hgp).below hbW)
        have HAa := Lib.hid ((HAk.out.upd hU1 hwp).below hbW)
        have HBa := Lib.hid (bchain (get_upd HW.out.1 (by omega) hU1) hbW)
        clear hR1 hU1 hbW hLa hW
        refine (ref_rd_text p bo m bc bs 64 stA _ HRa.out).mono ?_
        rintro e y2 ⟨rfl, hR2, hU2⟩
        obtain ⟨t2, stB, ht2⟩ : ∃ t2 st2, rText bs 64 stA = (t2, st2) := ⟨_, _, rfl⟩
        rw [ht2] at hR2 ⊢
        dsimp only at hR2 ⊢
        have l2 := HLa.out.upd hU2 hqp
        have hz2 := hU2.size
        have HLb := Lib.hid (l2.s1 t2)
        have HRb := Lib.hid (hR2.other (o := 1) HOfq.out (.string t2))
        have HOb := Lib.hid (Ln.own_set (o := 1) (x := .string t2) (Ln.own_upd HOa.out hU2 hpx) HOw.out)
        have HCb := Lib.hid ((HCa.out.upd hU2 hgp).other (o := 1) (.string t2) hgq)
        have HAb := Lib.hid ((HAa.out.upd hU2 hwp).other (o := 1) (.string t2) hwq)
        have HBb := Lib.hid ((get_upd HBa.out (by omega) hU2).setCell (p := ⟨y1.heap.size, 1, none⟩) (show w.heap.size ≤ y1.heap.size by omega) (.string t2))
        clear hR2 hU2
        obtain ⟨d0, d1, d2, d3, df⟩ := l2
        go_wp2_with fail
        refine (ref_rd_num p bo m bc bs stB _ HRb.out).mono ?_
        rintro e y3 ⟨rfl, hR3, hU3⟩
        obtain ⟨t3, stC, ht3⟩ : ∃ t3 st3, rNum bs stB = (t3, st3) := ⟨_, _, rfl⟩
        rw [ht3] at hR3 ⊢
        dsimp only at hR3 ⊢
        have l3 := HLb.out.upd hU3 hqp
        have hz3 := hU3.size
        have HLc := Lib.hid (l3.s2 t3)
        have HRc := Lib.hid (hR3.other (o := 2) HOfq.out (.int .i64 t3))
        have HOc := Lib.hid (Ln.own_set (o := 2) (x := .int .i64 t3) (Ln.own_upd HOb.out hU3 hpx) HOw.out)
        have HCc := Lib.hid ((HCb.out.upd hU3 hgp).other (o := 2) (.int .i64 t3) hgq)
        have HAc := Lib.hid ((HAb.out.upd hU3 hwp).other (o := 2) (.int .i64 t3) hwq)
        have HBc := Lib.hid ((get_upd HBb.out (by omega) hU3).setCell (p := ⟨y1.heap.size, 2, none⟩) (show w.heap.size ≤ y1.heap.size by omega) (.int .i64 t3))
        clear hR3 hU3 d0 d1 d2 d3 df
        obtain ⟨d0, d1, d2, d3, df⟩ := l3
        go_wp2_with fail
        refine (ref_rd_num p bo m bc bs stC _ HRc.out).mono ?_
        rintro e y4 ⟨rfl, hR4, hU4⟩
        obtain ⟨t4, stD, ht4⟩ : ∃ t4 st4, rNum bs stC = (t4, st4) := ⟨_, _, rfl⟩
        rw [ht4] at hR4 ⊢
        dsimp only at hR4 ⊢
        have HLine : Hid (rLine bs st = (⟨t1, t2, t3, t4⟩, stD)) := Lib.hid (by
          unfold rLine
          rw [ht1]
          dsimp only
          rw [ht2]
          dsimp only
          rw [ht3]
          dsimp only
          rw [ht4])
        have HShx : Hid (Ln.Short ⟨t1, t2, t3, t4⟩) := Lib.hid (by
          have h := rLines_short bs (by have := HBs.out; omega) st
          rw [HLine.out] at h
          exact h)
        have l4 := HLc.out.upd hU4 hqp
        have hz4 := hU4.size
        have C4 := HCc.out.upd hU4 hgp
        have g11 := C4.cell 11
        change _ = some _ at g11
        replace g11 : y4.cell? ⟨w2.heap.size, 11, none⟩ = some (.slice la k lc) := g11
        have HRd := Lib.hid (hR4.other (o := 3) HOfq.out (.int .i64 t4))
        have HOd := Lib.hid (Ln.own_set (o := 3) (x := .int .i64 t4) (Ln.own_upd HOc.out hU4 hpx) HOw.out)
        have HCd := Lib.hid (C4.other (o := 3) (.int .i64 t4) hgq)
        have HAd := Lib.hid ((HAc.out.upd hU4 hwp).other (o := 3) (.int .i64 t4) hwq)
        have HBd := Lib.hid ((get_upd HBc.out (by omega) hU4).setCell (p := ⟨y1.heap.size, 3, none⟩) (show w.heap.size ≤ y1.heap.size by omega) (.int .i64 t4))
        simp at hz3 hz4
        clear hR4 hU4 d0 d1 d2 d3 df ht1 ht2 ht3 ht4 C4
        obtain ⟨d0, d1, d2, d3, df⟩ := l4
        have hdl := HDn.out
        go_wp2_with (at_builtin; go_must (refine Ln.wpList_append _ rfl _ _ rfl x5.heap.size (.slice la k lc) done rfl (Ln.own_alloc HOd.out _) (some ⟨y4.heap.size, 0, none⟩) 1 1 [⟨t1, t2, t3, t4⟩] rfl rfl (fun h => by cases h) (Ln.seg_block (Ln.heap_set y4 y1.heap.size 3 (.int .i64 t4) ⟨t1, t2, t3, t4⟩)) (by omega) (by simp; omega) ?_))
        intro v5 y5 o5 gr5 _
        have hb5 : Below x5.heap.size (y4.setCell ⟨y1.heap.size, 3, none⟩ (.int .i64 t4)) y5 := (((Below.refl x5.heap.size _).alloc (by simp; omega) _).grown gr5 (by simp; omega) (Ln.own_ge HOd.out))
        have hsz5 := hb5.size
        have HSh5 : Hid (∀ r ∈ done ++ [⟨t1, t2, t3, t4⟩], Ln.Short r) := Lib.hid (by
          intro r hr
          rcases List.mem_append.1 hr with h | h
          · exact HSh.out r h
          · obtain rfl := List.mem_singleton.1 h
            exact HShx.out)
        have HDn5 : Hid ((done ++ [(⟨t1, t2, t3, t4⟩ : Ln.T)]).length = k + 1) := Lib.hid (by rw [List.length_append, HDn.out]; rfl)
        obtain ⟨la5, lc5, hv5, _, _⟩ := Ln.own_ls o5 HSh5.out
        rw [HDn5.out] at hv5
        subst hv5
        have hB5 : Cm.Blk y5 w2.heap.size { Cm.T.zero with kind := 4, series := v1, y := v2a, m := v2b, d := v2c, ao := la, n := k, cap := lc } := (hb5.block _ hg5).trans HCd.out
        have HB6 : Hid (Cm.Blk (y5.setCell ⟨w2.heap.size, 11, none⟩ (.slice la5 (k + 1) lc5)) w2.heap.size { Cm.T.zero with kind := 4, series := v1, y := v2a, m := v2b, d := v2c, ao := la5, n := k + 1, cap := lc5 }) := Lib.hid (hB5.set 11 _ rfl)
        have HO6 : Hid (Ln.Own (y5.setCell ⟨w2.heap.size, 11, none⟩ (.slice la5 (k + 1) lc5)) x5.heap.size (.slice la5 (k + 1) lc5) (done ++ [⟨t1, t2, t3, t4⟩])) := Lib.hid (Ln.own_set o5 (fun h => by have := Ln.own_ge o5 _ h; omega))
        have HA6 : Hid (Cm.Blk (y5.setCell ⟨w2.heap.size, 11, none⟩ (.slice la5 (k + 1) lc5)) w.heap.size Cm.T.zero) := Lib.hid (Cm.Blk.other (o := 11) ((hb5.block _ (by omega)).trans HAd.out) (.slice la5 (k + 1) lc5) hwg)
        have HR6 : Hid (Rd (y5.setCell ⟨w2.heap.size, 11, none⟩ (.slice la5 (k + 1) lc5)) p bo m bc bs stD) := Lib.hid ((HRd.out.past hb5 hpx HR5.out.bytes_lt).other (o := 11) HOff.out (.slice la5 (k + 1) lc5))
        have HW6 : Hid (Below w.heap.size w (y5.setCell ⟨w2.heap.size, 11, none⟩ (.slice la5 (k + 1) lc5)) ∧ x5.heap.size ≤ (y5.setCell ⟨w2.heap.size, 11, none⟩ (.slice la5 (k + 1) lc5)).heap.size) := Lib.hid ⟨(HBd.out.trans (hb5.mono (by omega))).setCell (p := ⟨w2.heap.size, 11, none⟩) (Nat.le_of_lt hlw) _, by simp at hsz5 ⊢; omega⟩
        have c11 := hB5.cell 11
        change _ = some _ at c11
        replace c11 : y5.cell? ⟨w2.heap.size, 11, none⟩ = some (.slice la k lc) := c11
        have f11 := hB5.fz 11
        clear o5 gr5 hb5 hB5 d0 d1 d2 d3 df g11
        go_wp2_with fail
        go_roundw
        case rel =>
          refine ⟨k + 1, la5, lc5, stD, done ++ [⟨t1, t2, t3, t4⟩], by omega, by go_num, HDn5, HO6, HSh5, HR6, HB6, HA6, HW6, Lib.hid ?_⟩
          have h1 := HNx.out
          rw [HLine.out] at h1
          have h2 := HX.out
          rw [h1.1, h1.2] at h2
          rw [List.append_assoc]
          exact h2
        case measure => simp [intOf]; omega
      · have HEr := Lib.hid her
        have qe : (st.err == 0) = false := beq_eq_false_iff_ne.2 her
        have HFin : Hid ((rLines bs N s3).2 = st) := Lib.hid (by rw [← HX.out.2]; exact rLines_err her (by rw [← HR.out.ls.len]; exact HR.out.place))
        rw [HFin.out] at HEn
        go_wp2_with fail
        refine (ref_rd_end p bo m bc bs st _ HR.out).mono ?_
        rintro e xe ⟨rfl, hR, hU⟩
        have HCe := Lib.hid (HCk.out.upd hU hgp)
        have HAe := Lib.hid (HAk.out.upd hU hwp)
        have HBe := Lib.hid (get_upd HW.out.1 (by omega) hU)
        have hxe : (rEnd bs st).1 = st.err := by rw [rEnd_else (fun h => HEr.out h.1)]
        have HG := Lib.hid (HEn.out HE.out ⟨by omega, by omega⟩ (by rw [hxe]; exact HEr.out))
        rw [hxe] at HG ⊢
        have q2 : (st.err != 0) = true := bne_iff_ne.2 HEr.out
        clear hR hU hxe
        go_wp2_with (first | (with_reducible apply Cm.wplB_store (g := w.heap.size) (old := Cm.T.zero) (c := Cm.T.zero); rfl; rfl; kernel_rfl; kernel_rfl; exact HAe.out))
        refine bodyPost_ret (Cm.results_blk2 Try.results25 rfl (HAe.out.row Cm.T.zero)) rfl ?_
        exact rget_zero HG.out (HBe.out.trans (below_row (Nat.le_refl _) _))
    · obtain rfl : k = N := by omega
      have HD : Hid (done = (rLines bs k s3).1 ∧ st = (rLines bs k s3).2) := Lib.hid (by
        have h := HX.out
        rw [Nat.sub_self] at h
        simpa [rLines] using h)
      rw [← HD.out.1, ← HD.out.2] at HIs
      rw [← HD.out.2] at HEn
      go_wp2_with fail
      refine (ref_rd_end p bo m bc bs st _ HR.out).mono ?_
      rintro e xe ⟨rfl, hR, hU⟩
      have HCe := Lib.hid (HCk.out.upd hU hgp)
      have HAe := Lib.hid (HAk.out.upd hU hwp)
      have HBe := Lib.hid (get_upd HW.out.1 (by omega) hU)
      obtain ⟨lu, lw, hlv, hLs, hNew⟩ := Ln.own_ls HO.out HSh.out
      rw [HDn.out] at hlv hLs
      cases hlv
      have HLs := Lib.hid (hLs.upd (p := p) hU (Ln.apart hNew hpx))
      have HNw := Lib.hid hNew
      obtain ⟨x, hx⟩ : ∃ x, (rEnd bs st).1 = x := ⟨_, rfl⟩
      rw [hx] at HEn HIs ⊢
      clear hR hU hx hLs hNew
      by_cases hz : x = 0
      · subst hz
        have HG := Lib.hid (HIs.out HE.out ⟨by omega, by omega⟩ rfl)
        have HF : Hid (S.Fit' ⟨4, v1, 0, .empty, 0, 0, 0, 0, v2a, v2b, v2c, done, .empty, 0, 0⟩) := Lib.hid (fitS HF1.out empty_size empty_size fit0 fit0 fit0 fit0 fit0 HF2.out.1 HF2.out.2.1 HF2.out.2.2 fit0 fit0 HSh.out)
        go_wp2_with (first | (with_reducible apply Cm.wplB_load (g := w2.heap.size) (c := { Cm.T.zero with kind := 4, series := v1, y := v2a, m := v2b, d := v2c, ao := la, n := k, cap := lc }); rfl; rfl; kernel_rfl; exact HCe.out) | (with_reducible apply Cm.wplB_store (g := w.heap.size) (old := Cm.T.zero) (c := { Cm.T.zero with kind := 4, series := v1, y := v2a, m := v2b, d := v2c, ao := la, n := k, cap := lc }); rfl; rfl; kernel_rfl; kernel_rfl; exact HAe.out))
        refine bodyPost_ret (Cm.results_blk2 Try.results25 rfl (HAe.out.row { Cm.T.zero with kind := 4, series := v1, y := v2a, m := v2b, d := v2c, ao := la, n := k, cap := lc })) rfl ?_
        exact rget_is HG.out (Cm.in_of HF.out (⟨by show (-9223372036854775808 : Int) ≤ 4; omega, by show (4 : Int) ≤ 9223372036854775807; omega⟩) (Ln.Ls.setRow HLs.out (Ln.apart HNw.out (by omega)))) rfl (by show k ≤ 1000; omega) (HBe.out.trans (below_row (Nat.le_refl _) _))
      · have HZ := Lib.hid hz
        have q2 : (x != 0) = true := bne_iff_ne.2 hz
        go_wp2_with (first | (with_reducible apply Cm.wplB_store (g := w.heap.size) (old := Cm.T.zero) (c := Cm.T.zero); rfl; rfl; kernel_rfl; kernel_rfl; exact HAe.out))
        refine bodyPost_ret (Cm.results_blk2 Try.results25 rfl (HAe.out.row Cm.T.zero)) rfl ?_
        exact rget_zero (HEn.out HE.out ⟨by omega, by omega⟩ HZ.out) (HBe.out.trans (below_row (Nat.le_refl _) _))
end Go.Proofs.Ytndfhnaafaijcaa
