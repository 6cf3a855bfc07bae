/- THE WALK OF CommandBack. (By genback9.py.) -/
import Derived.Test.YtndfhnaafaijcaaMGn
import Derived.Test.YtndfhnaafaijcaaMGe
import Derived.Test.YtndfhnaafaijcaaMGs
set_option linter.unusedVariables false
set_option maxRecDepth 100000
namespace Go.Proofs.Ytndfhnaafaijcaa
open Go.RowKit
open Mem Pk Cm

theorem within_any (n lo hi : Int) (w : World) (_hn : Fit n) (h0 : 0 ≤ lo) (h1 : lo ≤ hi) (h2 : hi ≤ 4611686018427387904) :
    Calls Try.prog 27 #[.int .i64 n, .int .i64 lo, .int .i64 hi] w fun e w' => (∃ r : Int, e = .returned (.int .i64 r) ∧ lo ≤ r ∧ r ≤ hi) ∧ w' = w := by
  unfold Fit at _hn
  have a1 : n.tmod (hi - lo + 1) < hi - lo + 1 := Int.tmod_lt_of_pos _ (by omega)
  have a2 : -(hi - lo + 1) < n.tmod (hi - lo + 1) := by
    have := Int.tmod_lt_of_pos (-n) (show 0 < hi - lo + 1 by omega)
    rw [Int.neg_tmod] at this
    omega
  go_enter Try.func27, Try.ntmps27
  go_wp2
  all_goals go_ret
  all_goals exact ⟨⟨_, rfl, by omega, by omega⟩, rfl⟩
theorem evT {a : Act} {t : Tmp} {v : Value} (h : a.tmps.toList[t]? = some v) : a.eval (.tmp t) = v := by
  show a.tmps.getD t undef = v
  rw [Array.getElem?_toList] at h
  simp [Array.getD_eq_getD_getElem?, h]
theorem few_n' (c : Cm.T) : c.few.n ≤ 100000 := by
  show min c.n 30 ≤ 100000
  omega
theorem bare_kind' (s : S) : s.bare.kind = if 1 ≤ s.kind ∧ s.kind ≤ 8 then s.kind else 0 := by
  by_cases h : 1 ≤ s.kind ∧ s.kind ≤ 8
  · rw [if_pos h]
    rcases kinds h.1 h.2 with e | e | e | e | e | e | e | e
    all_goals simp [S.bare, e]
  · rw [if_neg h]
    unfold S.bare
    rw [if_neg (by omega), if_neg (by omega), if_neg (by omega), if_neg (by omega), if_neg (by omega), if_neg (by omega), if_neg (by omega), if_neg (by omega)]
    rfl
theorem kind_zero {s : S} {w : World} {v : Value} (h : Cm.Is w s v) (hz : s = S.zero) : v = .nilIface := by
  rcases h.good with ⟨_, e⟩ | hg
  · exact e
  · rw [hz] at hg
    exact absurd hg.lo (by show ¬ (1 : Int) ≤ 0; omega)
theorem putE_zero {s : S} (h : s.putE = 0) : s.long = false ∧ s.bytes.length ≤ 1024 := by
  unfold S.putE at h
  split at h
  · cases h
  · split at h
    · cases h
    · rename_i h1 h2
      refine ⟨Bool.eq_false_iff.2 fun e => h2 (.inl e), by omega⟩
set_option maxHeartbeats 16000000 in
theorem commandBack_walk (c : Cm.T) (ls : List Ln.T) (bs : List UInt8) (a1 : Option Addr) (len1 cap1 : Nat) (cut : Int) (w : World) (hI : Cm.In w c ls) (hL1 : By.Ls w a1 len1 cap1 bs) (hn1 : len1 ≤ 140737488351232) (hcut : (Lit.int .i64 cut).wf = true) :
    Calls Try.prog 7 #[Cm.val c, .slice a1 len1 cap1, .int .i64 cut] w fun e w' => e = .returned (.bool true) ∧ Below w.heap.size w w' := by
  have HI := Lib.hid hI
  have HLb := Lib.hid hL1
  have HCut := Lib.hid (fit_in hcut)
  have hcapb := hL1.reach
  have hfitb := hL1.fits
  obtain ⟨L, hL⟩ : ∃ L, ls.take 30 = L := ⟨_, rfl⟩
  have HF : Hid (Cm.In w c.few L) := Lib.hid (hL ▸ hI.few)
  clear hL
  obtain ⟨W0, hW0, b0, hB0⟩ := Cm.boxV w c
  have HB0 := Lib.hid b0
  clear hI b0 hL1 hcut
  unfold Cm.val
  go_enter Try.func7, Try.ntmps7
  go_wp2_with (first | (with_reducible apply Cm.wplG_load (g := w.heap.size) (c := c); rfl; kernel_rfl; exact evT rfl; exact hB0))
  refine (few_any c ls W0 W0 (Below.refl _ _) (HI.out.below HB0.out)).mono ?_
  rintro e w1 ⟨rfl, b1⟩
  have hB1 := hB0.below b1
  obtain ⟨X, hX, hBX, hbX⟩ := Cm.rowW hB1 c.few
  have HBX := Lib.hid (hbX _ _ (bchain HB0.out b1) (Nat.le_refl _))
  have HIX := Lib.hid (HF.out.below HBX.out)
  clear hW0 hB0 b1 hbX
  go_wp2_with (first | (with_reducible apply Cm.wplG_load (g := w.heap.size) (c := c.few); rfl; kernel_rfl; exact evT rfl; exact hBX) | (with_reducible apply Cm.wplB_store (g := w.heap.size) (old := c) (c := c.few); rfl; rfl; kernel_rfl; kernel_rfl; exact hB1; rw [hX]))
  clear hX hB1
  refine (of_any c.few L X HIX.out (few_n' c)).mono ?_
  rintro e w2 ⟨⟨v, rfl, hV⟩, b2⟩
  obtain ⟨W2, hst, d2, k2⟩ := boxS w2 v hV.is.oneCell
  have HB2 := Lib.hid (bchain (bchain HBX.out b2) d2)
  have HV := Lib.hid (hV.is.below d2)
  obtain ⟨s, hs⟩ : ∃ s, (c.few.sem L).bare = s := ⟨_, rfl⟩
  have hsk := bare_kind' (c.few.sem L)
  rw [hs] at HV hsk
  replace hsk : s.kind = if 1 ≤ c.kind ∧ c.kind ≤ 8 then c.kind else 0 := hsk
  have hck : c.few.kind = c.kind := rfl
  rw [hck]
  clear b2 d2 hV hs hBX hck
  unfold Cm.cv
  by_cases hk8 : 1 ≤ c.kind ∧ c.kind ≤ 8
  · rw [if_pos hk8] at hsk
    rw [ofE_yes hk8]
    have HG : Hid s.Good := Lib.hid (HV.out.kind_pos (by omega))
    have HK : Hid (s.kind ≠ 0) := Lib.hid (by omega)
    have HTr : Hid (decide (s.kind ≠ 0) = true) := Lib.hid (decide_eq_true HK.out)
    clear hk8 hsk
    go_wp2_with fail
    clear hst
    refine (put_any s v W2 HV.out).mono ?_
    rintro e w3 ⟨⟨ao3, n3, cap3, rfl, hL3⟩, b3⟩
    have HB3 := Lib.hid (bchain HB2.out b3)
    have HV3 := Lib.hid (HV.out.below b3)
    have k3 := keepC b3 k2
    have HL3 := Lib.hid hL3
    have HLen3 := Lib.hid hL3.len
    have hc3 := hL3.reach
    have hf3 := hL3.fits
    clear b3 k2 hL3
    by_cases hp0 : s.putE = 0
    · have HPb := Lib.hid (putB_ok hp0)
      have HPz := Lib.hid (putE_zero hp0)
      rw [hp0]
      clear hp0
      rw [HPb.out] at HL3 HLen3
      have HGb := Lib.hid (get_bytes HG.out HPz.out.1 HPz.out.2)
      have HGc := Lib.hid (get_cut HG.out HPz.out.1 HPz.out.2)
      have hpos : 1 ≤ n3 := by rw [HLen3.out]; exact bytes_pos s
      have hsm : n3 ≤ 1024 := by rw [HLen3.out]; exact HPz.out.2
      go_wp2_with fail
      refine (get_any s.bytes ao3 n3 cap3 w3 HL3.out).mono ?_
      rintro e w4 ⟨⟨u, rfl, hU⟩, b4⟩
      rw [HGb.out] at hU ⊢
      dsimp only at hU ⊢
      obtain ⟨W4, hst4, d4, k4⟩ := boxS w4 u hU.is.oneCell
      have HB4 := Lib.hid (bchain (bchain HB3.out b4) d4)
      have HU4 := Lib.hid (hU.is.below d4)
      have HV4 := Lib.hid ((HV3.out.below b4).below d4)
      have HL4 := Lib.hid ((HL3.out.below b4).below d4)
      replace k3 := keepC d4 (keepC b4 k3)
      clear b4 d4 hU
      unfold Cm.cv
      go_wp2_with fail
      clear hst4
      refine (flat_any s u W4 HU4.out).mono ?_
      rintro e w5 ⟨⟨c5, rfl, hI5, hs5, _⟩, b5⟩
      rw [HTr.out]
      obtain ⟨W5, hW5, d5, hB5⟩ := Cm.boxB w5 c5
      have HB5 := Lib.hid (bchain (bchain HB4.out b5) d5)
      have HV5 := Lib.hid ((HV4.out.below b5).below d5)
      have HL5 := Lib.hid ((HL4.out.below b5).below d5)
      have HI5 := Lib.hid (hI5.below d5)
      have HS5 := Lib.hid hs5
      replace k3 := keepC d5 (keepC b5 k3)
      clear b5 d5 hI5 hs5 k4
      go_wp2_with (first | (with_reducible apply Cm.wplB_new (c := c5); rfl; rfl; kernel_rfl; rfl; kernel_rfl; kernel_rfl; rw [hW5]))
      clear hW5
      refine (flat_any s v W5 HV5.out).mono ?_
      rintro e w6 ⟨⟨c6, rfl, hI6, hs6, _⟩, b6⟩
      rw [HTr.out]
      obtain ⟨W6, hW6, d6, hB6⟩ := Cm.boxB w6 c6
      have HB6 := Lib.hid (bchain (bchain HB5.out b6) d6)
      have HL6 := Lib.hid ((HL5.out.below b6).below d6)
      have HI5' := Lib.hid ((HI5.out.below b6).below d6)
      have HI6 := Lib.hid (hI6.below d6)
      have HS6 := Lib.hid hs6
      replace hB5 := (hB5.below b6).below d6
      clear b6 d6 hI6 hs6 k3
      go_wp2_with (first | (with_reducible apply Cm.wplG_load (g := w5.heap.size) (c := c5); rfl; kernel_rfl; exact evT rfl; exact hB5) | (with_reducible apply Cm.wplG_load (g := w6.heap.size) (c := c6); rfl; kernel_rfl; exact evT rfl; exact hB6) | (with_reducible apply Cm.wplB_new (c := c6); rfl; rfl; kernel_rfl; rfl; kernel_rfl; kernel_rfl; rw [hW6]))
      clear hW6
      refine (cmds_any c5 c6 s.lines s.lines W6 W6 (Below.refl _ _) HI5'.out HI6.out).mono ?_
      rintro e w7 ⟨⟨t7, rfl, ht7⟩, b7⟩
      have e7 : t7 = true := ht7.2 (by rw [HS5.out, HS6.out])
      subst e7
      have HB7 := Lib.hid (bchain HB6.out b7)
      have HL7 := Lib.hid (HL6.out.below b7)
      have z7 : ((n3 : Int) == 0) = false := beq_eq_false_iff_ne.2 (by omega)
      clear ht7 b7 hB5 hB6
      go_wp2_with fail
      refine (within_any cut 0 ((n3 : Int) - 1) w7 HCut.out (by omega) (by omega) (by omega)).mono ?_
      rintro e w8 ⟨⟨r, rfl, hr0, hr1⟩, rfl⟩
      rename World => w7
      obtain ⟨j, rfl⟩ : ∃ j : Nat, r = j := ⟨r.toNat, by omega⟩
      obtain ⟨hsl, hLj⟩ := HL7.out.to j (by omega)
      have HLj := Lib.hid hLj
      have HCj := Lib.hid (HGc.out j (by rw [← HLen3.out]; omega))
      clear hLj
      go_wp2_with fail
      clear hsl
      refine (get_any (s.bytes.take j) ao3 j cap3 w7 HLj.out).mono ?_
      rintro e w8 ⟨⟨u8, rfl, _⟩, b8⟩
      have HB8 := Lib.hid (bchain HB7.out b8)
      obtain ⟨x8, hx8⟩ : ∃ x, (Cm.get (s.bytes.take j)).2 = x := ⟨_, rfl⟩
      rw [hx8] at HCj ⊢
      have q8 : (x8 == 0) = false := beq_eq_false_iff_ne.2 HCj.out
      clear b8 hx8
      unfold Cm.cv
      go_wp2_with fail
      refine (get_any bs a1 len1 cap1 w8 (HLb.out.below HB8.out)).mono ?_
      rintro e y1 ⟨⟨v9, rfl, hV9⟩, b9⟩
      obtain ⟨Y2, hst9, d9, k9⟩ := boxS y1 v9 hV9.is.oneCell
      have HB9 := Lib.hid (bchain (bchain HB8.out b9) d9)
      have HV9 := Lib.hid (hV9.is.below d9)
      clear b9 d9 hV9
      unfold Cm.cv
      have HOk := Lib.hid (get_ok (bs := bs))
      have HZr := Lib.hid (get_zero (bs := bs))
      obtain ⟨⟨s9, x9⟩, hg9⟩ : ∃ q, Cm.get bs = q := ⟨_, rfl⟩
      rw [hg9] at HV9 HOk HZr ⊢
      dsimp only at HV9 HOk HZr ⊢
      clear hg9
      by_cases hx9 : x9 = 0
      · subst hx9
        have HE9 : Hid (s9.putE = 0 ∧ s9.putB = bs) := Lib.hid (by
          obtain ⟨g1, g2, g3, g4⟩ := HOk.out rfl
          have e := putE_ok (s := s9) ⟨g1.lo, g1.hi⟩ (by
            rintro (h | h)
            · rw [g2] at h
              cases h
            · rw [g3] at h
              omega)
          exact ⟨e, (putB_ok e).trans g3⟩)
        go_wp2_with fail
        clear hst9
        refine (put_any s9 v9 Y2 HV9.out).mono ?_
        rintro e y3 ⟨⟨ao3, n3, cap3, rfl, hL3⟩, b3⟩
        rw [HE9.out.1]
        rw [HE9.out.2] at hL3
        have HL3 := Lib.hid hL3
        have HB3' := Lib.hid (bchain HB9.out b3)
        clear b3 hL3
        go_wp2_with fail
        refine (By.same_any bs bs ao3 a1 n3 len1 cap3 cap1 y3 HL3.out (HLb.out.below HB3'.out)).mono ?_
        rintro e y4 ⟨rfl, b4⟩
        rw [show decide (bs = bs) = true from decide_eq_true rfl]
        have HB4' := Lib.hid (bchain HB3'.out b4)
        clear b4
        go_wp2_with fail
        refine (cruns y4).mono ?_
        rintro e y5 ⟨rfl, b5⟩
        have HB5' := Lib.hid (bchain HB4'.out b5)
        clear b5
        go_wp2_with fail
        go_ret
        exact ⟨rfl, HB5'.out⟩
      · have q9 : (x9 != 0) = true := bne_iff_ne.2 hx9
        have hz := HZr.out hx9
        have hk9 : s9.kind = 0 := by rw [hz]; rfl
        have HK9 := Lib.hid hk9
        clear hz hk9
        go_wp2_with fail
        clear hst9
        refine (cmd_kind s9 v9 Y2 HV9.out).mono ?_
        rintro e y3 ⟨rfl, hy3⟩
        have HB3' : Hid (Below w.heap.size w y3) := Lib.hid (by rw [hy3]; exact below_box HB9.out _)
        rw [HK9.out]
        clear hy3
        go_wp2_with fail
        refine (cruns y3).mono ?_
        rintro e y5 ⟨rfl, b5⟩
        have HB5' := Lib.hid (bchain HB3'.out b5)
        clear b5
        go_wp2_with fail
        go_ret
        exact ⟨rfl, HB5'.out⟩
    · have q3 : (s.putE == 0) = false := beq_eq_false_iff_ne.2 hp0
      clear hp0
      go_wp2_with fail
      refine (get_any bs a1 len1 cap1 w3 (HLb.out.below HB3.out)).mono ?_
      rintro e y1 ⟨⟨v9, rfl, hV9⟩, b9⟩
      obtain ⟨Y2, hst9, d9, k9⟩ := boxS y1 v9 hV9.is.oneCell
      have HB9 := Lib.hid (bchain (bchain HB3.out b9) d9)
      have HV9 := Lib.hid (hV9.is.below d9)
      clear b9 d9 hV9
      unfold Cm.cv
      have HOk := Lib.hid (get_ok (bs := bs))
      have HZr := Lib.hid (get_zero (bs := bs))
      obtain ⟨⟨s9, x9⟩, hg9⟩ : ∃ q, Cm.get bs = q := ⟨_, rfl⟩
      rw [hg9] at HV9 HOk HZr ⊢
      dsimp only at HV9 HOk HZr ⊢
      clear hg9
      by_cases hx9 : x9 = 0
      · subst hx9
        have HE9 : Hid (s9.putE = 0 ∧ s9.putB = bs) := Lib.hid (by
          obtain ⟨g1, g2, g3, g4⟩ := HOk.out rfl
          have e := putE_ok (s := s9) ⟨g1.lo, g1.hi⟩ (by
            rintro (h | h)
            · rw [g2] at h
              cases h
            · rw [g3] at h
              omega)
          exact ⟨e, (putB_ok e).trans g3⟩)
        go_wp2_with fail
        clear hst9
        refine (put_any s9 v9 Y2 HV9.out).mono ?_
        rintro e y3 ⟨⟨ao3, n3, cap3, rfl, hL3⟩, b3⟩
        rw [HE9.out.1]
        rw [HE9.out.2] at hL3
        have HL3 := Lib.hid hL3
        have HB3' := Lib.hid (bchain HB9.out b3)
        clear b3 hL3
        go_wp2_with fail
        refine (By.same_any bs bs ao3 a1 n3 len1 cap3 cap1 y3 HL3.out (HLb.out.below HB3'.out)).mono ?_
        rintro e y4 ⟨rfl, b4⟩
        rw [show decide (bs = bs) = true from decide_eq_true rfl]
        have HB4' := Lib.hid (bchain HB3'.out b4)
        clear b4
        go_wp2_with fail
        refine (cruns y4).mono ?_
        rintro e y5 ⟨rfl, b5⟩
        have HB5' := Lib.hid (bchain HB4'.out b5)
        clear b5
        go_wp2_with fail
        go_ret
        exact ⟨rfl, HB5'.out⟩
      · have q9 : (x9 != 0) = true := bne_iff_ne.2 hx9
        have hz := HZr.out hx9
        have hk9 : s9.kind = 0 := by rw [hz]; rfl
        have HK9 := Lib.hid hk9
        clear hz hk9
        go_wp2_with fail
        clear hst9
        refine (cmd_kind s9 v9 Y2 HV9.out).mono ?_
        rintro e y3 ⟨rfl, hy3⟩
        have HB3' : Hid (Below w.heap.size w y3) := Lib.hid (by rw [hy3]; exact below_box HB9.out _)
        rw [HK9.out]
        clear hy3
        go_wp2_with fail
        refine (cruns y3).mono ?_
        rintro e y5 ⟨rfl, b5⟩
        have HB5' := Lib.hid (bchain HB3'.out b5)
        clear b5
        go_wp2_with fail
        go_ret
        exact ⟨rfl, HB5'.out⟩
  · rw [ofE_no hk8]
    clear hk8 hsk
    go_wp2_with fail
    clear hst
    refine (get_any bs a1 len1 cap1 W2 (HLb.out.below HB2.out)).mono ?_
    rintro e y1 ⟨⟨v9, rfl, hV9⟩, b9⟩
    obtain ⟨Y2, hst9, d9, k9⟩ := boxS y1 v9 hV9.is.oneCell
    have HB9 := Lib.hid (bchain (bchain HB2.out b9) d9)
    have HV9 := Lib.hid (hV9.is.below d9)
    clear b9 d9 hV9
    unfold Cm.cv
    have HOk := Lib.hid (get_ok (bs := bs))
    have HZr := Lib.hid (get_zero (bs := bs))
    obtain ⟨⟨s9, x9⟩, hg9⟩ : ∃ q, Cm.get bs = q := ⟨_, rfl⟩
    rw [hg9] at HV9 HOk HZr ⊢
    dsimp only at HV9 HOk HZr ⊢
    clear hg9
    by_cases hx9 : x9 = 0
    · subst hx9
      have HE9 : Hid (s9.putE = 0 ∧ s9.putB = bs) := Lib.hid (by
        obtain ⟨g1, g2, g3, g4⟩ := HOk.out rfl
        have e := putE_ok (s := s9) ⟨g1.lo, g1.hi⟩ (by
          rintro (h | h)
          · rw [g2] at h
            cases h
          · rw [g3] at h
            omega)
        exact ⟨e, (putB_ok e).trans g3⟩)
      go_wp2_with fail
      clear hst9
      refine (put_any s9 v9 Y2 HV9.out).mono ?_
      rintro e y3 ⟨⟨ao3, n3, cap3, rfl, hL3⟩, b3⟩
      rw [HE9.out.1]
      rw [HE9.out.2] at hL3
      have HL3 := Lib.hid hL3
      have HB3' := Lib.hid (bchain HB9.out b3)
      clear b3 hL3
      go_wp2_with fail
      refine (By.same_any bs bs ao3 a1 n3 len1 cap3 cap1 y3 HL3.out (HLb.out.below HB3'.out)).mono ?_
      rintro e y4 ⟨rfl, b4⟩
      rw [show decide (bs = bs) = true from decide_eq_true rfl]
      have HB4' := Lib.hid (bchain HB3'.out b4)
      clear b4
      go_wp2_with fail
      refine (cruns y4).mono ?_
      rintro e y5 ⟨rfl, b5⟩
      have HB5' := Lib.hid (bchain HB4'.out b5)
      clear b5
      go_wp2_with fail
      go_ret
      exact ⟨rfl, HB5'.out⟩
    · have q9 : (x9 != 0) = true := bne_iff_ne.2 hx9
      have hz := HZr.out hx9
      have hk9 : s9.kind = 0 := by rw [hz]; rfl
      have HK9 := Lib.hid hk9
      clear hz hk9
      go_wp2_with fail
      clear hst9
      refine (cmd_kind s9 v9 Y2 HV9.out).mono ?_
      rintro e y3 ⟨rfl, hy3⟩
      have HB3' : Hid (Below w.heap.size w y3) := Lib.hid (by rw [hy3]; exact below_box HB9.out _)
      rw [HK9.out]
      clear hy3
      go_wp2_with fail
      refine (cruns y3).mono ?_
      rintro e y5 ⟨rfl, b5⟩
      have HB5' := Lib.hid (bchain HB3'.out b5)
      clear b5
      go_wp2_with fail
      go_ret
      exact ⟨rfl, HB5'.out⟩
end Go.Proofs.Ytndfhnaafaijcaa
