/- THE WALK OF InvoiceBack. (By geniback.py.) -/
import Derived.Test.YthcaecinjmnlbaaIRn
import Derived.Test.YthcaecinjmnlbaaInBk
import Derived.Test.YthcaecinjmnlbaaRfBack
import Derived.Test.YthcaecinjmnlbaaHb
import Derived.Test.YthcaecinjmnlbaaIvO
import Derived.Test.YthcaecinjmnlbaaHh
set_option linter.unusedVariables false
namespace Go.Proofs.Ythcaecinjmnlbaa
open Go.RowKit
open Mem

theorem back_parts {t : Iv.Tot} (h : Iv.backE t = 0) : Mn.err (-t.net) = 0 ∧ Mn.err (-t.tax) = 0 ∧ Mn.err (-t.gross) = 0 ∧ ∀ p ∈ t.parts, Iv.badP p = false := by
  unfold Iv.backE at h
  split at h
  · omega
  · rename_i h1
    split at h
    · omega
    · rename_i h2
      refine ⟨Decidable.byContradiction fun q => h1 (.inl q), Decidable.byContradiction fun q => h1 (.inr (.inl q)), Decidable.byContradiction fun q => h1 (.inr (.inr q)), fun p hp => ?_⟩
      cases hb : Iv.badP p with
      | false => rfl
      | true => exact absurd (List.any_eq_true.2 ⟨p, hp, hb⟩) h2
theorem back_short {t : Iv.Tot} (hs : ∀ r ∈ t.parts, Pt.Short r) : ∀ r ∈ (Iv.backT t).parts, Pt.Short r := by
  unfold Iv.backT
  split
  · rename_i h
    intro r hr
    obtain ⟨p, hp, rfl⟩ := List.mem_map.1 (show r ∈ t.parts.map Iv.negP from hr)
    exact neg_short (hs p hp) ((back_parts h).2.2.2 p hp)
  · intro r hr
    cases hr
theorem back_fit {t : Iv.Tot} {N X G : Int} {ps : List Pt.T} (h : Iv.backE t = 0) (e : (⟨N, X, G, ps⟩ : Iv.Tot) = Iv.back t) : Fit N ∧ Fit X ∧ Fit G := by
  obtain ⟨h1, h2, h3, _⟩ := back_parts h
  unfold Iv.back at e
  simp only [Iv.Tot.mk.injEq] at e
  rw [e.1, e.2.1, e.2.2.1]
  exact ⟨Iv.err_0 h1, Iv.err_0 h2, Iv.err_0 h3⟩
theorem back_again {t : Iv.Tot} (h : Iv.backE t = 0) (hn : Fit t.net) (ht : Fit t.tax) (hg : Fit t.gross) (hs : ∀ r ∈ t.parts, Pt.Short r) : Iv.backE (Iv.back t) = 0 ∧ Iv.backT (Iv.back t) = t := by
  have e : Iv.backE (Iv.back t) = 0 := (Iv.back_twice h).2 ⟨Mn.err_fit hn, Mn.err_fit ht, Mn.err_fit hg, fun p hp => ⟨Mn.err_fit (hs p hp).2.2.1, Mn.err_fit (hs p hp).2.2.2⟩⟩
  refine ⟨e, ?_⟩
  unfold Iv.backT
  rw [if_pos e, Iv.back_back]
theorem mark_short : Pt.Short ⟨.empty, 4, 0, 0⟩ := short_pt (by decide) rfl rfl rfl
set_option maxHeartbeats 4000000 in
theorem invoiceBack_walk (z : Iv.Tot) (ao : Option Addr) (p cap : Nat) (w : World) (hI : Tt.In w z ao p cap) :
    Calls Try.prog 7 #[Tt.val z.net z.tax z.gross (.slice ao p cap)] w fun e w' => e = .returned (.bool true) ∧ Below w.heap.size w w' := by
  obtain ⟨N, X, G, zs⟩ := z
  have HFt := Lib.hid (And.intro hI.net (And.intro hI.tax hI.gross))
  have hcap := hI.ls.reach
  have hfit := hI.ls.fits
  dsimp only at HFt ⊢
  unfold Tt.val
  by_cases h30 : 30 < p
  · obtain ⟨hs0, hL0⟩ := hI.ls.to 30 (by omega)
    obtain ⟨ps, hps⟩ : ∃ ps, zs.take 30 = ps := ⟨_, rfl⟩
    obtain ⟨q, hq⟩ : ∃ q : Nat, 30 = q := ⟨_, rfl⟩
    have hs1 : ∀ u, (Instr.slice 28 (.slice ao p cap) none (some (.int .i64 30)) none).run Try.prog u = .ok (.slice ao q cap) u := fun u => by rw [← hq]; exact hs0 u
    have HL : Hid (Pt.Ls w ao q cap ps) := Lib.hid (by rw [← hq, ← hps]; exact hL0)
    have hq30 : q ≤ 30 := by omega
    have HLn := Lib.hid HL.out.len
    have HSh := Lib.hid HL.out.short
    clear hL0 hps hI hs0 hq
    go_enter Try.func7, Try.ntmps7
    go_wp2_with fail
    obtain ⟨h, hh⟩ : ∃ h, w.heap.size = h := ⟨_, rfl⟩
    have HHw := Lib.hid hh
    have hA0 := Tt.at_box w N X G (.slice ao q cap)
    rw [hh] at hA0
    have HUb := Lib.hid hA0
    have HUa := Lib.hid (Tt.below_own w N X G (.slice ao q cap))
    have HUl := Lib.hid (HL.out.below (Tt.below_own w N X G (.slice ao q cap)))
    clear hA0
    rw [show w.alloc (.cells #[.int .i64 N, .int .i64 X, .int .i64 G, .slice ao q cap] 30) = Tt.box w N X G (.slice ao q cap) from rfl]
    generalize Tt.box w N X G (.slice ao q cap) = U at *
    try rw [hh]
    clear hh
    refine (Pt.roomy ps ⟨.empty, 4, 0, 0⟩ ao q cap U HUl.out (by omega)).mono ?_
    rintro e w1 ⟨rfl, hB1, b1⟩
    obtain ⟨gf, hgf⟩ : ∃ gf, U.heap.size + 1 = gf := ⟨_, rfl⟩
    rw [hgf] at hB1
    rw [hgf]
    clear hgf
    have hF := (Pt.full_ls hB1 HLn.out (by omega) HSh.out (mark_short)).to q (by omega)
    rw [List.take_left' HLn.out.symm] at hF
    obtain ⟨hsl, hFl⟩ := hF
    obtain ⟨V, hV⟩ : ∃ V, w1.alloc (.cells #[.int .i64 N, .int .i64 X, .int .i64 G, .slice (some ⟨gf, 0, none⟩) q (q + 80)] 30) = V := ⟨_, rfl⟩
    have hbV : Below w1.heap.size w1 V := hV ▸ (Below.refl _ _).alloc (Nat.le_refl _) _
    have HV : Hid (Below w.heap.size w V ∧ Tt.At V h N X G (.slice ao q cap) ∧ Pt.Ls V ao q cap ps ∧ Pt.Ls V (some ⟨gf, 0, none⟩) q (q + 80) ps ∧ Pt.Block V gf (ps ++ List.replicate 80 ⟨.empty, 4, 0, 0⟩)) := Lib.hid ⟨bchain (bchain HUa.out b1) hbV, (HUb.out.below b1).below hbV, (HUl.out.below b1).below hbV, hFl.below hbV, hB1.below hbV⟩
    have HVa : Hid (Tt.At V w1.heap.size N X G (.slice (some ⟨gf, 0, none⟩) q (q + 80))) := Lib.hid (hV ▸ Tt.at_box w1 N X G (.slice (some ⟨gf, 0, none⟩) q (q + 80)))
    have HVs := Lib.hid hV
    obtain ⟨t0, t1, t2, t3⟩ := (HUb.out.below b1).cells
    obtain ⟨u0, u1, u2, u3⟩ := ((HUb.out.below b1).grow (.cells #[.int .i64 N, .int .i64 X, .int .i64 G, .slice ao q cap] 30)).cells
    clear hB1 hFl b1 HUa HUb HUl hV hbV
    go_wp2_with fail
    rw [HVs.out]
    clear HVs t0 t1 t2 t3 u0 u1 u2 u3
    generalize w1.heap.size = go at *
    refine (inv_back ⟨N, X, G, ps⟩ (some ⟨gf, 0, none⟩) q (q + 80) V HV.out.2.2.2.1 HFt.out.1 HFt.out.2.1 HFt.out.2.2 (by omega)).mono ?_
    rintro e w2 ⟨v1, rfl, hO1, b2⟩
    obtain ⟨E, hE⟩ : ∃ E, Iv.backE ⟨N, X, G, ps⟩ = E := ⟨_, rfl⟩
    obtain ⟨⟨N1, X1, G1, ps1⟩, hT⟩ : ∃ T, Iv.backT ⟨N, X, G, ps⟩ = T := ⟨_, rfl⟩
    rw [hE, hT]
    rw [hT] at hO1
    have HE := Lib.hid hE
    have HT := Lib.hid hT
    have HS1 : Hid (∀ r ∈ ps1, Pt.Short r) := Lib.hid (by
      have h := back_short (t := ⟨N, X, G, ps⟩) HSh.out
      rw [hT] at h
      exact h)
    obtain ⟨xo, xc, hx, hX1, _⟩ := Pt.own_ls hO1 HS1.out
    subst hx
    obtain ⟨k1, hk1⟩ : ∃ k1, ps1.length = k1 := ⟨_, rfl⟩
    have HK1 := Lib.hid hk1
    rw [hk1] at hX1
    rw [hk1]
    obtain ⟨Y, hY⟩ : ∃ Y, w2.alloc (.cells #[.int .i64 N1, .int .i64 X1, .int .i64 G1, .slice xo k1 xc] 30) = Y := ⟨_, rfl⟩
    have hbY : Below w2.heap.size w2 Y := hY ▸ (Below.refl _ _).alloc (Nat.le_refl _) _
    have hb3 := bchain b2 hbY
    have HYa : Hid (Tt.At Y w2.heap.size N1 X1 G1 (.slice xo k1 xc)) := Lib.hid (hY ▸ Tt.at_box w2 N1 X1 G1 (.slice xo k1 xc))
    have HYf : Hid (Below w.heap.size w Y ∧ Tt.At Y h N X G (.slice ao q cap) ∧ Pt.Ls Y ao q cap ps ∧ Pt.Ls Y xo k1 xc ps1 ∧ Pt.Block Y gf (ps ++ List.replicate 80 ⟨.empty, 4, 0, 0⟩)) := Lib.hid ⟨bchain HV.out.1 hb3, HV.out.2.1.below hb3, HV.out.2.2.1.below hb3, hX1.below hbY, HV.out.2.2.2.2.below hb3⟩
    have HYs := Lib.hid hY
    obtain ⟨u0, u1, u2, u3⟩ := HYf.out.2.1.cells
    rw [← hY] at u0 u1 u2 u3
    unfold Tt.val
    clear hE hT hO1 b2 hX1 hk1 hY hbY hb3 HV HVa
    go_wp2_with fail
    rw [HYs.out]
    clear HYs u0 u1 u2 u3
    obtain ⟨ga, hga⟩ : ∃ ga, w2.heap.size = ga := ⟨_, rfl⟩
    rw [hga] at HYa
    try rw [hga]
    clear hga
    refine (rback_any ⟨N, X, G, ps⟩ ao q cap Y HYf.out.2.2.1 HFt.out.1 HFt.out.2.1 HFt.out.2.2 (by omega)).mono ?_
    rintro e w3 ⟨v2, rfl, hO2, b3⟩
    rw [HE.out, HT.out]
    rw [HT.out] at hO2
    obtain ⟨yo, yc, hy, hX2, _⟩ := Pt.own_ls hO2 HS1.out
    subst hy
    rw [HK1.out] at hX2
    rw [HK1.out]
    obtain ⟨Z, hZ⟩ : ∃ Z, w3.alloc (.cells #[.int .i64 N1, .int .i64 X1, .int .i64 G1, .slice yo k1 yc] 30) = Z := ⟨_, rfl⟩
    have hbZ : Below w3.heap.size w3 Z := hZ ▸ (Below.refl _ _).alloc (Nat.le_refl _) _
    have hb4 := bchain b3 hbZ
    have HZa : Hid (Tt.At Z ga N1 X1 G1 (.slice xo k1 xc)) := Lib.hid (HYa.out.below hb4)
    have HZb : Hid (Tt.At Z w3.heap.size N1 X1 G1 (.slice yo k1 yc)) := Lib.hid (hZ ▸ Tt.at_box w3 N1 X1 G1 (.slice yo k1 yc))
    have HZf : Hid (Below w.heap.size w Z ∧ Tt.At Z h N X G (.slice ao q cap) ∧ Pt.Ls Z ao q cap ps ∧ Pt.Ls Z xo k1 xc ps1 ∧ Pt.Ls Z yo k1 yc ps1 ∧ Pt.Block Z gf (ps ++ List.replicate 80 ⟨.empty, 4, 0, 0⟩)) := Lib.hid ⟨bchain HYf.out.1 hb4, HYf.out.2.1.below hb4, HYf.out.2.2.1.below hb4, HYf.out.2.2.2.1.below hb4, hX2.below hbZ, HYf.out.2.2.2.2.below hb4⟩
    have HZs := Lib.hid hZ
    obtain ⟨a0, a1, a2, a3⟩ := HZa.out.cells
    obtain ⟨e0, e1, e2, e3⟩ := HZb.out.cells
    rw [← hZ] at a0 a1 a2 a3 e0 e1 e2 e3
    unfold Tt.val
    clear hO2 b3 hX2 hZ hbZ hb4 HYa HYf
    go_wp2_with fail
    rw [HZs.out]
    clear HZs a0 a1 a2 a3 e0 e1 e2 e3
    refine (totals_same ⟨N1, X1, G1, ps1⟩ xo yo k1 xc yc Z _ (Below.refl _ _) HZf.out.2.2.2.1 HZf.out.2.2.2.2.1).mono ?_
    rintro e w5 ⟨rfl, b5⟩
    have HG : Hid (Below w.heap.size w w5 ∧ Tt.At w5 h N X G (.slice ao q cap) ∧ Pt.Ls w5 ao q cap ps ∧ Pt.Ls w5 xo k1 xc ps1 ∧ Tt.At w5 ga N1 X1 G1 (.slice xo k1 xc)) := Lib.hid ⟨bchain HZf.out.1 b5, HZf.out.2.1.below b5, HZf.out.2.2.1.below b5, HZf.out.2.2.2.1.below b5, HZa.out.below b5⟩
    have HGb := Lib.hid (HZf.out.2.2.2.2.2.below b5)
    have hEE : (E != E) = false := by simp
    clear b5 HZa HZb HZf
    obtain ⟨t0, t1, t2, t3⟩ := HG.out.2.1.cells
    go_wp2_with fail
    refine (Pt.intact ps ⟨.empty, 4, 0, 0⟩ ao gf q cap w5 _ (Below.refl _ _) HG.out.2.2.1 HGb.out mark_short (by omega)).mono ?_
    rintro e w6 ⟨rfl, b6⟩
    have HJ : Hid (Below w.heap.size w w6 ∧ Tt.At w6 h N X G (.slice ao q cap) ∧ Pt.Ls w6 ao q cap ps ∧ Pt.Ls w6 xo k1 xc ps1 ∧ Tt.At w6 ga N1 X1 G1 (.slice xo k1 xc)) := Lib.hid ⟨bchain HG.out.1 b6, HG.out.2.1.below b6, HG.out.2.2.1.below b6, HG.out.2.2.2.1.below b6, HG.out.2.2.2.2.below b6⟩
    clear b6 HG HGb t0 t1 t2 t3
    by_cases hE0 : E = 0
    · subst hE0
      have HBk : Hid ((⟨N1, X1, G1, ps1⟩ : Iv.Tot) = Iv.back ⟨N, X, G, ps⟩) := Lib.hid (by
        have h := HT.out
        unfold Iv.backT at h
        rw [if_pos HE.out] at h
        exact h.symm)
      have HF1 := Lib.hid (back_fit HE.out HBk.out)
      have HB2 := Lib.hid (back_again (t := ⟨N, X, G, ps⟩) HE.out HFt.out.1 HFt.out.2.1 HFt.out.2.2 HSh.out)
      rw [← HBk.out] at HB2
      obtain ⟨a0, a1, a2, a3⟩ := HJ.out.2.2.2.2.cells
      go_wp2_with fail
      refine (inv_back ⟨N1, X1, G1, ps1⟩ xo k1 xc w6 HJ.out.2.2.2.1 HF1.out.1 HF1.out.2.1 HF1.out.2.2 (by have := HJ.out.2.2.2.1.len; have := HF1.out; have h := congrArg (fun t => t.parts.length) HBk.out; simp only [Iv.back, List.length_map] at h; have := HLn.out; omega)).mono ?_
      rintro e w7 ⟨v3, rfl, hO3, b7⟩
      rw [HB2.out.1, HB2.out.2]
      rw [HB2.out.2] at hO3
      obtain ⟨zo, zc, hz, hX3, _⟩ := Pt.own_ls hO3 HSh.out
      subst hz
      have hq : ps.length = q := HLn.out.symm
      dsimp only at hX3 ⊢
      rw [hq] at hX3
      rw [hq]
      obtain ⟨Q, hQ⟩ : ∃ Q, w7.alloc (.cells #[.int .i64 N, .int .i64 X, .int .i64 G, .slice zo q zc] 30) = Q := ⟨_, rfl⟩
      have hbQ : Below w7.heap.size w7 Q := hQ ▸ (Below.refl _ _).alloc (Nat.le_refl _) _
      have hb8 := bchain b7 hbQ
      have HQa : Hid (Tt.At Q w7.heap.size N X G (.slice zo q zc)) := Lib.hid (hQ ▸ Tt.at_box w7 N X G (.slice zo q zc))
      have HQf : Hid (Below w.heap.size w Q ∧ Tt.At Q h N X G (.slice ao q cap) ∧ Pt.Ls Q ao q cap ps ∧ Pt.Ls Q zo q zc ps) := Lib.hid ⟨bchain HJ.out.1 hb8, HJ.out.2.1.below hb8, HJ.out.2.2.1.below hb8, hX3.below hbQ⟩
      have HQs := Lib.hid hQ
      clear a0 a1 a2 a3
      obtain ⟨a0, a1, a2, a3⟩ := HQf.out.2.1.cells
      obtain ⟨e0, e1, e2, e3⟩ := HQa.out.cells
      rw [← hQ] at a0 a1 a2 a3 e0 e1 e2 e3
      unfold Tt.val
      clear hO3 b7 hX3 hQ hbQ hb8 HJ hq
      go_wp2_with fail
      rw [HQs.out]
      refine (totals_same ⟨N, X, G, ps⟩ zo ao q zc cap w _ HQf.out.1 HQf.out.2.2.2 HQf.out.2.2.1).mono ?_
      rintro e w8 ⟨rfl, b8⟩
      have HB8 := Lib.hid b8
      clear b8 a0 a1 a2 a3 e0 e1 e2 e3
      go_wp2_with fail
      refine (iruns w _ HB8.out).mono ?_
      rintro e w9 ⟨rfl, b9⟩
      have HB9 := Lib.hid b9
      clear b9
      go_wp2_with fail
      go_ret
      exact ⟨rfl, HB9.out⟩
    · have hne : (E != 0) = true := bne_iff_ne.2 hE0
      clear hE0
      go_wp2_with fail
      refine (iruns w _ HJ.out.1).mono ?_
      rintro e w9 ⟨rfl, b9⟩
      have HB9 := Lib.hid b9
      clear b9
      go_wp2_with fail
      go_ret
      exact ⟨rfl, HB9.out⟩
  · obtain ⟨ps, hps⟩ : ∃ ps, zs = ps := ⟨_, rfl⟩
    have HL : Hid (Pt.Ls w ao p cap ps) := Lib.hid (hps ▸ hI.ls)
    have HLn := Lib.hid HL.out.len
    have HSh := Lib.hid HL.out.short
    clear hps hI
    go_enter Try.func7, Try.ntmps7
    go_wp2_with fail
    obtain ⟨h, hh⟩ : ∃ h, w.heap.size = h := ⟨_, rfl⟩
    have HHw := Lib.hid hh
    have hA0 := Tt.at_box w N X G (.slice ao p cap)
    rw [hh] at hA0
    have HUb := Lib.hid hA0
    have HUa := Lib.hid (Tt.below_own w N X G (.slice ao p cap))
    have HUl := Lib.hid (HL.out.below (Tt.below_own w N X G (.slice ao p cap)))
    clear hA0
    rw [show w.alloc (.cells #[.int .i64 N, .int .i64 X, .int .i64 G, .slice ao p cap] 30) = Tt.box w N X G (.slice ao p cap) from rfl]
    generalize Tt.box w N X G (.slice ao p cap) = U at *
    try rw [hh]
    clear hh
    refine (Pt.roomy ps ⟨.empty, 4, 0, 0⟩ ao p cap U HUl.out (by omega)).mono ?_
    rintro e w1 ⟨rfl, hB1, b1⟩
    obtain ⟨gf, hgf⟩ : ∃ gf, U.heap.size + 1 = gf := ⟨_, rfl⟩
    rw [hgf] at hB1
    rw [hgf]
    clear hgf
    have hF := (Pt.full_ls hB1 HLn.out (by omega) HSh.out (mark_short)).to p (by omega)
    rw [List.take_left' HLn.out.symm] at hF
    obtain ⟨hsl, hFl⟩ := hF
    obtain ⟨V, hV⟩ : ∃ V, w1.alloc (.cells #[.int .i64 N, .int .i64 X, .int .i64 G, .slice (some ⟨gf, 0, none⟩) p (p + 80)] 30) = V := ⟨_, rfl⟩
    have hbV : Below w1.heap.size w1 V := hV ▸ (Below.refl _ _).alloc (Nat.le_refl _) _
    have HV : Hid (Below w.heap.size w V ∧ Tt.At V h N X G (.slice ao p cap) ∧ Pt.Ls V ao p cap ps ∧ Pt.Ls V (some ⟨gf, 0, none⟩) p (p + 80) ps ∧ Pt.Block V gf (ps ++ List.replicate 80 ⟨.empty, 4, 0, 0⟩)) := Lib.hid ⟨bchain (bchain HUa.out b1) hbV, (HUb.out.below b1).below hbV, (HUl.out.below b1).below hbV, hFl.below hbV, hB1.below hbV⟩
    have HVa : Hid (Tt.At V w1.heap.size N X G (.slice (some ⟨gf, 0, none⟩) p (p + 80))) := Lib.hid (hV ▸ Tt.at_box w1 N X G (.slice (some ⟨gf, 0, none⟩) p (p + 80)))
    have HVs := Lib.hid hV
    obtain ⟨t0, t1, t2, t3⟩ := (HUb.out.below b1).cells
    obtain ⟨u0, u1, u2, u3⟩ := ((HUb.out.below b1).grow (.cells #[.int .i64 N, .int .i64 X, .int .i64 G, .slice ao p cap] 30)).cells
    clear hB1 hFl b1 HUa HUb HUl hV hbV
    go_wp2_with fail
    rw [HVs.out]
    clear HVs t0 t1 t2 t3 u0 u1 u2 u3
    generalize w1.heap.size = go at *
    refine (inv_back ⟨N, X, G, ps⟩ (some ⟨gf, 0, none⟩) p (p + 80) V HV.out.2.2.2.1 HFt.out.1 HFt.out.2.1 HFt.out.2.2 (by omega)).mono ?_
    rintro e w2 ⟨v1, rfl, hO1, b2⟩
    obtain ⟨E, hE⟩ : ∃ E, Iv.backE ⟨N, X, G, ps⟩ = E := ⟨_, rfl⟩
    obtain ⟨⟨N1, X1, G1, ps1⟩, hT⟩ : ∃ T, Iv.backT ⟨N, X, G, ps⟩ = T := ⟨_, rfl⟩
    rw [hE, hT]
    rw [hT] at hO1
    have HE := Lib.hid hE
    have HT := Lib.hid hT
    have HS1 : Hid (∀ r ∈ ps1, Pt.Short r) := Lib.hid (by
      have h := back_short (t := ⟨N, X, G, ps⟩) HSh.out
      rw [hT] at h
      exact h)
    obtain ⟨xo, xc, hx, hX1, _⟩ := Pt.own_ls hO1 HS1.out
    subst hx
    obtain ⟨k1, hk1⟩ : ∃ k1, ps1.length = k1 := ⟨_, rfl⟩
    have HK1 := Lib.hid hk1
    rw [hk1] at hX1
    rw [hk1]
    obtain ⟨Y, hY⟩ : ∃ Y, w2.alloc (.cells #[.int .i64 N1, .int .i64 X1, .int .i64 G1, .slice xo k1 xc] 30) = Y := ⟨_, rfl⟩
    have hbY : Below w2.heap.size w2 Y := hY ▸ (Below.refl _ _).alloc (Nat.le_refl _) _
    have hb3 := bchain b2 hbY
    have HYa : Hid (Tt.At Y w2.heap.size N1 X1 G1 (.slice xo k1 xc)) := Lib.hid (hY ▸ Tt.at_box w2 N1 X1 G1 (.slice xo k1 xc))
    have HYf : Hid (Below w.heap.size w Y ∧ Tt.At Y h N X G (.slice ao p cap) ∧ Pt.Ls Y ao p cap ps ∧ Pt.Ls Y xo k1 xc ps1 ∧ Pt.Block Y gf (ps ++ List.replicate 80 ⟨.empty, 4, 0, 0⟩)) := Lib.hid ⟨bchain HV.out.1 hb3, HV.out.2.1.below hb3, HV.out.2.2.1.below hb3, hX1.below hbY, HV.out.2.2.2.2.below hb3⟩
    have HYs := Lib.hid hY
    obtain ⟨u0, u1, u2, u3⟩ := HYf.out.2.1.cells
    rw [← hY] at u0 u1 u2 u3
    unfold Tt.val
    clear hE hT hO1 b2 hX1 hk1 hY hbY hb3 HV HVa
    go_wp2_with fail
    rw [HYs.out]
    clear HYs u0 u1 u2 u3
    obtain ⟨ga, hga⟩ : ∃ ga, w2.heap.size = ga := ⟨_, rfl⟩
    rw [hga] at HYa
    try rw [hga]
    clear hga
    refine (rback_any ⟨N, X, G, ps⟩ ao p cap Y HYf.out.2.2.1 HFt.out.1 HFt.out.2.1 HFt.out.2.2 (by omega)).mono ?_
    rintro e w3 ⟨v2, rfl, hO2, b3⟩
    rw [HE.out, HT.out]
    rw [HT.out] at hO2
    obtain ⟨yo, yc, hy, hX2, _⟩ := Pt.own_ls hO2 HS1.out
    subst hy
    rw [HK1.out] at hX2
    rw [HK1.out]
    obtain ⟨Z, hZ⟩ : ∃ Z, w3.alloc (.cells #[.int .i64 N1, .int .i64 X1, .int .i64 G1, .slice yo k1 yc] 30) = Z := ⟨_, rfl⟩
    have hbZ : Below w3.heap.size w3 Z := hZ ▸ (Below.refl _ _).alloc (Nat.le_refl _) _
    have hb4 := bchain b3 hbZ
    have HZa : Hid (Tt.At Z ga N1 X1 G1 (.slice xo k1 xc)) := Lib.hid (HYa.out.below hb4)
    have HZb : Hid (Tt.At Z w3.heap.size N1 X1 G1 (.slice yo k1 yc)) := Lib.hid (hZ ▸ Tt.at_box w3 N1 X1 G1 (.slice yo k1 yc))
    have HZf : Hid (Below w.heap.size w Z ∧ Tt.At Z h N X G (.slice ao p cap) ∧ Pt.Ls Z ao p cap ps ∧ Pt.Ls Z xo k1 xc ps1 ∧ Pt.Ls Z yo k1 yc ps1 ∧ Pt.Block Z gf (ps ++ List.replicate 80 ⟨.empty, 4, 0, 0⟩)) := Lib.hid ⟨bchain HYf.out.1 hb4, HYf.out.2.1.below hb4, HYf.out.2.2.1.below hb4, HYf.out.2.2.2.1.below hb4, hX2.below hbZ, HYf.out.2.2.2.2.below hb4⟩
    have HZs := Lib.hid hZ
    obtain ⟨a0, a1, a2, a3⟩ := HZa.out.cells
    obtain ⟨e0, e1, e2, e3⟩ := HZb.out.cells
    rw [← hZ] at a0 a1 a2 a3 e0 e1 e2 e3
    unfold Tt.val
    clear hO2 b3 hX2 hZ hbZ hb4 HYa HYf
    go_wp2_with fail
    rw [HZs.out]
    clear HZs a0 a1 a2 a3 e0 e1 e2 e3
    refine (totals_same ⟨N1, X1, G1, ps1⟩ xo yo k1 xc yc Z _ (Below.refl _ _) HZf.out.2.2.2.1 HZf.out.2.2.2.2.1).mono ?_
    rintro e w5 ⟨rfl, b5⟩
    have HG : Hid (Below w.heap.size w w5 ∧ Tt.At w5 h N X G (.slice ao p cap) ∧ Pt.Ls w5 ao p cap ps ∧ Pt.Ls w5 xo k1 xc ps1 ∧ Tt.At w5 ga N1 X1 G1 (.slice xo k1 xc)) := Lib.hid ⟨bchain HZf.out.1 b5, HZf.out.2.1.below b5, HZf.out.2.2.1.below b5, HZf.out.2.2.2.1.below b5, HZa.out.below b5⟩
    have HGb := Lib.hid (HZf.out.2.2.2.2.2.below b5)
    have hEE : (E != E) = false := by simp
    clear b5 HZa HZb HZf
    obtain ⟨t0, t1, t2, t3⟩ := HG.out.2.1.cells
    go_wp2_with fail
    refine (Pt.intact ps ⟨.empty, 4, 0, 0⟩ ao gf p cap w5 _ (Below.refl _ _) HG.out.2.2.1 HGb.out mark_short (by omega)).mono ?_
    rintro e w6 ⟨rfl, b6⟩
    have HJ : Hid (Below w.heap.size w w6 ∧ Tt.At w6 h N X G (.slice ao p cap) ∧ Pt.Ls w6 ao p cap ps ∧ Pt.Ls w6 xo k1 xc ps1 ∧ Tt.At w6 ga N1 X1 G1 (.slice xo k1 xc)) := Lib.hid ⟨bchain HG.out.1 b6, HG.out.2.1.below b6, HG.out.2.2.1.below b6, HG.out.2.2.2.1.below b6, HG.out.2.2.2.2.below b6⟩
    clear b6 HG HGb t0 t1 t2 t3
    by_cases hE0 : E = 0
    · subst hE0
      have HBk : Hid ((⟨N1, X1, G1, ps1⟩ : Iv.Tot) = Iv.back ⟨N, X, G, ps⟩) := Lib.hid (by
        have h := HT.out
        unfold Iv.backT at h
        rw [if_pos HE.out] at h
        exact h.symm)
      have HF1 := Lib.hid (back_fit HE.out HBk.out)
      have HB2 := Lib.hid (back_again (t := ⟨N, X, G, ps⟩) HE.out HFt.out.1 HFt.out.2.1 HFt.out.2.2 HSh.out)
      rw [← HBk.out] at HB2
      obtain ⟨a0, a1, a2, a3⟩ := HJ.out.2.2.2.2.cells
      go_wp2_with fail
      refine (inv_back ⟨N1, X1, G1, ps1⟩ xo k1 xc w6 HJ.out.2.2.2.1 HF1.out.1 HF1.out.2.1 HF1.out.2.2 (by have := HJ.out.2.2.2.1.len; have := HF1.out; have h := congrArg (fun t => t.parts.length) HBk.out; simp only [Iv.back, List.length_map] at h; have := HLn.out; omega)).mono ?_
      rintro e w7 ⟨v3, rfl, hO3, b7⟩
      rw [HB2.out.1, HB2.out.2]
      rw [HB2.out.2] at hO3
      obtain ⟨zo, zc, hz, hX3, _⟩ := Pt.own_ls hO3 HSh.out
      subst hz
      have hq : ps.length = p := HLn.out.symm
      dsimp only at hX3 ⊢
      rw [hq] at hX3
      rw [hq]
      obtain ⟨Q, hQ⟩ : ∃ Q, w7.alloc (.cells #[.int .i64 N, .int .i64 X, .int .i64 G, .slice zo p zc] 30) = Q := ⟨_, rfl⟩
      have hbQ : Below w7.heap.size w7 Q := hQ ▸ (Below.refl _ _).alloc (Nat.le_refl _) _
      have hb8 := bchain b7 hbQ
      have HQa : Hid (Tt.At Q w7.heap.size N X G (.slice zo p zc)) := Lib.hid (hQ ▸ Tt.at_box w7 N X G (.slice zo p zc))
      have HQf : Hid (Below w.heap.size w Q ∧ Tt.At Q h N X G (.slice ao p cap) ∧ Pt.Ls Q ao p cap ps ∧ Pt.Ls Q zo p zc ps) := Lib.hid ⟨bchain HJ.out.1 hb8, HJ.out.2.1.below hb8, HJ.out.2.2.1.below hb8, hX3.below hbQ⟩
      have HQs := Lib.hid hQ
      clear a0 a1 a2 a3
      obtain ⟨a0, a1, a2, a3⟩ := HQf.out.2.1.cells
      obtain ⟨e0, e1, e2, e3⟩ := HQa.out.cells
      rw [← hQ] at a0 a1 a2 a3 e0 e1 e2 e3
      unfold Tt.val
      clear hO3 b7 hX3 hQ hbQ hb8 HJ hq
      go_wp2_with fail
      rw [HQs.out]
      refine (totals_same ⟨N, X, G, ps⟩ zo ao p zc cap w _ HQf.out.1 HQf.out.2.2.2 HQf.out.2.2.1).mono ?_
      rintro e w8 ⟨rfl, b8⟩
      have HB8 := Lib.hid b8
      clear b8 a0 a1 a2 a3 e0 e1 e2 e3
      go_wp2_with fail
      refine (iruns w _ HB8.out).mono ?_
      rintro e w9 ⟨rfl, b9⟩
      have HB9 := Lib.hid b9
      clear b9
      go_wp2_with fail
      go_ret
      exact ⟨rfl, HB9.out⟩
    · have hne : (E != 0) = true := bne_iff_ne.2 hE0
      clear hE0
      go_wp2_with fail
      refine (iruns w _ HJ.out.1).mono ?_
      rintro e w9 ⟨rfl, b9⟩
      have HB9 := Lib.hid b9
      clear b9
      go_wp2_with fail
      go_ret
      exact ⟨rfl, HB9.out⟩
end Go.Proofs.Ythcaecinjmnlbaa
