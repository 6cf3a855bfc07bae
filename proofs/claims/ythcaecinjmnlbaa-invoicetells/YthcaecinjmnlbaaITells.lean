/- THE WALK OF InvoiceTells. (By genitells.py.) -/
import Derived.Test.YthcaecinjmnlbaaIRn
import Derived.Test.YthcaecinjmnlbaaRfTot
import Derived.Test.YthcaecinjmnlbaaHb
import Derived.Test.YthcaecinjmnlbaaInS
set_option maxRecDepth 100000
set_option linter.unusedVariables false
namespace Go.Proofs.Ythcaecinjmnlbaa
open Go.RowKit
open Mem (heap_old heap_next)
open Vt (Rt)

theorem markL_short : Ln.Short ⟨.empty, .empty, 0, 3⟩ := short_ln (by decide) (by decide) rfl rfl
set_option maxHeartbeats 4000000 in
theorem invoiceTells_walk (rs : List Rt) (ao : Option Addr) (n ca : Nat) (y m d : Int) (ls : List Ln.T) (bo : Option Addr) (k cb : Nat) (w : World) (hR : Rts w ao n ca rs) (hy : Fit y) (hm : Fit m) (hd : Fit d) (hL : Ln.Ls w bo k cb ls) :
    Calls Try.prog 4 #[.slice ao n ca, dayV y m d, .slice bo k cb] w fun e w' => e = .returned (.bool true) ∧ Below w.heap.size w w' := by
  have HFt := Lib.hid (And.intro hy (And.intro hm hd))
  obtain ⟨U, hU⟩ : ∃ U, w.alloc (.cells #[.int .i64 y, .int .i64 m, .int .i64 d] 23) = U := ⟨_, rfl⟩
  have hbU : Below w.heap.size w U := hU ▸ (Below.refl _ _).alloc (Nat.le_refl _) _
  have hD : DayC U w.heap.size y m d := hU ▸ dayC_box w y m d
  have HR := Lib.hid (hR.below hbU)
  have HL := Lib.hid (hL.below hbU)
  have HD := Lib.hid hD
  have HBU := Lib.hid hbU
  have HUs := Lib.hid hU
  obtain ⟨g, hg⟩ : ∃ g, w.heap.size = g := ⟨_, rfl⟩
  have HGw := Lib.hid hg
  rw [hg] at HD
  clear hU hbU hD hR hL hy hm hd
  unfold dayV
  go_enter Try.func4, Try.ntmps4
  go_wp2_with fail
  rw [HUs.out]
  try rw [hg]
  clear hg HUs
  refine (few_any rs ls ao bo n ca k cb U HR.out HL.out).mono ?_
  rintro e w1 ⟨⟨n', m', rfl, hR1, hn1, hL1, hm1⟩, hw1⟩
  subst hw1
  obtain ⟨rs1, hrs⟩ : ∃ rs1, rs.take 30 = rs1 := ⟨_, rfl⟩
  obtain ⟨ls1, hls⟩ : ∃ ls1, ls.take 20 = ls1 := ⟨_, rfl⟩
  rw [hrs] at hR1
  rw [hls] at hL1
  have HR1 := Lib.hid hR1
  have HL1 := Lib.hid hL1
  have HLn := Lib.hid hL1.len
  have hfit := hL1.fits
  have hcap := hL1.reach
  have hfit2 := hR1.fits
  have hcap2 := hR1.reach
  clear hR1 hL1 hrs hls HR HL
  go_wp2_with fail
  refine (Ln.roomy ls1 ⟨.empty, .empty, 0, 3⟩ bo m' cb w1 HL1.out (by omega)).mono ?_
  rintro e w2 ⟨rfl, hB2, b2⟩
  obtain ⟨gf, hgf⟩ : ∃ gf, w1.heap.size + 1 = gf := ⟨_, rfl⟩
  rw [hgf] at hB2
  rw [hgf]
  clear hgf
  have hF := (Ln.full_ls hB2 HLn.out (by omega) HL1.out.short markL_short).to m' (by omega)
  rw [List.take_left' HLn.out.symm] at hF
  obtain ⟨hsl, hFl⟩ := hF
  have HFl := Lib.hid hFl
  have HB2 := Lib.hid hB2
  have HIs : Hid (ISt w w2 g y m d ao n' ca rs1) := Lib.hid ⟨bchain HBU.out b2, HD.out.below b2, HR1.out.below b2⟩
  have HL2 := Lib.hid (HL1.out.below b2)
  obtain ⟨E, hE⟩ : ∃ E, Iv.totE rs1 y m d ls1 = E := ⟨_, rfl⟩
  obtain ⟨⟨N, T, S, ps⟩, hT⟩ : ∃ X, Iv.totT rs1 y m d ls1 = X := ⟨_, rfl⟩
  have HE := Lib.hid hE
  have HT := Lib.hid hT
  have HPs : Hid (∀ r ∈ ps, Pt.Short r) := Lib.hid (by
    have h := totT_short (rs := rs1) (y := y) (m := m) (d := d) (ls := ls1) HR1.out.short HL1.out.short
    rw [hT] at h
    exact h)
  clear hB2 hFl b2 hE hT HD HR1 HL1 HBU
  go_wp2_with fail
  go_cut [8, 9] (fun p e wx => ∃ (b : Nat) (v : Value), p = .pointer (some ⟨b, 0, none⟩) ∧ e = .int .i64 E ∧ Hid (Held w2 wx b N T S v ps))
  case first =>
    have I0 := HIs.out
    have lx : ∀ u, Below w2.heap.size w2 u → Below w2.heap.size w2 u ∧ u.cell? ⟨g, 0, none⟩ = some (.int .i64 y) ∧ u.cell? ⟨g, 1, none⟩ = some (.int .i64 m) ∧ u.cell? ⟨g, 2, none⟩ = some (.int .i64 d) := fun u h => ⟨h, (HIs.out.below h).day⟩
    go_region_held3 (fun u => Below w2.heap.size w2 u ∧ u.cell? ⟨g, 0, none⟩ = some (.int .i64 y) ∧ u.cell? ⟨g, 1, none⟩ = some (.int .i64 m) ∧ u.cell? ⟨g, 2, none⟩ = some (.int .i64 d)) (first | with_reducible assumption | (apply lx; repeat (first | with_reducible assumption | with_reducible apply below_box | with_reducible apply Below.drew | with_reducible apply Mem.bset | with_reducible exact Below.refl _ _ | omega)) | fail) (first | (go_at_call 10; refine (tot_run rs1 ls1 y m d E N T S ps w2 _ g w _ _ n' m' ca (m' + 80) HE.out HT.out I0 (And.left (by assumption)) (HFl.out.below (And.left (by assumption))) HFt.out.1 HFt.out.2.1 HFt.out.2.2).mono ?_; rintro e wt ⟨v, rfl, hO, b⟩; have hBx := bchain (And.left (by assumption)) b; have s2 := lx _ hBx; have z2 := s2.1.size; (first | (have D : Tt.At wt _ 0 0 0 (.slice none 0 0) := (b.block _ (lt1 _ _)).trans (heap_alloc_new _ _); have DB := fun a1 => lt1 w2 a1) | skip); have hO2 := Pt.own_mono hO (Below.size (And.left (by assumption))); obtain ⟨vo, vn, vc, rfl⟩ := Pt.own_slice hO; (try (obtain ⟨q0, q1, q2, q3⟩ := D.cells; have p0 := D.frozen 0; have p1 := D.frozen 1; have p2 := D.frozen 2; have p3 := D.frozen 3))) | fail)
    all_goals (try go_wp2_with fail)
    all_goals go_meet
    all_goals first | exact ⟨_, _, rfl, rfl, Lib.hid (held_set hBx D hO (DB _) (by omega))⟩ | exact ⟨_, _, rfl, rfl, Lib.hid (held_new hBx hO2 (Nat.le_refl _))⟩
  case rest =>
    obtain ⟨b1, v1, rfl, rfl, H1⟩ := hcut
    have HI1 := Lib.hid (HIs.out.below H1.out.1)
    have HL3 := Lib.hid (HL2.out.below H1.out.1)
    have HB3 := Lib.hid (HB2.out.below H1.out.1)
    obtain ⟨c0, c1, c2⟩ := HI1.out.day
    go_wp2_with fail
    refine (rtotal_any rs1 ls1 ao bo n' ca m' cb y m d _ HI1.out.tab HL3.out).mono ?_
    rintro e w4 ⟨v2, rfl, hO2, b4⟩
    rw [HE.out, HT.out]
    rw [HT.out] at hO2
    obtain ⟨xo, xc, hx, hX, _⟩ := Pt.own_ls H1.out.2.2 HPs.out
    obtain ⟨yo, yc, hy, hY, _⟩ := Pt.own_ls hO2 HPs.out
    subst hx hy
    obtain ⟨p, hp⟩ : ∃ p, ps.length = p := ⟨_, rfl⟩
    have h1A := H1.out.2.1
    rw [hp] at hX hY h1A ⊢
    obtain ⟨V, hV⟩ : ∃ V, w4.alloc (.cells #[.int .i64 N, .int .i64 T, .int .i64 S, .slice yo p yc] 30) = V := ⟨_, rfl⟩
    have hbV : Below w4.heap.size w4 V := hV ▸ (Below.refl _ _).alloc (Nat.le_refl _) _
    have hb5 := bchain b4 hbV
    have HA1 := Lib.hid (h1A.below hb5)
    have HA2 : Hid (Tt.At V w4.heap.size N T S (.slice yo p yc)) := Lib.hid (hV ▸ Tt.at_box w4 N T S (.slice yo p yc))
    have HF : Hid (Below w.heap.size w V ∧ Pt.Ls V xo p xc ps ∧ Pt.Ls V yo p yc ps ∧ Ln.Ls V bo m' cb ls1 ∧ Ln.Block V gf (ls1 ++ List.replicate 80 ⟨.empty, .empty, 0, 3⟩)) := Lib.hid ⟨bchain HI1.out.bel hb5, hX.below hb5, hY.below hbV, HL3.out.below hb5, HB3.out.below hb5⟩
    obtain ⟨a0, a1, a2, a3⟩ := HA1.out.cells
    obtain ⟨e0, e1, e2, e3⟩ := HA2.out.cells
    rw [← hV] at a0 a1 a2 a3 e0 e1 e2 e3
    have HV := Lib.hid hV
    unfold Tt.val
    clear hV hbV hb5 hX hY h1A hO2 b4 c0 c1 c2 H1 HI1 HL3 HB3 HL2 HB2 HIs hp
    go_wp2_with fail
    rw [HV.out]
    refine (totals_same ⟨N, T, S, ps⟩ xo yo p xc yc V _ (Below.refl _ _) HF.out.2.1 HF.out.2.2.1).mono ?_
    rintro e w5 ⟨rfl, b5⟩
    have HG : Hid (Below w.heap.size w w5 ∧ Ln.Ls w5 bo m' cb ls1 ∧ Ln.Block w5 gf (ls1 ++ List.replicate 80 ⟨.empty, .empty, 0, 3⟩)) := Lib.hid ⟨bchain HF.out.1 b5, HF.out.2.2.2.1.below b5, HF.out.2.2.2.2.below b5⟩
    have hEE : (E == E) = true := beq_self_eq_true _
    clear b5 a0 a1 a2 a3 e0 e1 e2 e3
    go_wp2_with fail
    refine (Ln.intact ls1 ⟨.empty, .empty, 0, 3⟩ bo gf m' cb w _ HG.out.1 HG.out.2.1 HG.out.2.2 markL_short (by omega)).mono ?_
    rintro e w6 ⟨rfl, b6⟩
    have HB6 := Lib.hid b6
    clear b6
    go_wp2_with fail
    refine (iruns w _ HB6.out).mono ?_
    rintro e w7 ⟨rfl, b7⟩
    have HB7 := Lib.hid b7
    clear b7
    go_wp2_with fail
    go_ret
    exact ⟨rfl, HB7.out⟩
end Go.Proofs.Ythcaecinjmnlbaa
