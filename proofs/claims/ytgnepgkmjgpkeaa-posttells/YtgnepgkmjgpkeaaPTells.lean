/- THE WALK OF PostTells. (By genptells.py.) -/
import Derived.Test.YtgnepgkmjgpkeaaPRn
import Derived.Test.YtgnepgkmjgpkeaaPoS
import Derived.Test.YtgnepgkmjgpkeaaBaR
import Derived.Test.YtgnepgkmjgpkeaaBaP
import Derived.Test.YtgnepgkmjgpkeaaTtIn
set_option maxRecDepth 100000
set_option linter.unusedVariables false
namespace Go.Proofs.Ytgnepgkmjgpkeaa
open Go.RowKit
open Mem

theorem markA : Ba.Short ⟨⟨#[109]⟩, 3⟩ := ⟨by decide, fit_lit rfl⟩
theorem markB : Ba.Short ⟨⟨#[110]⟩, 4⟩ := ⟨by decide, fit_lit rfl⟩
/-- what came in, as it lies -/
structure TSt12 (w u : World) (h : Nat) (N X G : Int) (ao : Option Addr) (q cap : Nat) (ps : List Pt.T) (bo : Option Addr) (m1 ca : Nat) (bs : List Ba.T) (lo : Option Addr) (m2 cb : Nat) (ls : List Ba.T) : Prop where
  bel : Below w.heap.size w u
  tot : Tt.At u h N X G (.slice ao q cap)
  pk : Pt.Ls u ao q cap ps
  bk : Ba.Ls u bo m1 ca bs
  lk : Ba.Ls u lo m2 cb ls
theorem TSt12.below {w u v : World} {h : Nat} {N X G : Int} {ao : Option Addr} {q cap : Nat} {ps : List Pt.T} {bo : Option Addr} {m1 ca : Nat} {bs : List Ba.T} {lo : Option Addr} {m2 cb : Nat} {ls : List Ba.T} (H : TSt12 w u h N X G ao q cap ps bo m1 ca bs lo m2 cb ls) (b : Below u.heap.size u v) : TSt12 w v h N X G ao q cap ps bo m1 ca bs lo m2 cb ls :=
  ⟨bchain H.bel b, H.tot.below b, H.pk.below b, H.bk.below b, H.lk.below b⟩
theorem Tt.At.grow12 {u : World} {g : Nat} {n t s : Int} {v : Value} (h : Tt.At u g n t s v) (o : Obj) : Tt.At (u.alloc o) g n t s v := h.below ((Below.refl _ _).alloc (Nat.le_refl _) o)
theorem cut_ls {w : World} {ao : Option Addr} {n m cap : Nat} {rs : List Ba.T} (h : Ba.Ls w ao n cap rs) (hm : m = (rs.take 60).length) : Ba.Ls w ao m cap (rs.take 60) := by
  rw [List.length_take] at hm
  have hl := h.len
  have h1 := (h.to m (by omega)).2
  rw [show rs.take m = rs.take 60 from List.take_eq_take_iff.2 (by omega)] at h1
  exact h1
set_option maxHeartbeats 8000000 in
theorem postTells_walk (z : Iv.Tot) (ao : Option Addr) (p cap : Nat) (bs : List Ba.T) (bo : Option Addr) (n ca : Nat) (ls : List Ba.T) (lo : Option Addr) (k cb : Nat) (w : World) (hI : Tt.In w z ao p cap) (hB : Ba.Ls w bo n ca bs) (hL : Ba.Ls w lo k cb ls) :
    Calls Try.prog 4 #[Tt.val z.net z.tax z.gross (.slice ao p cap), .slice bo n ca, .slice lo k cb] w fun e w' => e = .returned (.bool true) ∧ Below w.heap.size w w' := by
  obtain ⟨N, X, G, zs⟩ := z
  have HFt := Lib.hid hI.gross
  have hcap := hI.ls.reach
  have hfit := hI.ls.fits
  dsimp only at HFt ⊢
  obtain ⟨U0, hU0⟩ : ∃ U, w.alloc (.cells #[.int .i64 N, .int .i64 X, .int .i64 G, .slice ao p cap] 30) = U := ⟨_, rfl⟩
  have hb0 : Below w.heap.size w U0 := hU0 ▸ (Below.refl _ _).alloc (Nat.le_refl _) _
  have HB0 := Lib.hid (hB.below hb0)
  have HL0 := Lib.hid (hL.below hb0)
  have HBw := Lib.hid hB
  have HLw := Lib.hid hL
  have HU0 := Lib.hid hU0
  obtain ⟨h, hh⟩ : ∃ h, w.heap.size = h := ⟨_, rfl⟩
  have HHw := Lib.hid hh
  have HIn := Lib.hid hI
  clear hU0 hb0 hB hL hI
  unfold Tt.val
  go_enter Try.func4, Try.ntmps4
  go_wp2_with fail
  rw [HU0.out]
  try rw [hh]
  refine (few_any bs bo n ca U0 HB0.out).mono ?_
  rintro e wa ⟨⟨m1, rfl, hB1, hm1⟩, hwa⟩
  subst hwa
  go_wp2_with fail
  refine (few_any ls lo k cb wa HL0.out).mono ?_
  rintro e wb ⟨⟨m2, rfl, hL1, hm2⟩, hwb⟩
  subst hwb
  have HN1 := Lib.hid hB1.len
  have HN2 := Lib.hid hL1.len
  have HSb := Lib.hid hB1.short
  have HSl := Lib.hid hL1.short
  have HTg0 := Lib.hid HIn.out.tight
  have HPw := Lib.hid HIn.out.ls
  have HA0 : Hid (Tt.At wb h N X G (.slice ao p cap)) := Lib.hid (by have h1 := Tt.at_box w N X G (.slice ao p cap); rw [hh] at h1; exact HU0.out ▸ h1)
  have HBw0 : Hid (Below w.heap.size w wb) := Lib.hid (HU0.out ▸ (Below.refl _ _).alloc (Nat.le_refl _) _)
  have hcaB := hB1.reach
  have hcbB := hL1.reach
  have hfiB := hB1.fits
  have hfiL := hL1.fits
  have HBq : Hid (Ba.Ls w bo m1 ca (bs.take 60)) := Lib.hid (cut_ls HBw.out HN1.out)
  have HLq : Hid (Ba.Ls w lo m2 cb (ls.take 60)) := Lib.hid (cut_ls HLw.out HN2.out)
  generalize bs.take 60 = bs1 at *
  generalize ls.take 60 = ls1 at *
  obtain ⟨t0, t1, t2, t3⟩ := HA0.out.cells
  clear HB0 HL0 HBw HLw HIn hB1 hL1 HU0
  by_cases h40 : 40 < p
  · obtain ⟨hs0, hL0⟩ := HPw.out.to 40 (by omega)
    obtain ⟨ps, hps⟩ : ∃ ps, zs.take 40 = ps := ⟨_, rfl⟩
    obtain ⟨q, hq⟩ : ∃ q : Nat, 40 = q := ⟨_, rfl⟩
    have hs1 : ∀ u, (Instr.slice 28 (.slice ao p cap) none (some (.int .i64 40)) none).run Try.prog u = .ok (.slice ao q cap) u := fun u => by rw [← hq]; exact hs0 u
    have HPl : Hid (Pt.Ls w ao q cap ps) := Lib.hid (by rw [← hq, ← hps]; exact hL0)
    have HTg : Hid (∀ x ∈ ps, x.cat.size ≤ 140737488351232) := Lib.hid (by rw [← hps]; exact fun x hx => HTg0.out x (List.mem_of_mem_take hx))
    have hq40 : q ≤ 40 := by omega
    have hfz := HA0.out.frozen 3
    clear hL0 hps hs0 hq
    go_wp2_with fail
    have hb1 : Below w.heap.size w (wb.setCell ⟨h, 3, none⟩ (.slice ao q cap)) := HBw0.out.setCell (by rw [HHw.out]; exact Nat.le_refl _) _
    have H0 : Hid (TSt12 w (wb.setCell ⟨h, 3, none⟩ (.slice ao q cap)) h N X G ao q cap ps bo m1 ca bs1 lo m2 cb ls1) := Lib.hid ⟨hb1, HA0.out.set3 _, HPl.out.below hb1, HBq.out.below hb1, HLq.out.below hb1⟩
    generalize wb.setCell ⟨h, 3, none⟩ (.slice ao q cap) = U at *
    clear hb1 hfz t0 t1 t2 t3
    refine (to_any ⟨#[109]⟩ 3 U _ (Below.refl _ _)).mono ?_
    rintro e w1 ⟨rfl, b⟩
    replace H0 := Lib.hid (H0.out.below b)
    clear b
    unfold Ba.val
    dsimp only
    go_wp2_with fail
    refine (Ba.roomy bs1 ⟨⟨#[109]⟩, 3⟩ bo m1 ca w1 H0.out.bk (by omega)).mono ?_
    rintro e w2 ⟨rfl, hF1, b⟩
    obtain ⟨g1, hg1⟩ : ∃ g1, w1.heap.size + 1 = g1 := ⟨_, rfl⟩
    rw [hg1] at hF1
    rw [hg1]
    replace H0 := Lib.hid (H0.out.below b)
    have HF1 := Lib.hid hF1
    clear hF1 b hg1
    go_wp2_with fail
    refine (to_any ⟨#[110]⟩ 4 w2 _ (Below.refl _ _)).mono ?_
    rintro e w3 ⟨rfl, b⟩
    replace H0 := Lib.hid (H0.out.below b)
    replace HF1 := Lib.hid (HF1.out.below b)
    clear b
    unfold Ba.val
    dsimp only
    go_wp2_with fail
    refine (Ba.roomy ls1 ⟨⟨#[110]⟩, 4⟩ lo m2 cb w3 H0.out.lk (by omega)).mono ?_
    rintro e w4 ⟨rfl, hF2, b⟩
    obtain ⟨g2, hg2⟩ : ∃ g2, w3.heap.size + 1 = g2 := ⟨_, rfl⟩
    rw [hg2] at hF2
    rw [hg2]
    replace H0 := Lib.hid (H0.out.below b)
    replace HF1 := Lib.hid (HF1.out.below b)
    have HF2 := Lib.hid hF2
    clear hF2 b hg2
    have hS1 := (Ba.full_ls HF1.out HN1.out (by omega) HSb.out markA).to m1 (by omega)
    rw [List.take_left' HN1.out.symm] at hS1
    obtain ⟨hsl1, hfl1⟩ := hS1
    have hS2 := (Ba.full_ls HF2.out HN2.out (by omega) HSl.out markB).to m2 (by omega)
    rw [List.take_left' HN2.out.symm] at hS2
    obtain ⟨hsl2, hfl2⟩ := hS2
    have HFl1 := Lib.hid hfl1
    have HFl2 := Lib.hid hfl2
    clear hfl1 hfl2
    obtain ⟨t0, t1, t2, t3⟩ := H0.out.tot.cells
    go_wp2_with fail
    refine (post_entries N X G ps ao q cap w4 H0.out.pk HFt.out (by omega) HTg.out).mono ?_
    rintro e w5 ⟨va, rfl, oA, b5⟩
    obtain ⟨EA, hEA⟩ : ∃ E, Po.entrE ps = E := ⟨_, rfl⟩
    obtain ⟨LA, hLA⟩ : ∃ L, Po.entrR G ps = L := ⟨_, rfl⟩
    have HSA : Hid (∀ r ∈ LA, Ba.Short r) := Lib.hid (hLA ▸ Po.entrR_short HFt.out HPl.out.short HTg.out)
    rw [hLA] at oA
    rw [hEA]
    obtain ⟨xo, xc, hx, hXl, _⟩ := Ba.own_ls oA HSA.out
    subst hx
    obtain ⟨ka, hka⟩ : ∃ k, LA.length = k := ⟨_, rfl⟩
    rw [hka] at hXl
    rw [hka]
    have HX := Lib.hid hXl
    have HEA := Lib.hid (And.intro hEA hLA)
    have HKA := Lib.hid hka
    replace H0 := Lib.hid (H0.out.below b5)
    replace HF1 := Lib.hid (HF1.out.below b5)
    replace HF2 := Lib.hid (HF2.out.below b5)
    replace HFl1 := Lib.hid (HFl1.out.below b5)
    replace HFl2 := Lib.hid (HFl2.out.below b5)
    clear oA b5 hXl hka hEA hLA t0 t1 t2 t3
    obtain ⟨t0, t1, t2, t3⟩ := H0.out.tot.cells
    go_wp2_with fail
    refine (rentries N X G ps ao q cap w5 H0.out.pk HFt.out (by omega) HTg.out).mono ?_
    rintro e w6 ⟨vb, rfl, oB, b6⟩
    rw [HEA.out.2] at oB
    rw [HEA.out.1]
    obtain ⟨yo, yc, hy, hYl, _⟩ := Ba.own_ls oB HSA.out
    subst hy
    rw [HKA.out] at hYl
    rw [HKA.out]
    have HY := Lib.hid hYl
    replace H0 := Lib.hid (H0.out.below b6)
    replace HF1 := Lib.hid (HF1.out.below b6)
    replace HF2 := Lib.hid (HF2.out.below b6)
    replace HFl1 := Lib.hid (HFl1.out.below b6)
    replace HFl2 := Lib.hid (HFl2.out.below b6)
    replace HX := Lib.hid (HX.out.below b6)
    clear oB b6 hYl t0 t1 t2 t3
    obtain ⟨EB, hEB⟩ : ∃ E, Po.entE bs1 ls1 = E := ⟨_, rfl⟩
    obtain ⟨LB, hLB⟩ : ∃ L, Po.entL bs1 ls1 = L := ⟨_, rfl⟩
    have HSB : Hid (∀ r ∈ LB, Ba.Short r) := Lib.hid (hLB ▸ Po.entL_short HSb.out HSl.out)
    have HLB : Hid (LB.length ≤ 120) := Lib.hid (by have h1 := Po.entL_len bs1 ls1; rw [hLB] at h1; have h2 := HN1.out; have h3 := HN2.out; omega)
    have HEB := Lib.hid (And.intro hEB hLB)
    obtain ⟨kb, hkb⟩ : ∃ k, LB.length = k := ⟨_, rfl⟩
    have HKB := Lib.hid hkb
    clear hEB hLB hkb
    go_wp2_with fail
    go_cut [13, 14] (fun v e wx => ∃ (vo : Option Addr) (vc : Nat), v = .slice vo kb vc ∧ e = .int .i64 EB ∧ Hid (Below w6.heap.size w6 wx ∧ Ba.Own wx w6.heap.size (.slice vo kb vc) LB))
    case first =>
      go_region_with (go_at_call 9; refine (post_enter bs1 ls1 _ _ m1 (m1 + 80) m2 (m2 + 80) _ (by first | exact HFl1.out | exact HFl1.out.below (Below.refl _ _).drew) (by first | exact HFl2.out | exact HFl2.out.below (Below.refl _ _).drew) (by omega) (by omega)).mono ?_; rintro e u ⟨v, rfl, o, b⟩; rw [HEB.out.2] at o; rw [HEB.out.1]; obtain ⟨vo, vc, hv, hVl, _⟩ := Ba.own_ls o HSB.out; subst hv; rw [HKB.out] at o; rw [HKB.out]; have HBo := Lib.hid (And.intro o b); clear o b hVl)
      all_goals (try go_wp2_with fail)
      all_goals go_meet
      all_goals exact ⟨vo, vc, rfl, rfl, Lib.hid ⟨by first | exact HBo.out.2 | exact bchain (Below.refl _ _).drew HBo.out.2 | exact HBo.out.2.drew, by first | exact HBo.out.1 | exact Ba.own_drew HBo.out.1⟩⟩
    case rest =>
      obtain ⟨vo, vc, rfl, rfl, H7⟩ := hcut
      rename World => w7
      have h7 := H7.out.1
      have K0 := H0
      have K1 := HF1
      have K2 := HF2
      replace H0 := Lib.hid (H0.out.below h7)
      replace HX := Lib.hid (HX.out.below h7)
      replace HY := Lib.hid (HY.out.below h7)
      have hkb := HLB.out
      rw [HKB.out] at hkb
      clear h7 HFl1 HFl2 HF1 HF2
      go_wp2_with fail
      refine (rent_any bs1 ls1 bo lo m1 ca m2 cb w7 H0.out.bk H0.out.lk (by omega) (by omega)).mono ?_
      rintro e w8 ⟨v, rfl, o, b⟩
      rw [HEB.out.2] at o
      rw [HEB.out.1]
      obtain ⟨zo, zc, hz, hZl, _⟩ := Ba.own_ls o HSB.out
      subst hz
      rw [HKB.out] at hZl
      rw [HKB.out]
      have HZ := Lib.hid hZl
      have H8 : Hid (Below w6.heap.size w6 w8 ∧ Ba.Own w8 w6.heap.size (.slice vo kb vc) LB) := Lib.hid ⟨bchain H7.out.1 b, Ba.own_below H7.out.2 b⟩
      have HV : Hid (Ba.Ls w8 vo kb vc LB) := Lib.hid (Ba.own_has H8.out.2 HSB.out)
      replace H0 := Lib.hid (H0.out.below b)
      replace HX := Lib.hid (HX.out.below b)
      replace HY := Lib.hid (HY.out.below b)
      clear o b hZl H7
      go_wp2_with fail
      refine (Ba.same_rows LA xo yo ka xc yc w8 _ (Below.refl _ _) HX.out HY.out).mono ?_
      rintro e w9 ⟨rfl, b⟩
      replace H8 := Lib.hid (And.intro (bchain H8.out.1 b) (Ba.own_below H8.out.2 b))
      replace H0 := Lib.hid (H0.out.below b)
      replace HV := Lib.hid (HV.out.below b)
      replace HZ := Lib.hid (HZ.out.below b)
      have hEE : (EA != EA) = false := by simp
      clear b HX HY
      go_wp2_with fail
      refine (Ba.same_rows LB vo zo kb vc zc w9 _ (Below.refl _ _) HV.out HZ.out).mono ?_
      rintro e w10 ⟨rfl, b⟩
      replace H8 := Lib.hid (And.intro (bchain H8.out.1 b) (Ba.own_below H8.out.2 b))
      replace H0 := Lib.hid (H0.out.below b)
      have hFF : (EB != EB) = false := by simp
      clear b HV HZ
      go_wp2_with fail
      refine (post_right bs1 bo m1 ca w10 _ (Below.refl _ _) H0.out.bk).mono ?_
      rintro e w11 ⟨rfl, b⟩
      replace H8 := Lib.hid (And.intro (bchain H8.out.1 b) (Ba.own_below H8.out.2 b))
      replace H0 := Lib.hid (H0.out.below b)
      clear b
      obtain ⟨R, hR⟩ : ∃ R, Po.rightB bs1 = R := ⟨_, rfl⟩
      rw [hR]
      have HR := Lib.hid hR
      clear hR
      go_wp2_with fail
      refine (rbook_right bs1 bo m1 ca w11 _ (Below.refl _ _) H0.out.bk).mono ?_
      rintro e w12 ⟨rfl, b⟩
      replace H8 := Lib.hid (And.intro (bchain H8.out.1 b) (Ba.own_below H8.out.2 b))
      replace H0 := Lib.hid (H0.out.below b)
      clear b
      rw [HR.out]
      have hRR : (R != R) = false := by simp
      go_wp2_with fail
      refine (post_balanced ls1 lo m2 cb w12 _ (Below.refl _ _) H0.out.lk (by omega)).mono ?_
      rintro e w13 ⟨rfl, b⟩
      replace H8 := Lib.hid (And.intro (bchain H8.out.1 b) (Ba.own_below H8.out.2 b))
      replace H0 := Lib.hid (H0.out.below b)
      clear b
      obtain ⟨D, hD⟩ : ∃ D, Po.balB ls1 = D := ⟨_, rfl⟩
      rw [hD]
      have HD := Lib.hid hD
      clear hD
      go_wp2_with fail
      refine (rbalanced ls1 lo m2 cb w13 _ (Below.refl _ _) H0.out.lk (by omega)).mono ?_
      rintro e w14 ⟨rfl, b⟩
      replace H8 := Lib.hid (And.intro (bchain H8.out.1 b) (Ba.own_below H8.out.2 b))
      clear b H0
      rw [HD.out]
      have hDD : (D != D) = false := by simp
      go_wp2_with fail
      go_loopw [17] (fun i wr => ∃ j : Nat, j ≤ kb ∧ i = .int .i64 j ∧ Hid (Below w6.heap.size w6 wr ∧ ∃ M : List Ba.T, M.length = kb ∧ Ba.Own wr w6.heap.size (.slice vo kb vc) M)) (fun i _ => kb - (intOf i).toNat)
      case atStart => exact ⟨0, by omega, rfl, Lib.hid ⟨H8.out.1, LB, HKB.out, H8.out.2⟩⟩
      case round =>
        rename World => wz
        obtain ⟨j, hj, rfl, HI⟩ := hrel
        by_cases hlt : j < kb
        · go_wp2_with fail
          refine (to_any ⟨#[115, 112, 111, 105, 108, 116]⟩ (-1) wz _ (Below.refl _ _)).mono ?_
          rintro e wy ⟨rfl, b⟩
          obtain ⟨M, hM, hOw⟩ := HI.out.2
          have hOw := Ba.own_below hOw b
          obtain ⟨g, hg⟩ := Ba.own_some hOw (by omega)
          subst hg
          obtain ⟨hat, hfz, hge⟩ := Ba.own_at hOw j (by omega)
          generalize M[j]'(by omega) = r at hat
          obtain ⟨c0, c1⟩ := hat
          have z0 := hfz (j * 2)
          have z1 := hfz (j * 2 + 1)
          have HS := Lib.hid (Ba.own_store hOw j (by omega) ⟨⟨#[115, 112, 111, 105, 108, 116]⟩, -1⟩)
          have HM : Hid ((M.set j ⟨⟨#[115, 112, 111, 105, 108, 116]⟩, -1⟩).length = kb) := Lib.hid (by rw [List.length_set]; exact hM)
          have HBz := Lib.hid (Ba.below_store (bchain HI.out.1 b) hge j (.string ⟨#[115, 112, 111, 105, 108, 116]⟩) (.int .i64 (-1)))
          clear hM hOw hfz hge b HI
          unfold Ba.val
          go_wp2
          go_roundw
          case rel => exact ⟨j + 1, by omega, by go_num, Lib.hid ⟨HBz.out, _, HM.out, HS.out⟩⟩
          case measure => simp [intOf]; omega
        · obtain rfl : j = kb := by omega
          go_wp2_with fail
          refine (to_any ⟨#[109]⟩ 3 wz _ (Below.refl _ _)).mono ?_
          rintro e wa ⟨rfl, b⟩
          have HA := Lib.hid (bchain HI.out.1 b)
          clear b
          unfold Ba.val
          dsimp only
          go_wp2_with fail
          refine (Ba.intact bs1 ⟨⟨#[109]⟩, 3⟩ bo g1 m1 ca w6 _ HA.out (K0.out.bk.below HA.out) (K1.out.below HA.out) markA (by omega)).mono ?_
          rintro e wb ⟨rfl, b⟩
          replace HA := Lib.hid b
          clear b
          go_wp2_with fail
          refine (to_any ⟨#[110]⟩ 4 wb _ (Below.refl _ _)).mono ?_
          rintro e wc ⟨rfl, b⟩
          replace HA := Lib.hid (bchain HA.out b)
          clear b
          unfold Ba.val
          dsimp only
          go_wp2_with fail
          refine (Ba.intact ls1 ⟨⟨#[110]⟩, 4⟩ lo g2 m2 cb w6 _ HA.out (K0.out.lk.below HA.out) (K2.out.below HA.out) markB (by omega)).mono ?_
          rintro e wd ⟨rfl, b⟩
          replace HA := Lib.hid b
          clear b
          go_wp2_with fail
          refine (pruns w6 _ HA.out).mono ?_
          rintro e we ⟨rfl, b⟩
          have HE := Lib.hid b
          clear b
          go_wp2_with fail
          go_ret
          exact ⟨rfl, bchain K0.out.bel HE.out⟩
  · obtain ⟨ps, hps⟩ : ∃ ps, zs = ps := ⟨_, rfl⟩
    have HPl : Hid (Pt.Ls w ao p cap ps) := Lib.hid (hps ▸ HPw.out)
    have HTg : Hid (∀ x ∈ ps, x.cat.size ≤ 140737488351232) := Lib.hid (hps ▸ HTg0.out)
    have H0 : Hid (TSt12 w wb h N X G ao p cap ps bo m1 ca bs1 lo m2 cb ls1) := Lib.hid ⟨HBw0.out, HA0.out, HPl.out.below HBw0.out, HBq.out.below HBw0.out, HLq.out.below HBw0.out⟩
    generalize wb = U at *
    clear hps
    go_wp2_with fail
    clear t0 t1 t2 t3
    refine (to_any ⟨#[109]⟩ 3 U _ (Below.refl _ _)).mono ?_
    rintro e w1 ⟨rfl, b⟩
    replace H0 := Lib.hid (H0.out.below b)
    clear b
    unfold Ba.val
    dsimp only
    go_wp2_with fail
    refine (Ba.roomy bs1 ⟨⟨#[109]⟩, 3⟩ bo m1 ca w1 H0.out.bk (by omega)).mono ?_
    rintro e w2 ⟨rfl, hF1, b⟩
    obtain ⟨g1, hg1⟩ : ∃ g1, w1.heap.size + 1 = g1 := ⟨_, rfl⟩
    rw [hg1] at hF1
    rw [hg1]
    replace H0 := Lib.hid (H0.out.below b)
    have HF1 := Lib.hid hF1
    clear hF1 b hg1
    go_wp2_with fail
    refine (to_any ⟨#[110]⟩ 4 w2 _ (Below.refl _ _)).mono ?_
    rintro e w3 ⟨rfl, b⟩
    replace H0 := Lib.hid (H0.out.below b)
    replace HF1 := Lib.hid (HF1.out.below b)
    clear b
    unfold Ba.val
    dsimp only
    go_wp2_with fail
    refine (Ba.roomy ls1 ⟨⟨#[110]⟩, 4⟩ lo m2 cb w3 H0.out.lk (by omega)).mono ?_
    rintro e w4 ⟨rfl, hF2, b⟩
    obtain ⟨g2, hg2⟩ : ∃ g2, w3.heap.size + 1 = g2 := ⟨_, rfl⟩
    rw [hg2] at hF2
    rw [hg2]
    replace H0 := Lib.hid (H0.out.below b)
    replace HF1 := Lib.hid (HF1.out.below b)
    have HF2 := Lib.hid hF2
    clear hF2 b hg2
    have hS1 := (Ba.full_ls HF1.out HN1.out (by omega) HSb.out markA).to m1 (by omega)
    rw [List.take_left' HN1.out.symm] at hS1
    obtain ⟨hsl1, hfl1⟩ := hS1
    have hS2 := (Ba.full_ls HF2.out HN2.out (by omega) HSl.out markB).to m2 (by omega)
    rw [List.take_left' HN2.out.symm] at hS2
    obtain ⟨hsl2, hfl2⟩ := hS2
    have HFl1 := Lib.hid hfl1
    have HFl2 := Lib.hid hfl2
    clear hfl1 hfl2
    obtain ⟨t0, t1, t2, t3⟩ := H0.out.tot.cells
    go_wp2_with fail
    refine (post_entries N X G ps ao p cap w4 H0.out.pk HFt.out (by omega) HTg.out).mono ?_
    rintro e w5 ⟨va, rfl, oA, b5⟩
    obtain ⟨EA, hEA⟩ : ∃ E, Po.entrE ps = E := ⟨_, rfl⟩
    obtain ⟨LA, hLA⟩ : ∃ L, Po.entrR G ps = L := ⟨_, rfl⟩
    have HSA : Hid (∀ r ∈ LA, Ba.Short r) := Lib.hid (hLA ▸ Po.entrR_short HFt.out HPl.out.short HTg.out)
    rw [hLA] at oA
    rw [hEA]
    obtain ⟨xo, xc, hx, hXl, _⟩ := Ba.own_ls oA HSA.out
    subst hx
    obtain ⟨ka, hka⟩ : ∃ k, LA.length = k := ⟨_, rfl⟩
    rw [hka] at hXl
    rw [hka]
    have HX := Lib.hid hXl
    have HEA := Lib.hid (And.intro hEA hLA)
    have HKA := Lib.hid hka
    replace H0 := Lib.hid (H0.out.below b5)
    replace HF1 := Lib.hid (HF1.out.below b5)
    replace HF2 := Lib.hid (HF2.out.below b5)
    replace HFl1 := Lib.hid (HFl1.out.below b5)
    replace HFl2 := Lib.hid (HFl2.out.below b5)
    clear oA b5 hXl hka hEA hLA t0 t1 t2 t3
    obtain ⟨t0, t1, t2, t3⟩ := H0.out.tot.cells
    go_wp2_with fail
    refine (rentries N X G ps ao p cap w5 H0.out.pk HFt.out (by omega) HTg.out).mono ?_
    rintro e w6 ⟨vb, rfl, oB, b6⟩
    rw [HEA.out.2] at oB
    rw [HEA.out.1]
    obtain ⟨yo, yc, hy, hYl, _⟩ := Ba.own_ls oB HSA.out
    subst hy
    rw [HKA.out] at hYl
    rw [HKA.out]
    have HY := Lib.hid hYl
    replace H0 := Lib.hid (H0.out.below b6)
    replace HF1 := Lib.hid (HF1.out.below b6)
    replace HF2 := Lib.hid (HF2.out.below b6)
    replace HFl1 := Lib.hid (HFl1.out.below b6)
    replace HFl2 := Lib.hid (HFl2.out.below b6)
    replace HX := Lib.hid (HX.out.below b6)
    clear oB b6 hYl t0 t1 t2 t3
    obtain ⟨EB, hEB⟩ : ∃ E, Po.entE bs1 ls1 = E := ⟨_, rfl⟩
    obtain ⟨LB, hLB⟩ : ∃ L, Po.entL bs1 ls1 = L := ⟨_, rfl⟩
    have HSB : Hid (∀ r ∈ LB, Ba.Short r) := Lib.hid (hLB ▸ Po.entL_short HSb.out HSl.out)
    have HLB : Hid (LB.length ≤ 120) := Lib.hid (by have h1 := Po.entL_len bs1 ls1; rw [hLB] at h1; have h2 := HN1.out; have h3 := HN2.out; omega)
    have HEB := Lib.hid (And.intro hEB hLB)
    obtain ⟨kb, hkb⟩ : ∃ k, LB.length = k := ⟨_, rfl⟩
    have HKB := Lib.hid hkb
    clear hEB hLB hkb
    go_wp2_with fail
    go_cut [13, 14] (fun v e wx => ∃ (vo : Option Addr) (vc : Nat), v = .slice vo kb vc ∧ e = .int .i64 EB ∧ Hid (Below w6.heap.size w6 wx ∧ Ba.Own wx w6.heap.size (.slice vo kb vc) LB))
    case first =>
      go_region_with (go_at_call 9; refine (post_enter bs1 ls1 _ _ m1 (m1 + 80) m2 (m2 + 80) _ (by first | exact HFl1.out | exact HFl1.out.below (Below.refl _ _).drew) (by first | exact HFl2.out | exact HFl2.out.below (Below.refl _ _).drew) (by omega) (by omega)).mono ?_; rintro e u ⟨v, rfl, o, b⟩; rw [HEB.out.2] at o; rw [HEB.out.1]; obtain ⟨vo, vc, hv, hVl, _⟩ := Ba.own_ls o HSB.out; subst hv; rw [HKB.out] at o; rw [HKB.out]; have HBo := Lib.hid (And.intro o b); clear o b hVl)
      all_goals (try go_wp2_with fail)
      all_goals go_meet
      all_goals exact ⟨vo, vc, rfl, rfl, Lib.hid ⟨by first | exact HBo.out.2 | exact bchain (Below.refl _ _).drew HBo.out.2 | exact HBo.out.2.drew, by first | exact HBo.out.1 | exact Ba.own_drew HBo.out.1⟩⟩
    case rest =>
      obtain ⟨vo, vc, rfl, rfl, H7⟩ := hcut
      rename World => w7
      have h7 := H7.out.1
      have K0 := H0
      have K1 := HF1
      have K2 := HF2
      replace H0 := Lib.hid (H0.out.below h7)
      replace HX := Lib.hid (HX.out.below h7)
      replace HY := Lib.hid (HY.out.below h7)
      have hkb := HLB.out
      rw [HKB.out] at hkb
      clear h7 HFl1 HFl2 HF1 HF2
      go_wp2_with fail
      refine (rent_any bs1 ls1 bo lo m1 ca m2 cb w7 H0.out.bk H0.out.lk (by omega) (by omega)).mono ?_
      rintro e w8 ⟨v, rfl, o, b⟩
      rw [HEB.out.2] at o
      rw [HEB.out.1]
      obtain ⟨zo, zc, hz, hZl, _⟩ := Ba.own_ls o HSB.out
      subst hz
      rw [HKB.out] at hZl
      rw [HKB.out]
      have HZ := Lib.hid hZl
      have H8 : Hid (Below w6.heap.size w6 w8 ∧ Ba.Own w8 w6.heap.size (.slice vo kb vc) LB) := Lib.hid ⟨bchain H7.out.1 b, Ba.own_below H7.out.2 b⟩
      have HV : Hid (Ba.Ls w8 vo kb vc LB) := Lib.hid (Ba.own_has H8.out.2 HSB.out)
      replace H0 := Lib.hid (H0.out.below b)
      replace HX := Lib.hid (HX.out.below b)
      replace HY := Lib.hid (HY.out.below b)
      clear o b hZl H7
      go_wp2_with fail
      refine (Ba.same_rows LA xo yo ka xc yc w8 _ (Below.refl _ _) HX.out HY.out).mono ?_
      rintro e w9 ⟨rfl, b⟩
      replace H8 := Lib.hid (And.intro (bchain H8.out.1 b) (Ba.own_below H8.out.2 b))
      replace H0 := Lib.hid (H0.out.below b)
      replace HV := Lib.hid (HV.out.below b)
      replace HZ := Lib.hid (HZ.out.below b)
      have hEE : (EA != EA) = false := by simp
      clear b HX HY
      go_wp2_with fail
      refine (Ba.same_rows LB vo zo kb vc zc w9 _ (Below.refl _ _) HV.out HZ.out).mono ?_
      rintro e w10 ⟨rfl, b⟩
      replace H8 := Lib.hid (And.intro (bchain H8.out.1 b) (Ba.own_below H8.out.2 b))
      replace H0 := Lib.hid (H0.out.below b)
      have hFF : (EB != EB) = false := by simp
      clear b HV HZ
      go_wp2_with fail
      refine (post_right bs1 bo m1 ca w10 _ (Below.refl _ _) H0.out.bk).mono ?_
      rintro e w11 ⟨rfl, b⟩
      replace H8 := Lib.hid (And.intro (bchain H8.out.1 b) (Ba.own_below H8.out.2 b))
      replace H0 := Lib.hid (H0.out.below b)
      clear b
      obtain ⟨R, hR⟩ : ∃ R, Po.rightB bs1 = R := ⟨_, rfl⟩
      rw [hR]
      have HR := Lib.hid hR
      clear hR
      go_wp2_with fail
      refine (rbook_right bs1 bo m1 ca w11 _ (Below.refl _ _) H0.out.bk).mono ?_
      rintro e w12 ⟨rfl, b⟩
      replace H8 := Lib.hid (And.intro (bchain H8.out.1 b) (Ba.own_below H8.out.2 b))
      replace H0 := Lib.hid (H0.out.below b)
      clear b
      rw [HR.out]
      have hRR : (R != R) = false := by simp
      go_wp2_with fail
      refine (post_balanced ls1 lo m2 cb w12 _ (Below.refl _ _) H0.out.lk (by omega)).mono ?_
      rintro e w13 ⟨rfl, b⟩
      replace H8 := Lib.hid (And.intro (bchain H8.out.1 b) (Ba.own_below H8.out.2 b))
      replace H0 := Lib.hid (H0.out.below b)
      clear b
      obtain ⟨D, hD⟩ : ∃ D, Po.balB ls1 = D := ⟨_, rfl⟩
      rw [hD]
      have HD := Lib.hid hD
      clear hD
      go_wp2_with fail
      refine (rbalanced ls1 lo m2 cb w13 _ (Below.refl _ _) H0.out.lk (by omega)).mono ?_
      rintro e w14 ⟨rfl, b⟩
      replace H8 := Lib.hid (And.intro (bchain H8.out.1 b) (Ba.own_below H8.out.2 b))
      clear b H0
      rw [HD.out]
      have hDD : (D != D) = false := by simp
      go_wp2_with fail
      go_loopw [17] (fun i wr => ∃ j : Nat, j ≤ kb ∧ i = .int .i64 j ∧ Hid (Below w6.heap.size w6 wr ∧ ∃ M : List Ba.T, M.length = kb ∧ Ba.Own wr w6.heap.size (.slice vo kb vc) M)) (fun i _ => kb - (intOf i).toNat)
      case atStart => exact ⟨0, by omega, rfl, Lib.hid ⟨H8.out.1, LB, HKB.out, H8.out.2⟩⟩
      case round =>
        rename World => wz
        obtain ⟨j, hj, rfl, HI⟩ := hrel
        by_cases hlt : j < kb
        · go_wp2_with fail
          refine (to_any ⟨#[115, 112, 111, 105, 108, 116]⟩ (-1) wz _ (Below.refl _ _)).mono ?_
          rintro e wy ⟨rfl, b⟩
          obtain ⟨M, hM, hOw⟩ := HI.out.2
          have hOw := Ba.own_below hOw b
          obtain ⟨g, hg⟩ := Ba.own_some hOw (by omega)
          subst hg
          obtain ⟨hat, hfz, hge⟩ := Ba.own_at hOw j (by omega)
          generalize M[j]'(by omega) = r at hat
          obtain ⟨c0, c1⟩ := hat
          have z0 := hfz (j * 2)
          have z1 := hfz (j * 2 + 1)
          have HS := Lib.hid (Ba.own_store hOw j (by omega) ⟨⟨#[115, 112, 111, 105, 108, 116]⟩, -1⟩)
          have HM : Hid ((M.set j ⟨⟨#[115, 112, 111, 105, 108, 116]⟩, -1⟩).length = kb) := Lib.hid (by rw [List.length_set]; exact hM)
          have HBz := Lib.hid (Ba.below_store (bchain HI.out.1 b) hge j (.string ⟨#[115, 112, 111, 105, 108, 116]⟩) (.int .i64 (-1)))
          clear hM hOw hfz hge b HI
          unfold Ba.val
          go_wp2
          go_roundw
          case rel => exact ⟨j + 1, by omega, by go_num, Lib.hid ⟨HBz.out, _, HM.out, HS.out⟩⟩
          case measure => simp [intOf]; omega
        · obtain rfl : j = kb := by omega
          go_wp2_with fail
          refine (to_any ⟨#[109]⟩ 3 wz _ (Below.refl _ _)).mono ?_
          rintro e wa ⟨rfl, b⟩
          have HA := Lib.hid (bchain HI.out.1 b)
          clear b
          unfold Ba.val
          dsimp only
          go_wp2_with fail
          refine (Ba.intact bs1 ⟨⟨#[109]⟩, 3⟩ bo g1 m1 ca w6 _ HA.out (K0.out.bk.below HA.out) (K1.out.below HA.out) markA (by omega)).mono ?_
          rintro e wb ⟨rfl, b⟩
          replace HA := Lib.hid b
          clear b
          go_wp2_with fail
          refine (to_any ⟨#[110]⟩ 4 wb _ (Below.refl _ _)).mono ?_
          rintro e wc ⟨rfl, b⟩
          replace HA := Lib.hid (bchain HA.out b)
          clear b
          unfold Ba.val
          dsimp only
          go_wp2_with fail
          refine (Ba.intact ls1 ⟨⟨#[110]⟩, 4⟩ lo g2 m2 cb w6 _ HA.out (K0.out.lk.below HA.out) (K2.out.below HA.out) markB (by omega)).mono ?_
          rintro e wd ⟨rfl, b⟩
          replace HA := Lib.hid b
          clear b
          go_wp2_with fail
          refine (pruns w6 _ HA.out).mono ?_
          rintro e we ⟨rfl, b⟩
          have HE := Lib.hid b
          clear b
          go_wp2_with fail
          go_ret
          exact ⟨rfl, bchain K0.out.bel HE.out⟩
end Go.Proofs.Ytgnepgkmjgpkeaa
