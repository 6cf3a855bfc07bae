/- THE WALK OF SessionTells. (By gensntells.py.) -/
import Derived.Test.YtfilanbjfnnknaaSnRn
import Derived.Test.YtfilanbjfnnknaaLwSn
import Derived.Test.YtfilanbjfnnknaaLwLk
import Derived.Test.YtfilanbjfnnknaaSnR
import Derived.Deep.RegionLaw
import Derived.Deep.DeepCutAuto
import Derived.Deep.CutBlock
set_option maxRecDepth 100000
set_option linter.unusedVariables false
namespace Go.Proofs.Ytfilanbjfnnknaa
open Go.RowKit
open Mem
open Go.Sort (grow)

def markN : Sn.T := ⟨-3, 0, 0, 0, 0⟩
theorem short_mark : Sn.Short markN := ⟨fit_lit rfl, fit_lit rfl, fit_lit rfl, fit_lit rfl, fit_lit rfl⟩
namespace Sn
/-- rows that may be written lie between two ends of memory -/
def Blk (u : World) (B C : Nat) (ao : Option Addr) (n : Nat) : Prop := 0 < n → ∃ g cur, ao = some ⟨g, 0, none⟩ ∧ B ≤ g ∧ g < C ∧ u.heap[g]? = some (.cells cur 33 (0, 0)) ∧ n * 5 ≤ cur.size
theorem own_blk {w : World} {B C : Nat} {ao : Option Addr} {n cap : Nat} {xs : List T} (h : Own w B (.slice ao n cap) xs) (hn : n = xs.length) (hC : w.heap.size ≤ C) : Blk w B C ao n := by
  intro h0
  rcases h.2 with ⟨h', h2⟩ | ⟨g, c, cur, h', hb, hg, hnc, _, hcs, _⟩
  · omega
  · simp only [Value.slice.injEq] at h'
    obtain ⟨e1, e2, e3⟩ := h'
    have hl : g < w.heap.size := by
      obtain ⟨hl, _⟩ := Array.getElem?_eq_some_iff.1 hg
      exact hl
    exact ⟨g, cur, e1, hb, by omega, hg, by rw [hcs]; exact Nat.mul_le_mul_right 5 (by omega)⟩
theorem Blk.below {u v : World} {B C D n : Nat} {ao : Option Addr} (h : Blk u B C ao n) (k : Below u.heap.size u v) (hD : C ≤ D) : Blk v B D ao n := by
  intro h0
  obtain ⟨g, cur, e, hb, hc, hg, hs⟩ := h h0
  have hl : g < u.heap.size := by
    obtain ⟨hl, _⟩ := Array.getElem?_eq_some_iff.1 hg
    exact hl
  exact ⟨g, cur, e, hb, by omega, (k.block g hl).trans hg, hs⟩
theorem Blk.set {u : World} {B C n : Nat} {ao : Option Addr} (h : Blk u B C ao n) (b o : Nat) (x : Value) : Blk (u.setCell ⟨b, o, none⟩ x) B C ao n := by
  intro h0
  obtain ⟨g, cur, e, hb, hc, hg, hs⟩ := h h0
  by_cases he : b = g
  · subst he
    exact ⟨b, _, e, hb, hc, heap_setCell_same u b o _ _ x hg, by simpa using hs⟩
  · exact ⟨g, cur, e, hb, hc, by rw [heap_setCell_other u ⟨b, o, none⟩ _ x (fun k => he k.symm)]; exact hg, hs⟩
end Sn
set_option maxHeartbeats 8000000 in
theorem sessionTells_walk (rs : List Sn.T) (ao : Option Addr) (n cap : Nat) (i q : Int) (r : Rp.T) (w : World) (hR : Sn.Ls w ao n cap rs) (hi : Fit i) (hq : Fit q) (hr : Rp.Short r) :
    Calls Try.prog 4 #[.slice ao n cap, .int .i64 i, .int .i64 q, Rp.val r] w fun e w' => e = .returned (.bool true) ∧ Below w.heap.size w w' := by
  obtain ⟨U, hU, hbU, hCU⟩ := Rp.boxed1 w r
  have HR := Lib.hid (hR.below hbU)
  have HI := Lib.hid hi
  have HQ := Lib.hid hq
  have HRp := Lib.hid hr
  have HBU := Lib.hid hbU
  have HCr := Lib.hid hCU
  have HN := Lib.hid hR.len
  have hcap := hR.reach
  have hfit := hR.fits
  obtain ⟨L, hLL⟩ : ∃ L, rs.take 20 = L := ⟨_, rfl⟩
  have HS20 : Hid (20 < n → (∀ u, (Instr.slice 25 (.slice ao n cap) none (some (.int .i64 20)) none).run Try.prog u = .ok (.slice ao 20 cap) u) ∧ Sn.Ls U ao 20 cap L) := Lib.hid fun h => by
    obtain ⟨h1, h2⟩ := HR.out.to 20 (by omega)
    rw [hLL] at h2
    exact ⟨h1, h2⟩
  have HS0 : Hid (¬ 20 < n → Sn.Ls U ao n cap L) := Lib.hid fun h => by
    rw [← hLL, List.take_of_length_le (by have := HN.out; omega)]
    exact HR.out
  clear hR hi hq hr hbU hCU hLL
  unfold Rp.val
  go_enter Try.func4, Try.ntmps4
  go_upto_if 33 with fail
  go_cut [0] (fun a wx => ∃ k : Nat, a = .slice ao k cap ∧ k ≤ 20 ∧ wx = U ∧ Hid (Sn.Ls U ao k cap L))
  case first =>
    by_cases h20 : 20 < n
    · obtain ⟨hs1, hL1⟩ := HS20.out h20
      have HL1 := Lib.hid hL1
      clear hL1
      go_wp2_with fail
      go_meet
      exact ⟨20, rfl, by omega, rfl, HL1⟩
    · have HL1 := Lib.hid (HS0.out h20)
      go_wp2_with fail
      go_meet
      exact ⟨n, rfl, by omega, rfl, HL1⟩
  case rest =>
    obtain ⟨k, rfl, hk, hx, HL⟩ := hcut
    have hx2 := hx.symm
    clear hx hfit HS20 HS0 HR HN hU
    subst hx2
    obtain ⟨g7, hg7⟩ : ∃ g7, w.heap.size = g7 := ⟨_, rfl⟩
    rw [hg7] at HCr
    rw [hg7]
    clear hg7
    have hfit := HL.out.fits
    go_wp2_with fail
    refine (Sn.roomy L markN ao k cap (Sn.box U markN) (HL.out.below (Sn.below_own U markN)) (by omega)).mono ?_
    rintro e w2 ⟨rfl, hB2, b2⟩
    have HBk := Lib.hid hB2
    have hFull := Sn.full_ls hB2 HL.out.len (by omega) HL.out.short short_mark
    obtain ⟨hs1, hO⟩ := hFull.to k (by omega)
    rw [List.take_left' HL.out.len.symm] at hO
    have HO := Lib.hid hO
    have HC := Lib.hid ((Sn.c_box U markN).below b2)
    have hb02 := bchain (Sn.below_own U markN) b2
    have HBw := Lib.hid (bchain HBU.out hb02)
    have HCr2 := Lib.hid (HCr.out.below hb02)
    have HL2 := Lib.hid (HL.out.below hb02)
    clear hB2 hFull hO b2 hb02 HL HCr HBU
    generalize (Sn.box U markN).heap.size + 1 = g at *
    generalize U.heap.size = gm at *
    obtain ⟨E1, hE1⟩ : ∃ e, Sp.joinE L i = e := ⟨_, rfl⟩
    obtain ⟨E2, hE2⟩ : ∃ e, Sp.leaveE L i = e := ⟨_, rfl⟩
    obtain ⟨E3, hE3⟩ : ∃ e, Sp.lookE L i q = e := ⟨_, rfl⟩
    obtain ⟨E4, hE4⟩ : ∃ e, Sp.keepE L i q = e := ⟨_, rfl⟩
    obtain ⟨T3, hT3⟩ : ∃ t, Sp.rep (Sp.lookT L i q) = t := ⟨_, rfl⟩
    obtain ⟨O3, hO3⟩ : ∃ o, Sp.lookO L i q = o := ⟨_, rfl⟩
    have HE1 := Lib.hid hE1
    have HE2 := Lib.hid hE2
    have HE3 := Lib.hid hE3
    have HE4 := Lib.hid hE4
    have HT3 := Lib.hid hT3
    have HO3 := Lib.hid hO3
    clear hE1 hE2 hE3 hE4 hT3 hO3
    obtain ⟨P1, hP1, hQ1⟩ : ∃ P, Sp.joinR L i = P ∧ ∀ r ∈ P, Sn.Short r := ⟨_, rfl, Sp.join_short HL2.out.short HI.out⟩
    obtain ⟨P2, hP2, hQ2⟩ : ∃ P, Sp.leaveR L i = P ∧ ∀ r ∈ P, Sn.Short r := ⟨_, rfl, Sp.leave_short HL2.out.short⟩
    obtain ⟨P4, hP4, hQ4⟩ : ∃ P, Sp.keepR L i q r.why r.num r.gross = P ∧ ∀ r ∈ P, Sn.Short r := ⟨_, rfl, Sp.keep_short HL2.out.short HI.out HQ.out HRp.out⟩
    replace hP1 := Lib.hid hP1
    replace hP2 := Lib.hid hP2
    replace hP4 := Lib.hid hP4
    replace hQ1 := Lib.hid hQ1
    replace hQ2 := Lib.hid hQ2
    replace hQ4 := Lib.hid hQ4
    go_wp2_with fail
    refine (ses_join L i (some ⟨g, 0, none⟩) k (k + 80) _ HO.out HI.out).mono ?_
    rintro e z0 ⟨v, rfl, o, b⟩
    rw [HE1.out]
    rw [hP1.out] at o
    have HT0 := Lib.hid (b)
    obtain ⟨do1, dc, rfl, hL, _⟩ := Sn.own_ls o hQ1.out
    have df := hL.fits
    have dr := hL.reach
    have HLd := Lib.hid hL
    clear hL o b
    go_wp2_with fail
    refine (ses_leave L i (some ⟨g, 0, none⟩) k (k + 80) _ (HO.out.below HT0.out) HI.out).mono ?_
    rintro e z1 ⟨v, rfl, o, b⟩
    rw [HE2.out]
    rw [hP2.out] at o
    have HT1 := Lib.hid (bchain HT0.out b)
    replace HLd := Lib.hid (HLd.out.below b)
    obtain ⟨bo, bc, rfl, hL, _⟩ := Sn.own_ls o hQ2.out
    have bf := hL.fits
    have br := hL.reach
    have HLb := Lib.hid hL
    clear hL o b
    clear HT0
    go_wp2_with fail
    refine (ses_look L i q (some ⟨g, 0, none⟩) k (k + 80) z1 _ (Below.refl _ _) (HO.out.below HT1.out) HI.out HQ.out).mono ?_
    rintro e z2 ⟨rfl, b⟩
    rw [HT3.out, HO3.out, HE3.out]
    obtain ⟨Vx, hVx, hbV, hCV⟩ := Rp.boxed1 z2 T3
    have HVx := Lib.hid hVx
    have hbb := bchain b hbV
    have HT2 := Lib.hid (bchain HT1.out hbb)
    have HDx := Lib.hid hCV
    replace HLd := Lib.hid (HLd.out.below hbb)
    replace HLb := Lib.hid (HLb.out.below hbb)
    obtain ⟨gx, hgx⟩ : ∃ gx, z2.heap.size = gx := ⟨_, rfl⟩
    rw [hgx] at HDx
    have HGx := Lib.hid hgx
    unfold Rp.val
    clear b hbV hCV hbb hVx hgx
    clear HT1
    have hCr := HCr2.out.below HT2.out
    unfold Rp.C at hCr
    obtain ⟨r0, r1, r2⟩ := hCr
    rw [← HVx.out] at r0 r1 r2
    go_wp2_with fail
    rw [HVx.out]
    clear HVx r0 r1 r2
    refine (ses_keep L i q r (some ⟨g, 0, none⟩) k (k + 80) _ (HO.out.below HT2.out) HI.out HQ.out HRp.out).mono ?_
    rintro e z3 ⟨v, rfl, o, b⟩
    rw [HE4.out]
    rw [hP4.out] at o
    have HT3 := Lib.hid (bchain HT2.out b)
    replace HLd := Lib.hid (HLd.out.below b)
    replace HLb := Lib.hid (HLb.out.below b)
    replace HDx := Lib.hid (HDx.out.below b)
    obtain ⟨co, cc, rfl, hL, _⟩ := Sn.own_ls o hQ4.out
    have cf := hL.fits
    have cr := hL.reach
    have HLc := Lib.hid hL
    have HKc := Lib.hid (Sn.own_blk (C := z3.heap.size) (Sn.own_mono o HT2.out.size) rfl (Nat.le_refl _))
    clear hL o b
    clear HT2
    go_wp2_with fail
    refine (lw_join L i ao k cap _ (HL2.out.below HT3.out) (by omega)).mono ?_
    rintro e z4 ⟨v, rfl, o, b⟩
    rw [HE1.out]
    rw [hP1.out] at o
    have HT4 := Lib.hid (bchain HT3.out b)
    replace HLd := Lib.hid (HLd.out.below b)
    replace HLb := Lib.hid (HLb.out.below b)
    replace HLc := Lib.hid (HLc.out.below b)
    replace HKc := Lib.hid (HKc.out.below b b.size)
    replace HDx := Lib.hid (HDx.out.below b)
    obtain ⟨uo, uc, rfl, hL, _⟩ := Sn.own_ls o hQ1.out
    have uf := hL.fits
    have ur := hL.reach
    have HLu := Lib.hid hL
    clear hL o b
    clear HT3
    go_wp2_with fail
    refine (lw_leave L i ao k cap _ (HL2.out.below HT4.out) (by omega)).mono ?_
    rintro e z5 ⟨v, rfl, o, b⟩
    rw [HE2.out]
    rw [hP2.out] at o
    have HT5 := Lib.hid (bchain HT4.out b)
    replace HLd := Lib.hid (HLd.out.below b)
    replace HLb := Lib.hid (HLb.out.below b)
    replace HLc := Lib.hid (HLc.out.below b)
    replace HLu := Lib.hid (HLu.out.below b)
    replace HKc := Lib.hid (HKc.out.below b b.size)
    replace HDx := Lib.hid (HDx.out.below b)
    obtain ⟨vo, vc, rfl, hL, _⟩ := Sn.own_ls o hQ2.out
    have vf := hL.fits
    have vr := hL.reach
    have HLv := Lib.hid hL
    clear hL o b
    clear HT4
    go_wp2_with fail
    refine (lw_look L i q ao k cap z5 _ (Below.refl _ _) (HL2.out.below HT5.out)).mono ?_
    rintro e z6 ⟨rfl, b⟩
    rw [HT3.out, HO3.out, HE3.out]
    obtain ⟨Vy, hVy, hbV, hCV⟩ := Rp.boxed1 z6 T3
    have HVy := Lib.hid hVy
    have hbb := bchain b hbV
    have HT6 := Lib.hid (bchain HT5.out hbb)
    have HDy := Lib.hid hCV
    replace HLd := Lib.hid (HLd.out.below hbb)
    replace HLb := Lib.hid (HLb.out.below hbb)
    replace HLc := Lib.hid (HLc.out.below hbb)
    replace HLu := Lib.hid (HLu.out.below hbb)
    replace HLv := Lib.hid (HLv.out.below hbb)
    replace HKc := Lib.hid (HKc.out.below hbb hbb.size)
    replace HDx := Lib.hid (HDx.out.below hbb)
    obtain ⟨gy, hgy⟩ : ∃ gy, z6.heap.size = gy := ⟨_, rfl⟩
    rw [hgy] at HDy
    have HGy := Lib.hid hgy
    unfold Rp.val
    clear b hbV hCV hbb hVy hgy
    clear HT5
    generalize P1.length = p1 at *
    generalize P2.length = p2 at *
    obtain ⟨p4, hp4⟩ : ∃ p4, P4.length = p4 := ⟨_, rfl⟩
    have HP4 := Lib.hid hp4
    rw [hp4] at HLc HKc cf
    rw [hp4]
    clear hp4
    have q1 : (E1 != E1) = false := bne_self_eq_false _
    have q2 : (E2 != E2) = false := bne_self_eq_false _
    have q3 : (E3 != E3) = false := bne_self_eq_false _
    have q4 : (E4 != E4) = false := bne_self_eq_false _
    have q5 : (O3 != O3) = false := bne_self_eq_false _
    have t0 : (T3.why == T3.why) = true := beq_self_eq_true _
    have t1 : (T3.num == T3.num) = true := beq_self_eq_true _
    have t2 : (T3.gross == T3.gross) = true := beq_self_eq_true _
    have dC := HDy.out
    unfold Rp.C at dC
    obtain ⟨y0, y1, y2⟩ := dC
    have dX := HDx.out
    unfold Rp.C at dX
    obtain ⟨x0, x1, x2⟩ := dX
    clear y0 y1 y2 x0 x1 x2
    go_wp2_with fail
    rw [HVy.out, HGx.out, HGy.out]
    clear HVy HGx HGy
    refine (Sn.same_rows P1 do1 uo p1 dc uc Vy _ (Below.refl _ _) HLd.out HLu.out).mono ?_
    rintro e m1 ⟨rfl, c1⟩
    have HY1 := Lib.hid c1
    clear c1
    go_wp2_with fail
    refine (Sn.same_rows P2 bo vo p2 bc vc Vy _ HY1.out (HLb.out.below HY1.out) (HLv.out.below HY1.out)).mono ?_
    rintro e m2 ⟨rfl, c2⟩
    have HY2 := Lib.hid c2
    have hDx := HDx.out.below HY2.out
    have hDy := HDy.out.below HY2.out
    unfold Rp.C at hDx hDy
    obtain ⟨x0, x1, x2⟩ := hDx
    obtain ⟨y0, y1, y2⟩ := hDy
    clear c2 HY1
    go_wp2_with fail
    clear x0 x1 x2 y0 y1 y2
    refine (ses_right L (some ⟨g, 0, none⟩) k (k + 80) Vy _ HY2.out ((HO.out.below HT6.out).below HY2.out)).mono ?_
    rintro e m4 ⟨rfl, c4⟩
    have HY4 := Lib.hid c4
    clear c4 HY2
    go_wp2_with fail
    refine (rses_right L ao k cap Vy _ HY4.out ((HL2.out.below HT6.out).below HY4.out)).mono ?_
    rintro e m5 ⟨rfl, c5⟩
    replace HKc := Lib.hid (HKc.out.below c5 c5.size)
    replace HLc := Lib.hid (HLc.out.below c5)
    have HZ := Lib.hid (bchain HT6.out c5)
    clear c5 HY4 HLd HLb HLu HLv HDx HDy HT6
    have q6 : (Sp.rightB L != Sp.rightB L) = false := bne_self_eq_false _
    generalize hrb : Sp.rightB L = rb at *
    have HRb := Lib.hid hrb
    clear hrb
    have hCr := HCr2.out.below HZ.out
    unfold Rp.C at hCr
    obtain ⟨r0, r1, r2⟩ := hCr
    go_upto_region 17 with fail
    go_cut [139] (fun c wx => c = .bool (decide (E3 = 0) && O3) ∧ wx = m5)
    case first =>
      by_cases e3 : E3 = 0
      · have d3 : (E3 == 0) = true := beq_iff_eq.2 e3
        have D : decide (E3 = 0) = true := decide_eq_true e3
        clear e3
        go_wp2_with fail
        go_meet
        exact ⟨by rw [D, Bool.true_and], rfl⟩
      · have d3 : (E3 == 0) = false := beq_eq_false_iff_ne.2 e3
        have D : decide (E3 = 0) = false := decide_eq_false e3
        clear e3
        go_wp2_with fail
        go_meet
        exact ⟨by rw [D, Bool.false_and], rfl⟩
    case rest =>
      obtain ⟨rfl, hx⟩ := hcut
      have hx2 := hx.symm
      clear hx
      subst hx2
      go_upto_if 139 with fail
      go_cut [28, 29] (fun a b wx => ∃ (wo : Option Addr) (wc : Nat), a = .slice wo p4 wc ∧ b = .int .i64 E4 ∧ Hid (Below m5.heap.size m5 wx) ∧ Hid (Sn.Ls wx wo p4 wc P4))
      case first =>
        by_cases e3 : E3 = 0
        · cases ho : O3
          · have HK := Lib.hid (Sp.keep_ok (y := r.why) (n := r.num) (g := r.gross) (HE3.out.trans e3) (HO3.out.trans ho))
            have HX := Lib.hid (Sp.look_0 (HE3.out.trans e3)).2.1
            have hE4 : E4 = 0 := HE4.out.symm.trans HK.out.1
            have HPk : Hid (L.set (Sp.ix i L) ⟨i, q, r.why, r.num, r.gross⟩ = P4) := Lib.hid (HK.out.2.symm.trans hP4.out)
            subst e3 ho hE4
            go_wp2_with fail
            refine (rses_keep L i q r ao k cap m5 (HL2.out.below HZ.out) (by omega) HX.out).mono ?_
            rintro e m6 ⟨v6, rfl, o6, b6⟩
            rw [HPk.out] at o6
            obtain ⟨wo, wc, rfl, hL6, _⟩ := Sn.own_ls o6 hQ4.out
            rw [HP4.out] at hL6
            rw [HP4.out]
            have HL6 := Lib.hid hL6
            have HB6 := Lib.hid b6
            clear o6 b6 hL6
            go_wp2_with fail
            go_meet
            exact ⟨wo, wc, rfl, rfl, HB6, HL6⟩
          · have HK := Lib.hid (Sp.keep_old (y := r.why) (n := r.num) (g := r.gross) (HE3.out.trans e3) (HO3.out.trans ho))
            have hE4 : E4 = 12 := HE4.out.symm.trans HK.out.1
            have hP : P4 = [] := hP4.out.symm.trans HK.out.2
            have hp : p4 = 0 := by rw [← HP4.out, hP]; rfl
            subst e3 ho hE4 hp hP
            go_wp2_with fail
            go_meet
            exact ⟨none, 0, rfl, rfl, Lib.hid (Below.refl _ _), Lib.hid (Sn.ls_nil _)⟩
        · have HK := Lib.hid (Sp.keep_bad (y := r.why) (n := r.num) (g := r.gross) (l := L) (i := i) (q := q) (by rw [HE3.out]; exact e3))
          have hE4 : E4 = E3 := HE4.out.symm.trans (HK.out.1.trans HE3.out)
          have hP : P4 = [] := hP4.out.symm.trans HK.out.2
          have hp : p4 = 0 := by rw [← HP4.out, hP]; rfl
          have d3 : (E3 == 0) = false := beq_eq_false_iff_ne.2 e3
          have D : decide (E3 = 0) = false := decide_eq_false e3
          rw [D, Bool.false_and]
          subst hE4 hp hP
          clear e3
          go_wp2_with fail
          go_meet
          exact ⟨none, 0, rfl, rfl, Lib.hid (Below.refl _ _), Lib.hid (Sn.ls_nil _)⟩
      case rest =>
        obtain ⟨wo, wc, rfl, rfl, HBx, HLw⟩ := hcut
        rename World => m7
        replace HKc := Lib.hid (HKc.out.below HBx.out HBx.out.size)
        replace HLc := Lib.hid (HLc.out.below HBx.out)
        have HZ7 := Lib.hid (bchain HZ.out HBx.out)
        have wf := HLw.out.fits
        have wr' := HLw.out.reach
        clear r0 r1 r2 HBx HZ
        go_wp2_with fail
        refine (Sn.same_rows P4 co wo p4 cc wc m7 _ (Below.refl _ _) HLc.out HLw.out).mono ?_
        rintro e m8 ⟨rfl, c8⟩
        replace HKc := Lib.hid (HKc.out.below c8 c8.size)
        have HZ8 := Lib.hid (bchain HZ7.out c8)
        clear c8 HLc HLw HZ7
        go_wp2_with fail
        obtain ⟨G8, hG8⟩ : ∃ G8, m8.heap.size = G8 := ⟨_, rfl⟩
        rw [hG8] at HKc
        clear hG8
        go_loopw [30] (fun x wr => ∃ j : Nat, j ≤ p4 ∧ x = .int .i64 j ∧ Hid (Below w2.heap.size w2 wr) ∧ Hid (Sn.Blk wr w2.heap.size G8 co p4)) (fun x _ => p4 - (intOf x).toNat)
        case atStart => exact ⟨0, by omega, rfl, HZ8, HKc⟩
        case round =>
          rename World => wz
          obtain ⟨j, hj, rfl, HB, HA⟩ := hrel
          by_cases hlt : j < p4
          · obtain ⟨gc, cur, rfl, hgm, hgM, hcur, hsz⟩ := HA.out (by omega)
            have hcell : ∀ p, p < 5 → ∃ old, wz.cell? ⟨gc, j * 5 + p, none⟩ = some old := fun p hp => ⟨cur[j * 5 + p]'(by omega), by rw [cell_of_row wz gc _ _ _ _ hcur]; simp⟩
            obtain ⟨o0, e0⟩ := hcell 0 (by omega)
            obtain ⟨o1, e1⟩ := hcell 1 (by omega)
            obtain ⟨o2, e2⟩ := hcell 2 (by omega)
            obtain ⟨o3, e3⟩ := hcell 3 (by omega)
            obtain ⟨o4, e4⟩ := hcell 4 (by omega)
            rw [Nat.add_zero] at e0
            have z0 : wz.frozen? ⟨gc, j * 5, none⟩ = false := frozen_of_row wz gc _ _ _ hcur
            have z1 : wz.frozen? ⟨gc, j * 5 + 1, none⟩ = false := frozen_of_row wz gc _ _ _ hcur
            have z2 : wz.frozen? ⟨gc, j * 5 + 2, none⟩ = false := frozen_of_row wz gc _ _ _ hcur
            have z3 : wz.frozen? ⟨gc, j * 5 + 3, none⟩ = false := frozen_of_row wz gc _ _ _ hcur
            have z4 : wz.frozen? ⟨gc, j * 5 + 4, none⟩ = false := frozen_of_row wz gc _ _ _ hcur
            have HGm := Lib.hid hgm
            have hC := HC.out.below HB.out
            unfold Sn.C at hC
            obtain ⟨k0, k1, k2, k3, k4⟩ := hC
            clear hcell hcur hsz hgm hgM
            go_wp2
            go_roundw
            case rel => exact ⟨j + 1, by omega, by go_num, Lib.hid (bset (bset (bset (bset (bset HB.out HGm.out _ _) HGm.out _ _) HGm.out _ _) HGm.out _ _) HGm.out _ _), Lib.hid (((((HA.out.set _ _ _).set _ _ _).set _ _ _).set _ _ _).set _ _ _)⟩
            case measure => simp [intOf]; omega
          · obtain rfl : p4 = j := by omega
            have hC := HC.out.below HB.out
            unfold Sn.C at hC
            obtain ⟨k0, k1, k2, k3, k4⟩ := hC
            go_wp2_with fail
            refine (Sn.intact L markN ao g k cap w2 _ HB.out (HL2.out.below HB.out) (HBk.out.below HB.out) short_mark (by omega)).mono ?_
            rintro e n6 ⟨rfl, b6⟩
            have HB6 := Lib.hid b6
            clear b6
            go_wp2_with fail
            refine (snruns w2 _ HB6.out).mono ?_
            rintro e n7 ⟨rfl, b7⟩
            have HB7 := Lib.hid b7
            clear b7
            go_wp2_with fail
            go_ret
            exact ⟨rfl, bchain HBw.out HB7.out⟩
end Go.Proofs.Ytfilanbjfnnknaa
