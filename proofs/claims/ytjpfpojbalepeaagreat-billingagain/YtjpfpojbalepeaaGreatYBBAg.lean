/- THE WALK OF BillingAgain. (By gen14.py.) -/
import Derived.Test.YtjpfpojbalepeaaGreatZB14
import Derived.Deep.DeepCutAuto
set_option maxRecDepth 100000
set_option linter.unusedVariables false
namespace Go.Proofs.YtjpfpojbalepeaaGreat
open Go.RowKit
open Mem
set_option maxHeartbeats 8000000 in
theorem billingAgain_walk (rs0 : List Ca.T) (cs0 : List Bl.Cl) (ao0 : Option Addr) (n0 cap0 : Nat) (r0 : Ca.T) (c0 : Bl.Cl) (w : World) (hC : Bl.Cs w ao0 n0 cap0 rs0 cs0) (hS : Ca.Short r0) (hI : Bl.IsC w r0 c0) :
  Calls Tryz.prog 8 #[.slice ao0 n0 cap0, Ca.val r0] w fun e w' => e = .returned (.bool true) ∧ Below w.heap.size w w' := by
 obtain ⟨W, hW, hbW, hCW⟩ := Ca.boxed1 w r0
 have HBk : Hid (Ca.Bk W w.heap.size r0) := Lib.hid (by rw [← hW]; exact Ca.bk_box w r0)
 have HC := Lib.hid hC
 have HI := Lib.hid (And.intro hS hI)
 have HBW := Lib.hid hbW
 clear hC hS hI hbW hCW
 unfold Ca.val
 go_enter Tryz.func8, Tryz.ntmps8
 go_upto_region 1 with fail
 clear hW
 obtain ⟨gc, hgc⟩ : ∃ gc, w.heap.size = gc := ⟨_, rfl⟩
 rw [hgc] at HBk
 try rw [hgc]
 have HG := Lib.hid hgc
 clear hgc
 go_cut [5, 6] (fun p _ wx => ∃ (gs : Nat) (h : Bl.Sv), p = .pointer (some ⟨gs, 0, none⟩) ∧ Hid (BPr w wx gs gc h (Bl.play Bl.new (Bl.fewL 50 cs0)).1 r0 c0))
 case first =>
  go_wp2_with fail
  refine (bil_new W _ (Below.refl _ _)).mono ?_
  rintro e w1 ⟨h0, rfl, hL0, b1⟩
  have HL0 := Lib.hid hL0
  have HB1 := Lib.hid b1
  clear hL0 b1
  go_wp2_with fail
  refine (law_fewL rs0 cs0 50 ao0 n0 cap0 w _ HC.out (bchain HBW.out HB1.out) (by omega)).mono ?_
  rintro e w2 ⟨ao, n, cap, rs, rfl, hn60, hLs, hin, hE, b2⟩
  have HX := Lib.hid (And.intro hLs hE)
  have HB2 := Lib.hid b2
  clear hLs hin hE b2
  go_wp2_with fail
  refine (bil_play Bl.new (Bl.fewL 50 cs0) h0 rs ao n cap w2 _ (Below.refl _ _) (HL0.out.below HB2.out).lies ⟨HX.out.1, HX.out.2.below (bchain (bchain HBW.out HB1.out) HB2.out)⟩ Bl.right_new Bl.few_lines (by omega)).mono ?_
  rintro e w3 ⟨h, ao3, n3, cap3, rfl, hL3, _, _, b3⟩
  have HB3 := Lib.hid (bchain (bchain HB1.out HB2.out) b3)
  have HZ : Hid (BPr w (Bl.box w3 h) w3.heap.size gc h (Bl.play Bl.new (Bl.fewL 50 cs0)).1 r0 c0) := Lib.hid ⟨bchain (bchain HBW.out HB3.out) (Bl.below_own w3 h), Nat.le_of_eq HG.out, Nat.lt_of_lt_of_le HBk.out.lt HB3.out.size, Bl.at_box w3 h, (hL3.below (Bl.below_own w3 h)).mono (by have := HBk.out.lt; have := HB1.out.size; have := HB2.out.size; omega), Bl.Right.played Bl.right_new, (HBk.out.below HB3.out).below (Bl.below_own w3 h), HI.out.1, HI.out.2⟩
  clear hL3 b3 HX HB1 HB2 HL0 HB3
  go_wp2_with (first | ((with_reducible apply Bl.wpl_store (h := h) (g := w3.heap.size)); rfl; rfl; rfl; rfl; rfl; rfl))
  go_meet
  exact ⟨_, h, rfl, HZ⟩
 case rest =>
  rename World => X
  obtain ⟨gs, h, rfl, HP⟩ := hcut
  have HRs : Hid (∃ cs : List Bl.Cl, (Bl.play Bl.new (Bl.fewL 50 cs0)).1 = (Bl.play Bl.new cs).1) := Lib.hid ⟨_, rfl⟩
  generalize (Bl.play Bl.new (Bl.fewL 50 cs0)).1 = s at *
  clear HBk HBW HC HG
  go_upto_region 2 with fail
  go_cut [3] (fun p wx => p = .pointer (some ⟨gc, 0, none⟩) ∧ Hid (BPr w wx gs gc h s (Ca.cut r0) (Bl.cut c0)))
  case first =>
   have hC3 := HP.out.call.c
   have HCs := Lib.hid (Bl.one_cs (c := c0) (heap_alloc_new X (Ca.block r0)) HP.out.short ((HP.out.isC.below HP.out.bel).below ((Below.refl _ _).alloc (Nat.le_refl _) _)))
   go_wp2_with (first | ((with_reducible apply Ca.wpl_loadC hC3); rfl; rfl; rfl) | ((with_reducible apply Ca.wpl_one (r := r0)); rfl; rfl; rfl))
   refine (law_few [r0] [c0] 1 (some ⟨X.heap.size, 0, none⟩) 1 1 _ HCs.out (by omega)).mono ?_
   rintro e w2 ⟨v, rfl, hO, _, b2⟩
   have hO' : Ca.Own w2 (X.alloc (Ca.block r0)).heap.size v [Ca.cut r0] := hO
   obtain ⟨ao, cap, rfl, hLs, _⟩ := Ca.own_ls hO' (fun x hx => by obtain rfl := List.mem_singleton.1 hx; exact Ca.short_cut HP.out.short)
   obtain ⟨b, off, rfl⟩ := hLs.at (by show 0 < 1; omega)
   have hrow := hLs.row 0 (by show 0 < 1; omega)
   have hrow' : Ca.At w2 b off (Ca.cut r0) := by simpa using hrow
   have hcap := hLs.reach
   have hfit := hLs.fits
   have HP2 := Lib.hid (HP.out.below (bchain ((Below.refl _ _).alloc (Nat.le_refl _) (Ca.block r0)) b2))
   have hBk := HP2.out.call
   have HN := Lib.hid (HP2.out.lay (Ca.short_cut HP.out.short) HP.out.isC.cut)
   clear hO hO' hLs b2 hrow hC3 HCs
   simp only [List.length_cons, List.length_nil, Nat.zero_add] at hfit ⊢
   go_wp2_with (first | ((with_reducible apply Ca.wpl_load hrow'); rfl; rfl; rfl) | ((with_reducible apply Ca.wpl_lay (r := Ca.cut r0) hBk); rfl; rfl; rfl; rfl))
   go_meet
   exact ⟨rfl, HN⟩
  case rest =>
   rename World => Y
   obtain ⟨rfl, HQ⟩ := hcut
   clear HP
   have HLn := Lib.hid (Bl.cut_lines c0)
   generalize Ca.cut r0 = r at *
   generalize Bl.cut c0 = c at *
   go_upto_region 3 with fail
   go_cut [7, 8] (fun p q wx => ∃ (gt gr : Nat) (h1 : Bl.Sv), p = .pointer (some ⟨gt, 0, none⟩) ∧ q = .pointer (some ⟨gr, 0, none⟩) ∧ Hid (Below Y.heap.size Y wx) ∧ Hid (Bl.At wx gt h1 ∧ gc < gt ∧ Bl.LiesA (gc + 1) wx h1 (Bl.apply s c).1 ∧ Rp.C wx gr (Bl.apply s c).2))
   case first =>
    have hA := HQ.out.box
    have hC3 := HQ.out.call.c
    go_wp2_with (first | ((with_reducible apply Bl.wpl_load hA); rfl; rfl; rfl) | ((with_reducible apply Ca.wpl_loadC hC3); rfl; rfl; rfl))
    refine (bil_apply s c h r Y _ (Below.refl _ _) HQ.out.lies.lies (HQ.out.isC.below HQ.out.bel) HQ.out.short HQ.out.right HLn.out).mono ?_
    rintro e w3 ⟨h1, rfl, hL1, b3⟩
    generalize (Bl.apply s c).2 = rp at *
    have hb4 := Bl.below_own w3 h1
    have hb5 := Rp.below_own (Bl.box w3 h1) rp
    have hr := Rp.c_box (Bl.box w3 h1) rp
    rw [Bl.box_size] at hr
    have HB3 := Lib.hid (bchain (bchain b3 hb4) hb5)
    have HZ := Lib.hid (And.intro ((Bl.at_box w3 h1).below hb5) (And.intro (show gc < w3.heap.size from Nat.lt_of_lt_of_le HQ.out.call.lt b3.size) (And.intro (((hL1.mono (show gc + 1 ≤ Y.heap.size from HQ.out.call.lt)).below hb4).below hb5) hr)))
    clear hL1 b3 hb4 hb5 hr hA hC3
    unfold Bl.box Rp.box Bl.sl at HB3 HZ
    unfold Bl.Sv.val Bl.sl Rp.val
    go_wp2_with fail
    go_meet
    exact ⟨_, _, h1, rfl, rfl, HB3, HZ⟩
   case rest =>
    rename World => Z
    obtain ⟨gt, gr, h1, rfl, rfl, HBZ, HT⟩ := hcut
    have HQ2 : Hid (BPr w Z gt gc h1 (Bl.apply s c).1 r c) := Lib.hid ⟨bchain HQ.out.bel HBZ.out, HQ.out.out, HT.out.2.1, HT.out.1, HT.out.2.2.1, HQ.out.right.applied c, HQ.out.call.below HBZ.out, HQ.out.short, HQ.out.isC⟩
    have HRr := Lib.hid HQ.out.right
    clear HQ
    go_upto_region 4 with fail
    go_cut [9, 10] (fun p q wx => ∃ (gt gr : Nat) (h1 : Bl.Sv), p = .pointer (some ⟨gt, 0, none⟩) ∧ q = .pointer (some ⟨gr, 0, none⟩) ∧ Hid (Below Z.heap.size Z wx) ∧ Hid (Bl.At wx gt h1 ∧ gc < gt ∧ Bl.LiesA (gc + 1) wx h1 (Bl.apply (Bl.apply s c).1 c).1 ∧ Rp.C wx gr (Bl.apply (Bl.apply s c).1 c).2))
    case first =>
     have hA := HQ2.out.box
     have hC3 := HQ2.out.call.c
     go_wp2_with (first | ((with_reducible apply Bl.wpl_load hA); rfl; rfl; rfl) | ((with_reducible apply Ca.wpl_loadC hC3); rfl; rfl; rfl))
     refine (bil_apply (Bl.apply s c).1 c h1 r Z _ (Below.refl _ _) HQ2.out.lies.lies (HQ2.out.isC.below HQ2.out.bel) HQ2.out.short HQ2.out.right HLn.out).mono ?_
     rintro e w3 ⟨h1, rfl, hL1, b3⟩
     generalize (Bl.apply (Bl.apply s c).1 c).2 = rp at *
     have hb4 := Bl.below_own w3 h1
     have hb5 := Rp.below_own (Bl.box w3 h1) rp
     have hr := Rp.c_box (Bl.box w3 h1) rp
     rw [Bl.box_size] at hr
     have HB3 := Lib.hid (bchain (bchain b3 hb4) hb5)
     have HZ := Lib.hid (And.intro ((Bl.at_box w3 h1).below hb5) (And.intro (show gc < w3.heap.size from Nat.lt_of_lt_of_le HQ2.out.call.lt b3.size) (And.intro (((hL1.mono (show gc + 1 ≤ Z.heap.size from HQ2.out.call.lt)).below hb4).below hb5) hr)))
     clear hL1 b3 hb4 hb5 hr hA hC3
     unfold Bl.box Rp.box Bl.sl at HB3 HZ
     unfold Bl.Sv.val Bl.sl Rp.val
     go_wp2_with fail
     go_meet
     exact ⟨_, _, h1, rfl, rfl, HB3, HZ⟩
    case rest =>
     rename World => V
     obtain ⟨gu, gq, h2, rfl, rfl, HBV, HU⟩ := hcut
     have HQ3 := Lib.hid (HQ2.out.below HBV.out)
     have HT3 := Lib.hid (HT.out.2.2.2.below HBV.out)
     clear HQ2 HT HBZ HBV
     have hC := HQ3.out.call.c
     unfold Ca.C at hC
     obtain ⟨c0', c1', c2', c3', c4', c5', c6', c7', c8', c9', c10', c11', c12', c13', c14', c15', c16'⟩ := hC
     have HK := Lib.hid (And.intro HQ3.out.isC.kind (And.intro HQ3.out.isC.csess HQ3.out.isC.sess))
     have key : Hid ((Bl.apply (Bl.apply s c).1 c) = Bl.apply s c) ∨ (c.cmd.kind = 6 ∨ (c.cmd.kind = 7 ∧ c.cmd.sess = c.sess)) := by
      by_cases k6 : c.cmd.kind = 6
      · exact .inr (.inl k6)
      ·
       by_cases k7 : c.cmd.kind = 7 ∧ c.cmd.sess = c.sess
       · exact .inr (.inr k7)
       · exact .inl (Lib.hid (Bl.made_again HRr.out k6 k7))
     by_cases k6 : r.kind = 6
     ·
      have q6 : (r.kind == 6) = true := beq_iff_eq.2 k6
      clear key k6
      go_wp2_with fail
      refine (bruns w _ HQ3.out.bel).mono ?_
      rintro e w6 ⟨rfl, b6⟩
      have HB6 := Lib.hid b6
      clear b6
      go_wp2_with fail
      go_ret
      exact ⟨rfl, HB6.out⟩
     ·
      have q6 : (r.kind == 6) = false := beq_eq_false_iff_ne.2 k6
      by_cases k7 : r.kind = 7
      ·
       have q7 : (r.kind == 7) = true := beq_iff_eq.2 k7
       by_cases k8 : r.csess = r.sess
       ·
        have q8 : (r.csess == r.sess) = true := beq_iff_eq.2 k8
        clear key k6 k7 k8
        go_wp2_with fail
        refine (bruns w _ HQ3.out.bel).mono ?_
        rintro e w6 ⟨rfl, b6⟩
        have HB6 := Lib.hid b6
        clear b6
        go_wp2_with fail
        go_ret
        exact ⟨rfl, HB6.out⟩
       ·
        have q8 : (r.csess == r.sess) = false := beq_eq_false_iff_ne.2 k8
        have HE : Hid (Bl.apply (Bl.apply s c).1 c = Bl.apply s c) := key.resolve_right (by rintro (k | ⟨_, k⟩); exact k6 (HK.out.1.trans k); exact k8 (by rw [HK.out.2.1, HK.out.2.2, k]))
        clear key k6 k7 k8
        rw [HE.out] at HU
        generalize (Bl.apply s c).1 = t at *
        generalize (Bl.apply s c).2 = rp at *
        have hr1 := HT3.out
        have hr2 := HU.out.2.2.2
        unfold Rp.C at hr1 hr2
        obtain ⟨p0, p1, p2⟩ := hr1
        obtain ⟨s0, s1, s2⟩ := hr2
        obtain ⟨x0, x1, x2, x3, x4, x5⟩ := HQ3.out.box.cells
        obtain ⟨y0, y1, y2, y3, y4, y5⟩ := HU.out.1.cells
        have z0 : (rp.why == rp.why) = true := beq_self_eq_true _
        have z1 : (rp.num == rp.num) = true := beq_self_eq_true _
        have z2 : (rp.gross == rp.gross) = true := beq_self_eq_true _
        go_wp2_with fail
        refine (keep_states t h1 h2 V _ (Below.refl _ _) HQ3.out.lies.lies HU.out.2.2.1.lies).mono ?_
        rintro e w5 ⟨rfl, b5⟩
        have HB5 := Lib.hid (bchain HQ3.out.bel b5)
        clear b5 p0 p1 p2 s0 s1 s2 x0 x1 x2 x3 x4 x5 y0 y1 y2 y3 y4 y5 c0' c1' c2' c3' c4' c5' c6' c7' c8' c9' c10' c11' c12' c13' c14' c15' c16'
        go_wp2_with fail
        refine (bruns w _ HB5.out).mono ?_
        rintro e w6 ⟨rfl, b6⟩
        have HB6 := Lib.hid b6
        clear b6
        go_wp2_with fail
        go_ret
        exact ⟨rfl, HB6.out⟩
      ·
       have q7 : (r.kind == 7) = false := beq_eq_false_iff_ne.2 k7
       have HE : Hid (Bl.apply (Bl.apply s c).1 c = Bl.apply s c) := key.resolve_right (by rintro (k | ⟨k, _⟩); exact k6 (HK.out.1.trans k); exact k7 (HK.out.1.trans k))
       clear key k6 k7
       rw [HE.out] at HU
       generalize (Bl.apply s c).1 = t at *
       generalize (Bl.apply s c).2 = rp at *
       have hr1 := HT3.out
       have hr2 := HU.out.2.2.2
       unfold Rp.C at hr1 hr2
       obtain ⟨p0, p1, p2⟩ := hr1
       obtain ⟨s0, s1, s2⟩ := hr2
       obtain ⟨x0, x1, x2, x3, x4, x5⟩ := HQ3.out.box.cells
       obtain ⟨y0, y1, y2, y3, y4, y5⟩ := HU.out.1.cells
       have z0 : (rp.why == rp.why) = true := beq_self_eq_true _
       have z1 : (rp.num == rp.num) = true := beq_self_eq_true _
       have z2 : (rp.gross == rp.gross) = true := beq_self_eq_true _
       go_wp2_with fail
       refine (keep_states t h1 h2 V _ (Below.refl _ _) HQ3.out.lies.lies HU.out.2.2.1.lies).mono ?_
       rintro e w5 ⟨rfl, b5⟩
       have HB5 := Lib.hid (bchain HQ3.out.bel b5)
       clear b5 p0 p1 p2 s0 s1 s2 x0 x1 x2 x3 x4 x5 y0 y1 y2 y3 y4 y5 c0' c1' c2' c3' c4' c5' c6' c7' c8' c9' c10' c11' c12' c13' c14' c15' c16'
       go_wp2_with fail
       refine (bruns w _ HB5.out).mono ?_
       rintro e w6 ⟨rfl, b6⟩
       have HB6 := Lib.hid b6
       clear b6
       go_wp2_with fail
       go_ret
       exact ⟨rfl, HB6.out⟩
end Go.Proofs.YtjpfpojbalepeaaGreat
