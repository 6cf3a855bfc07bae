/- THE WALK OF BillingRefused. (By gen14.py.) -/
import Derived.Test.YtjpfpojbalepeabGreatZB214
import Derived.Deep.DeepCutAuto
set_option maxRecDepth 100000
set_option linter.unusedVariables false
namespace Go.Proofs.YtjpfpojbalepeabGreat
open Go.RowKit
open Mem
set_option maxHeartbeats 8000000 in
theorem billingRefused_walk (rs0 : List Ca.T) (cs0 : List Bl.Cl) (ao0 : Option Addr) (n0 cap0 : Nat) (r0 : Ca.T) (c0 : Bl.Cl) (w : World) (hC : Bl.Cs w ao0 n0 cap0 rs0 cs0) (hS : Ca.Short r0) (hI : Bl.IsC w r0 c0) :
  Calls Tryz.prog 3 #[.slice ao0 n0 cap0,Ca.val r0] w fun e w' => e = .returned (.bool true) ∧ Below w.heap.size w w' := by
 obtain ⟨W,hW,hbW,hCW⟩ := Ca.boxed1 w r0
 have HBk : Hid (Ca.Bk W w.heap.size r0) := Lib.hid (by rw [← hW]; exact Ca.bk_box w r0)
 have HC := Lib.hid hC
 have HI := Lib.hid (And.intro hS hI)
 have HBW := Lib.hid hbW
 clear hC hS hI hbW hCW
 unfold Ca.val
 go_enter Tryz.func3,Tryz.ntmps3
 go_upto_region 1 with fail
 clear hW
 obtain ⟨gc,hgc⟩ : ∃ gc,w.heap.size = gc := ⟨_,rfl⟩
 rw [hgc] at HBk
 try rw [hgc]
 have HG := Lib.hid hgc
 clear hgc
 go_cut [5,6] (fun p _ wx => ∃ (gs : Nat) (h : Bl.Sv),p = .pointer (some ⟨gs,0,none⟩) ∧ Hid (BPr w wx gs gc h (Bl.play Bl.new (Bl.fewL 50 cs0)).1 r0 c0))
 case first =>
  go_wp2_with fail
  refine (bil_new W _ (Below.refl _ _)).mono ?_
  rintro e w1 ⟨h0,rfl,hL0,b1⟩
  have HL0 := Lib.hid hL0
  have HB1 := Lib.hid b1
  clear hL0 b1
  go_wp2_with fail
  refine (law_fewL rs0 cs0 50 ao0 n0 cap0 w _ HC.out (bchain HBW.out HB1.out) (by omega)).mono ?_
  rintro e w2 ⟨ao,n,cap,rs,rfl,hn60,hLs,hin,hE,b2⟩
  have HX := Lib.hid (And.intro hLs hE)
  have HB2 := Lib.hid b2
  clear hLs hin hE b2
  go_wp2_with fail
  refine (bil_play Bl.new (Bl.fewL 50 cs0) h0 rs ao n cap w2 _ (Below.refl _ _) (HL0.out.below HB2.out).lies ⟨HX.out.1,HX.out.2.below (bchain (bchain HBW.out HB1.out) HB2.out)⟩ Bl.right_new Bl.few_lines (by omega)).mono ?_
  rintro e w3 ⟨h,ao3,n3,cap3,rfl,hL3,_,_,b3⟩
  have HB3 := Lib.hid (bchain (bchain HB1.out HB2.out) b3)
  have HZ : Hid (BPr w (Bl.box w3 h) w3.heap.size gc h (Bl.play Bl.new (Bl.fewL 50 cs0)).1 r0 c0) := Lib.hid ⟨bchain (bchain HBW.out HB3.out) (Bl.below_own w3 h),Nat.le_of_eq HG.out,Nat.lt_of_lt_of_le HBk.out.lt HB3.out.size,Bl.at_box w3 h,(hL3.below (Bl.below_own w3 h)).mono (by have := HBk.out.lt; have := HB1.out.size; have := HB2.out.size; omega),Bl.Right.played Bl.right_new,(HBk.out.below HB3.out).below (Bl.below_own w3 h),HI.out.1,HI.out.2⟩
  clear hL3 b3 HX HB1 HB2 HL0 HB3
  go_wp2_with (first | ((with_reducible apply Bl.wpl_store (h := h) (g := w3.heap.size)); rfl; rfl; rfl; rfl; rfl; rfl))
  go_meet
  exact ⟨_,h,rfl,HZ⟩
 case rest =>
  rename World => X
  obtain ⟨gs,h,rfl,HP⟩ := hcut
  have HRs : Hid (∃ cs : List Bl.Cl,(Bl.play Bl.new (Bl.fewL 50 cs0)).1 = (Bl.play Bl.new cs).1) := Lib.hid ⟨_,rfl⟩
  generalize (Bl.play Bl.new (Bl.fewL 50 cs0)).1 = s at *
  clear HBk HBW HC HG
  go_upto_region 2 with fail
  go_cut [3] (fun p wx => p = .pointer (some ⟨gc,0,none⟩) ∧ Hid (BPr w wx gs gc h s (Ca.cut r0) (Bl.cut c0)))
  case first =>
   have hC3 := HP.out.call.c
   have HCs := Lib.hid (Bl.one_cs (c := c0) (heap_alloc_new X (Ca.block r0)) HP.out.short ((HP.out.isC.below HP.out.bel).below ((Below.refl _ _).alloc (Nat.le_refl _) _)))
   go_wp2_with (first | ((with_reducible apply Ca.wpl_loadC hC3); rfl; rfl; rfl) | ((with_reducible apply Ca.wpl_one (r := r0)); rfl; rfl; rfl))
   refine (law_few [r0] [c0] 1 (some ⟨X.heap.size,0,none⟩) 1 1 _ HCs.out (by omega)).mono ?_
   rintro e w2 ⟨v,rfl,hO,_,b2⟩
   have hO' : Ca.Own w2 (X.alloc (Ca.block r0)).heap.size v [Ca.cut r0] := hO
   obtain ⟨ao,cap,rfl,hLs,_⟩ := Ca.own_ls hO' (fun x hx => by obtain rfl := List.mem_singleton.1 hx; exact Ca.short_cut HP.out.short)
   obtain ⟨b,off,rfl⟩ := hLs.at (by show 0 < 1; omega)
   have hrow := hLs.row 0 (by show 0 < 1; omega)
   have hrow' : Ca.At w2 b off (Ca.cut r0) := by simpa using hrow
   have hcap := hLs.reach
   have hfit := hLs.fits
   have HP2 := Lib.hid (HP.out.below (bchain ((Below.refl _ _).alloc (Nat.le_refl _) (Ca.block r0)) b2))
   have hBk := HP2.out.call
   have HN := Lib.hid (HP2.out.lay (Ca.short_cut HP.out.short) HP.out.isC.cut)
   clear hO hO' hLs b2 hrow hC3 HCs
   simp only [List.length_cons,List.length_nil,Nat.zero_add] at hfit ⊢
   go_wp2_with (first | ((with_reducible apply Ca.wpl_load hrow'); rfl; rfl; rfl) | ((with_reducible apply Ca.wpl_lay (r := Ca.cut r0) hBk); rfl; rfl; rfl; rfl))
   go_meet
   exact ⟨rfl,HN⟩
  case rest =>
   rename World => Y
   obtain ⟨rfl,HQ⟩ := hcut
   clear HP
   have HLn := Lib.hid (Bl.cut_lines c0)
   generalize Ca.cut r0 = r at *
   generalize Bl.cut c0 = c at *
   go_upto_region 3 with fail
   go_cut [7,8] (fun p q wx => ∃ (gt gr : Nat) (h1 : Bl.Sv),p = .pointer (some ⟨gt,0,none⟩) ∧ q = .pointer (some ⟨gr,0,none⟩) ∧ Hid (Below Y.heap.size Y wx) ∧ Hid (Bl.At wx gt h1 ∧ gc < gt ∧ Bl.LiesA (gc + 1) wx h1 (Bl.apply s c).1 ∧ Rp.C wx gr (Bl.apply s c).2))
   case first =>
    have hA := HQ.out.box
    have hC3 := HQ.out.call.c
    go_wp2_with (first | ((with_reducible apply Bl.wpl_load hA); rfl; rfl; rfl) | ((with_reducible apply Ca.wpl_loadC hC3); rfl; rfl; rfl))
    refine (bil_apply s c h r Y _ (Below.refl _ _) HQ.out.lies.lies (HQ.out.isC.below HQ.out.bel) HQ.out.short HQ.out.right HLn.out).mono ?_
    rintro e w3 ⟨h1,rfl,hL1,b3⟩
    generalize (Bl.apply s c).2 = rp at *
    have hb4 := Bl.below_own w3 h1
    have hb5 := Rp.below_own (Bl.box w3 h1) rp
    have hr := Rp.c_box (Bl.box w3 h1) rp
    rw [Bl.box_size] at hr
    have HB3 := Lib.hid (bchain (bchain b3 hb4) hb5)
    have HZ := Lib.hid (And.intro ((Bl.at_box w3 h1).below hb5) (And.intro (show gc < w3.heap.size from Nat.lt_of_lt_of_le HQ.out.call.lt b3.size) (And.intro (((hL1.mono (show gc + 1 ≤ Y.heap.size from HQ.out.call.lt)).below hb4).below hb5) hr)))
    clear hL1 b3 hb4 hb5 hr hA hC3
    unfold Bl.box Rp.box Bl.sl at HB3 HZ
    unfold Bl.Sv.val Bl.sl Rp.val
    go_wp2_with fail
    go_meet
    exact ⟨_,_,h1,rfl,rfl,HB3,HZ⟩
   case rest =>
    rename World => Z
    obtain ⟨gt,gr,h1,rfl,rfl,HBZ,HT⟩ := hcut
    have HTd : Hid (Bl.Told s) := by
     obtain ⟨cs,hcs⟩ := HRs.out
     rw [hcs]
     exact Lib.hid (Bl.Told.played Bl.right_new Bl.told_new)
    have HQ2 := Lib.hid (HQ.out.below HBZ.out)
    clear HQ HBZ HRs
    have HRf := Lib.hid (Bl.refused (c := c) HTd.out)
    have HRw := Lib.hid (Bl.refused_whole (c := c) HTd.out)
    obtain ⟨t,ht⟩ : ∃ t,(Bl.apply s c).1 = t := ⟨_,rfl⟩
    obtain ⟨rp,hrp⟩ : ∃ rp,(Bl.apply s c).2 = rp := ⟨_,rfl⟩
    rw [ht,hrp] at HT HRf HRw
    clear ht hrp HTd
    have hr1 := HT.out.2.2.2
    unfold Rp.C at hr1
    obtain ⟨p0,p1,p2⟩ := hr1
    by_cases hw : rp.why = 0
    ·
     have q0 : (rp.why == 0) = true := beq_iff_eq.2 hw
     clear hw
     go_wp2_with fail
     refine (bruns w _ HQ2.out.bel).mono ?_
     rintro e w6 ⟨rfl,b6⟩
     have HB6 := Lib.hid b6
     clear b6
     go_wp2_with fail
     go_ret
     exact ⟨rfl,HB6.out⟩
    ·
     have q0 : (rp.why == 0) = false := beq_eq_false_iff_ne.2 hw
     have HF := Lib.hid (HRf.out hw)
     obtain ⟨x0,x1,x2,x3,x4,x5⟩ := HQ2.out.box.cells
     obtain ⟨y0,y1,y2,y3,y4,y5⟩ := HT.out.1.cells
     by_cases hs : rp.why = 15 ∨ rp.why = 16 ∨ rp.why = 17
     ·
      have HE := Lib.hid (HRw.out hs)
      have HL1 := Lib.hid HT.out.2.2.1.lies
      rw [HE.out] at HL1
      have pick : ∃ a b c : Bool,(rp.why == 16) = a ∧ (rp.why == 15) = b ∧ (rp.why == 17) = c ∧ ((a || b) || c) = true := ⟨_,_,_,rfl,rfl,rfl,by rcases hs with k | k | k <;> rw [k] <;> rfl⟩
      obtain ⟨a,b,c',ha,hb,hc,habc⟩ := pick
      clear hs hw
      cases a
      ·
       cases b
       ·
        cases c'
        · cases habc
        ·
         go_wp2_with fail
         refine (keep_states s h h1 Z _ (Below.refl _ _) HQ2.out.lies.lies HL1.out).mono ?_
         rintro e w5 ⟨rfl,b5⟩
         have HB5 := Lib.hid (bchain HQ2.out.bel b5)
         clear b5 x0 x1 x2 x3 x4 x5 y0 y1 y2 y3 y4 y5
         go_wp2_with fail
         refine (bruns w _ HB5.out).mono ?_
         rintro e w6 ⟨rfl,b6⟩
         have HB6 := Lib.hid b6
         clear b6
         go_wp2_with fail
         go_ret
         exact ⟨rfl,HB6.out⟩
       ·
        go_wp2_with fail
        refine (keep_states s h h1 Z _ (Below.refl _ _) HQ2.out.lies.lies HL1.out).mono ?_
        rintro e w5 ⟨rfl,b5⟩
        have HB5 := Lib.hid (bchain HQ2.out.bel b5)
        clear b5 x0 x1 x2 x3 x4 x5 y0 y1 y2 y3 y4 y5
        go_wp2_with fail
        refine (bruns w _ HB5.out).mono ?_
        rintro e w6 ⟨rfl,b6⟩
        have HB6 := Lib.hid b6
        clear b6
        go_wp2_with fail
        go_ret
        exact ⟨rfl,HB6.out⟩
      ·
       go_wp2_with fail
       refine (keep_states s h h1 Z _ (Below.refl _ _) HQ2.out.lies.lies HL1.out).mono ?_
       rintro e w5 ⟨rfl,b5⟩
       have HB5 := Lib.hid (bchain HQ2.out.bel b5)
       clear b5 x0 x1 x2 x3 x4 x5 y0 y1 y2 y3 y4 y5
       go_wp2_with fail
       refine (bruns w _ HB5.out).mono ?_
       rintro e w6 ⟨rfl,b6⟩
       have HB6 := Lib.hid b6
       clear b6
       go_wp2_with fail
       go_ret
       exact ⟨rfl,HB6.out⟩
     ·
      have n1 : (rp.why == 16) = false := beq_eq_false_iff_ne.2 fun k => hs (.inr (.inl k))
      have n2 : (rp.why == 15) = false := beq_eq_false_iff_ne.2 fun k => hs (.inl k)
      have n3 : (rp.why == 17) = false := beq_eq_false_iff_ne.2 fun k => hs (.inr (.inr k))
      clear hs hw
      have HLs : Hid (h.sess.n = h1.sess.n) := Lib.hid (by rw [HQ2.out.lies.sess.len,HT.out.2.2.1.sess.len,HF.out.1.sess])
      go_upto_region 8 with fail
      go_cut [9,10] (fun p q wx => ∃ ga gb : Nat,p = .pointer (some ⟨ga,0,none⟩) ∧ q = .pointer (some ⟨gb,0,none⟩) ∧ Hid (Below Z.heap.size Z wx) ∧ Hid (Z.heap.size ≤ ga ∧ Z.heap.size ≤ gb ∧ ga ≠ gb ∧ Bl.At wx ga h ∧ Bl.At wx gb h1))
      case first =>
       go_upto_region 8 with fail
       have HA1 := Lib.hid (Bl.two_box Z h h1)
       have HA2 := Lib.hid (Bl.two_box Z h1 h)
       unfold Bl.box Bl.sl at HA1 HA2
       have l1 := HQ2.out.box.lt
       have l2 := HT.out.1.lt
       have l3 : gs ≠ Z.heap.size := by omega
       have l4 : gt ≠ Z.heap.size := by omega
       have l5 : gs < Z.heap.size + 1 := by omega
       have l6 : gt < Z.heap.size + 1 := by omega
       go_region
       all_goals (try go_wp2_with fail)
       all_goals go_meet
       all_goals first | exact ⟨_,_,rfl,rfl,Lib.hid (HA1.out.1.drew),Lib.hid ⟨Nat.le_refl _,Nat.le_succ _,by omega,HA1.out.2.1,HA1.out.2.2⟩⟩ | exact ⟨_,_,rfl,rfl,Lib.hid (HA2.out.1.drew),Lib.hid ⟨Nat.le_succ _,Nat.le_refl _,by omega,HA2.out.2.2,HA2.out.2.1⟩⟩ | exact ⟨_,_,rfl,rfl,Lib.hid (HA1.out.1),Lib.hid ⟨Nat.le_refl _,Nat.le_succ _,by omega,HA1.out.2.1,HA1.out.2.2⟩⟩ | exact ⟨_,_,rfl,rfl,Lib.hid (HA2.out.1),Lib.hid ⟨Nat.le_succ _,Nat.le_refl _,by omega,HA2.out.2.2,HA2.out.2.1⟩⟩
      case rest =>
       rename World => V
       obtain ⟨ga,gb,rfl,rfl,HBV,HV⟩ := hcut
       clear x0 x1 x2 x3 x4 x5 y0 y1 y2 y3 y4 y5 p0 p1 p2
       obtain ⟨x0,x1,x2,x3,x4,x5⟩ := HV.out.2.2.2.1.cells
       obtain ⟨y0,y1,y2,y3,y4,y5⟩ := HV.out.2.2.2.2.cells
       have f0 := HV.out.2.2.2.1.frozen 4
       have f1 := HV.out.2.2.2.2.frozen 4
       have hne := HV.out.2.2.1
       have hne' : gb ≠ ga := fun k => hne k.symm
       have hA1 := (HV.out.2.2.2.1.bare).far hne 4 (.slice none 0 0)
       have hA2 := (HV.out.2.2.2.2.far hne' 4 (.slice none 0 0)).bare
       have HBX := Lib.hid (bset (bset HBV.out HV.out.1 4 (.slice none 0 0)) HV.out.2.1 4 (.slice none 0 0))
       have HA := Lib.hid (And.intro hA1 hA2)
       have HG0 := Lib.hid (HQ2.out.box.below HBX.out)
       have HG1 := Lib.hid (HT.out.1.below HBX.out)
       have HG2 := Lib.hid (HT.out.2.2.2.below HBX.out)
       clear hA1 hA2
       go_upto_region 10 with fail
       generalize (V.setCell ⟨ga,4,none⟩ (.slice none 0 0)).setCell ⟨gb,4,none⟩ (.slice none 0 0) = X2 at *
       clear x0 x1 x2 x3 x4 x5 y0 y1 y2 y3 y4 y5 f0 f1 hne hne' HV HBV
       have hA1 := HA.out.1
       have hA2 := HA.out.2
       have HLt := Lib.hid (HT.out.2.2.1.lies.bare.below HBX.out)
       have HEb : Hid (t.bare = s.bare) := Lib.hid (by unfold Bl.St.bare; rw [HF.out.1.tab,HF.out.1.ser,HF.out.1.post,HF.out.1.book,HF.out.1.next])
       rw [HEb.out] at HLt
       go_wp2_with (first | ((with_reducible apply Bl.wpl_load hA1); rfl; rfl; rfl) | ((with_reducible apply Bl.wpl_load hA2); rfl; rfl; rfl))
       refine (keep_states s.bare h.bare h1.bare X2 _ (Below.refl _ _) (HQ2.out.lies.lies.bare.below HBX.out) HLt.out).mono ?_
       rintro e w5 ⟨rfl,b5⟩
       have HB5 := Lib.hid (bchain (bchain HQ2.out.bel HBX.out) b5)
       obtain ⟨x0,x1,x2,x3,x4,x5⟩ := (HG0.out.below b5).cells
       obtain ⟨y0,y1,y2,y3,y4,y5⟩ := (HG1.out.below b5).cells
       have hr1 := HG2.out.below b5
       unfold Rp.C at hr1
       obtain ⟨p0,p1,p2⟩ := hr1
       have q1 : (rp.num == 0) = true := beq_iff_eq.2 HF.out.2.1
       have q2 : (rp.gross == 0) = true := beq_iff_eq.2 HF.out.2.2.1
       have q3 : ((h.sess.n : Int) == (h1.sess.n : Int)) = true := beq_iff_eq.2 (by rw [HLs.out])
       clear b5 hA1 hA2
       go_wp2_with fail
       refine (bruns w _ HB5.out).mono ?_
       rintro e w6 ⟨rfl,b6⟩
       have HB6 := Lib.hid b6
       clear b6
       go_wp2_with fail
       go_ret
       exact ⟨rfl,HB6.out⟩
end Go.Proofs.YtjpfpojbalepeabGreat
