/- WalKeeps, walked. (By genwlke.py.) -/
import Derived.Test.YtlmjeackfepllaaGreatDoorZWk11
import Derived.Deep.DeepCutAuto
import Derived.Deep.CutBlock
import Derived.Deep.RegionLaw
import Derived.Deep.RegionWith
import Derived.Deep.RegionHeld3
set_option maxRecDepth 100000
set_option linter.unusedVariables false
namespace Go.Proofs.YtlmjeackfepllaaGreatDoor.Wl
open Go.RowKit
open Mem Dk
def kr0 : Hd.T := ⟨0,-1,0,0,7,⟨#[]⟩,⟨none,0,0⟩⟩
theorem kr0_ok : right (Hd.h kr0 []) = true := by decide
theorem cells_of {u : World} {b : Nat} {r : Hd.T} (h : Hd.Block u b [r]) : ∀ y,Below u.heap.size u y → Hd.C y b r := fun y k => (show Hd.Block y b [r] from h.below k).cells
section
variable {R : Nat → Prop} {w0 w u : World} {g p n i b : Nat} {s : Sg} {d : D} {r : Hd.T} {l : List Et.T}
theorem same_bare (hw : Ws R w0 w g p n s d) (hk : Kn R w0 w b r l) (hs : s.h = (Hd.h r l).bare) (v : Sl) (k : Below w.heap.size w u) (hl : Hl R u (row s.h v) s.h.log) :
  Calls Tryz.prog 14 #[Hd.val (row s.h v),Hd.val (noSnap r)] u fun e w' => e = .returned (.bool true) ∧ Below w.heap.size w w' := by
 refine (rf_same (row s.h v) (noSnap r) s.h.log l u hl.ls (hk.hl.later k).ls).mono ?_
 rintro e w' ⟨rfl,hb⟩
 have e9 : sameA (Hd.h (row s.h v) s.h.log) (Hd.h (noSnap r) l) = true := sameA_iff.2 (by rw [h_row,noSnap_h,hs])
 rw [e9]
 exact ⟨rfl,bchain k hb⟩
theorem Ki.later (h : Ki w0 w g p b i) (k : Below w.heap.size w u) : Ki w0 u g p b i := by
 obtain ⟨R,n,s,d,r,l,h1,h2,h3,h4⟩ := h
 exact ⟨R,n,s,d,r,l,h1.later k,h2.later k,h3,h4⟩
theorem ask_hard (hw : Ws R w0 w g p n s d) (hk : Kn R w0 w b r l) (hs : s.h = (Hd.h r l).bare) (k : Below w.heap.size w u) :
  Calls Tryz.prog 15 #[.pointer (some ⟨g,0,none⟩)] u fun e w' => ∃ x : Hd.T,e = .returned (Hd.val x) ∧ (∀ v,Below w'.heap.size w' v → Below w.heap.size w v → Calls Tryz.prog 14 #[Hd.val x,Hd.val (noSnap r)] v fun e y => e = .returned (.bool true) ∧ Below w.heap.size w y) ∧ Below u.heap.size u w' := by
 refine (k_hard (hw.later k)).mono ?_
 rintro e w' ⟨v,rfl,hl,hb⟩
 exact ⟨row s.h v,rfl,fun y k1 k2 => same_bare hw hk hs v k2 (hl.later k1),hb⟩
theorem next_save (hw : Ws R w0 w g p n s d) (hk : Kn R w0 w b r l) (hn : n ≤ i + 1) (hi : i < 20) (k : Below w.heap.size w u) :
  Calls Tryz.prog 11 #[.pointer (some ⟨g,0,none⟩),Hd.val r] u fun e w' => e = .returned (.int .i64 0) ∧ Hd.Block w' b [r] ∧ (∀ v,Below w'.heap.size w' v → Ki w0 v g p b (i + 1)) ∧ ∀ y,Below w'.heap.size w' y → Calls Tryz.prog 15 #[.pointer (some ⟨g,0,none⟩)] y fun e z => ∃ x : Hd.T,e = .returned (Hd.val x) ∧ (∀ v,Below z.heap.size z v → Below w'.heap.size w' v → Calls Tryz.prog 14 #[Hd.val x,Hd.val (noSnap r)] v fun e y => e = .returned (.bool true) ∧ Below w'.heap.size w' y) ∧ Below y.heap.size y z := by
 refine (k_save (hw.later k) (by omega) (hk.later k).hl hk.right).mono ?_
 rintro e w' ⟨rfl,n',s',d',h1,h2,h3,h4,-,-,h5⟩
 have h6 := (hk.later k).upd h5
 exact ⟨rfl,h6.hv.blk,fun v q => ⟨_,n',s',d',r,l,h1.later q,h6.later q,h2,by omega⟩,fun y q => ask_hard h1 h6 h2 q⟩
end
set_option maxHeartbeats 8000000 in
theorem walKeeps_any (rs : List Wa.T) (ao : Option Addr) (n cap : Nat) (w : World) (hA : Wa.Ls w ao n cap rs ∧ ∀ r ∈ rs,Wa.Sub w r) :
  Calls Tryz.prog 7 #[.slice ao n cap] w fun e w' => e = .returned (.bool true) ∧ Below w.heap.size w w' := by
 have HA := Lib.hid hA
 have HN := Lib.hid hA.1.len
 have hcap := hA.1.reach
 have hfit := hA.1.fits
 clear hA
 go_enter Tryz.func7,Tryz.ntmps7
 go_wp2_with (go_at_call 9; refine (s_new w).mono ?_; rintro e W0 ⟨p,rfl,h0⟩; have C0 := Lib.hid (k_new h0.tight); clear h0)
 refine C0.out.mono ?_
 rintro e W1 ⟨g,rfl,h1,-⟩
 obtain ⟨R1,h1⟩ : ∃ R,Wn R w W1 g p := ⟨_,h1⟩
 have HG1 : Hid (w.heap.size ≤ W1.heap.size) := Lib.hid h1.bo.bel.size
 clear C0
 go_wp2_with fail
 obtain ⟨W2,hW2,hb2,hc2⟩ := Hd.boxed1 W1 kr0
 have hv2 : Hv R1 W2 W1.heap.size kr0 := hW2 ▸ Hv.new W1 kr0 h1.lt
 unfold kr0 at hW2
 dsimp only at hW2
 rw [hW2]
 have C2 := Lib.hid (k_first (h1.later hb2) (Hl.nil W2 rfl) kr0_ok)
 have HV2 := Lib.hid hv2
 clear h1 hb2 hc2 hv2 hW2
 refine C2.out.mono ?_
 rintro e W3 ⟨rfl,d3,h3,-,q3⟩
 have hv3 := HV2.out.upd q3
 have H3 : Hid (Ki w W3 g p W1.heap.size 0) := Lib.hid ⟨_,_,_,_,kr0,[],h3,⟨hv3,Hl.nil W3 rfl,(fun ad e => by cases e),HG1.out,kr0_ok,by decide,by decide⟩,rfl,by omega⟩
 generalize W1.heap.size = b at *
 clear h3 hv3 q3 C2 HV2
 go_wp2_with fail
 go_loopw [4,5,7] (fun gv ev iv wr => ∃ k g : Nat,k ≤ 20 ∧ k ≤ n ∧ gv = .pointer (some ⟨g,0,none⟩) ∧ ev = .int .i64 0 ∧ iv = .int .i64 k ∧ Hid (Ki w wr g p b k)) (fun _ _ iv _ => 20 - (intOf iv).toNat)
 case atStart => exact ⟨0,g,by omega,by omega,rfl,rfl,rfl,H3⟩
 case round =>
  clear H3
  rename World => wz
  obtain ⟨k,g,hk20,hkn,rfl,rfl,rfl,HK⟩ := hrel
  by_cases hlt : k < n ∧ k < 20
  ·
   obtain ⟨hk1,hk2⟩ := hlt
   obtain ⟨ab,aoff,rfl⟩ := HA.out.1.at (by omega)
   have hkl : k < rs.length := HN.out ▸ hk1
   have HSh := Lib.hid (HA.out.1.short _ (List.getElem_mem hkl))
   have HSub := Lib.hid (HA.out.2 _ (List.getElem_mem hkl))
   have HRow := Lib.hid (HA.out.1.row k hkl)
   obtain ⟨z,hz⟩ : ∃ z,rs[k] = z := ⟨_,rfl⟩
   rw [hz] at HRow HSh HSub
   clear hz hkl
   have hi1 : (k : Int) < (n : Int) := by omega
   have hi2 : (k : Int) < 20 := by omega
   obtain ⟨x0,x1,x2,x3,x4,x5,x6,x7,x8,x9⟩ := HRow.out.below HK.out.bel
   by_cases hbig : (20 : Int) < (z.picks.n : Int)
   ·
    go_wp2_with fail
    go_roundw
    case rel => exact ⟨k + 1,g,by omega,by omega,rfl,rfl,by go_num,Lib.hid HK.out.more⟩
    case measure => simp [intOf]; omega
   go_upto_region 10 with fail
   go_cut [4] (fun gv wx => gv = .pointer (some ⟨g,0,none⟩) ∧ Hid (∃ (R : Nat → Prop) (m : Nat) (s : Sg) (d : D) (r : Hd.T) (l : List Et.T),Ws R w wx g p m s d ∧ Kn R w wx b r l ∧ m ≤ k + 1))
   case first =>
    obtain ⟨R,m,s,d,r,l,hW,hN,hS,hm⟩ := HK.out
    obtain ⟨es,hes,hesn⟩ := HSub.out.1
    have CN : Hid (∀ u,Below wz.heap.size wz u → Calls Tryz.prog 32 #[Hd.val r,Wa.val z] u fun e u' => ∃ r' l',e = .returned (Hd.val r') ∧ Hd.Block u' b [r] ∧ Wa.At u' ab (aoff + k * 10) z ∧ ∀ v,(v = lay u' b 0 r' ∨ v = (lay u' b 0 r').drew) → Ws R w v g p m s d ∧ Kn R w v b r' l') := Lib.hid fun u q => (lw_next r l z es u (hN.later q).hl.ls (hes.below (bchain hW.bo.bel q)) (by have := hN.l40; omega) hN.z9 (by have := hes.len; omega) HSh.out.2.1 hN.hl.ls.short hes.short).mono fun e u' hE => by
     obtain ⟨r',l',e1,e2,e3,e4⟩ := Kn.next (hW.later q) (hN.later q) hE
     exact ⟨r',l',e1,e3,HRow.out.below (bchain hW.bo.bel (bchain q e2)),e4⟩
    have HM := Lib.hid hm
    have lz := cells_of hN.hv.blk
    have hbl := hN.hv.lt
    clear hW hN hS hm hes hesn HK hbig hi1 hi2
    obtain ⟨t0,v0,b0,bt0,m0,s0,⟨o0,n0,p0⟩⟩ := r
    obtain ⟨y0,y1,y2,y3,y4,y5,y6⟩ := lz wz (Below.refl _ _)
    unfold Hd.val Wa.val at CN
    dsimp only at CN y0 y1 y2 y3 y4 y5 y6
    obtain ⟨zk,zn,zt,zv,zb,zbt,zm,zs,⟨lo,ln,lc⟩,⟨po,pn,pc⟩⟩ := z
    dsimp only at CN x0 x1 x2 x3 x4 x5 x6 x7 x8 x9
    go_wp2_with fail
    go_region_with (first | (go_at_call 32; refine (CN.out _ (by first | exact Below.refl _ _ | exact (Below.refl _ _).drew)).mono ?_; rintro e u5 ⟨⟨t1,v1,b1,bt1,m1,s1,⟨o1,n1,p1⟩⟩,l',rfl,hblk,hat,hv⟩; have HV := Lib.hid hv; (obtain ⟨z0,z1,z2,z3,z4,z5,z6,z7,z8,z9⟩ := hat); dsimp only at z0 z1 z2 z3 z4 z5 z6 z7 z8 z9; (obtain ⟨d0,d1,d2,d3,d4,d5,d6⟩ := hblk.cells); have f0 := hblk.frozen 0; have f1 := hblk.frozen 1; have f2 := hblk.frozen 2; have f3 := hblk.frozen 3; have f4 := hblk.frozen 4; have f5 := hblk.frozen 5; have f6 := hblk.frozen 6; have hl5 := hblk.lt; clear hv hblk) | fail)
    all_goals (go_wp2_with fail; go_meet; exact ⟨rfl,Lib.hid (by first | (have := HV.out _ (.inl rfl); exact ⟨R,m,s,d,_,l',this.1,this.2,HM.out⟩) | (have := HV.out _ (.inr rfl); exact ⟨R,m,s,d,_,l',this.1,this.2,HM.out⟩))⟩)
   case rest =>
    rename World => Y
    obtain ⟨rfl,HY⟩ := hcut
    clear HK
    go_upto_region 11 with fail
    go_cut [4,61] (fun gv c wx => gv = .pointer (some ⟨g,0,none⟩) ∧ c = .bool false ∧ Hid (Ki w wx g p b (k + 1)))
    case first =>
     obtain ⟨R,m,s,d,r,l,hW,hN,hm⟩ := HY.out
     have CS := Lib.hid fun u (q : Below Y.heap.size Y u) => next_save hW hN hm hk2 q
     have lz := cells_of hN.hv.blk
     have hbl := hN.hv.lt
     clear hW hN hm hbig hi1 hi2 x0 x1 x2 x3 x4 x5 x6 x7 x8 x9
     obtain ⟨t0,v0,b0,bt0,m0,s0,⟨o0,n0,p0⟩⟩ := r
     obtain ⟨y0,y1,y2,y3,y4,y5,y6⟩ := lz Y (Below.refl _ _)
     have CB := fun u => lw_bare ⟨t0,v0,b0,bt0,m0,s0,⟨o0,n0,p0⟩⟩ u
     unfold Hd.val noSnap at CS CB
     dsimp only at CS CB y0 y1 y2 y3 y4 y5 y6
     have CB := Lib.hid CB
     clear lz
     go_wp2_with fail
     go_region_held3 (fun y => y.cell? ⟨b,0,none⟩ = some (.int .i64 t0) ∧ y.cell? ⟨b,1,none⟩ = some (.int .i64 v0) ∧ y.cell? ⟨b,2,none⟩ = some (.int .i64 b0) ∧ y.cell? ⟨b,3,none⟩ = some (.int .i64 bt0) ∧ y.cell? ⟨b,4,none⟩ = some (.int .i64 m0) ∧ y.cell? ⟨b,5,none⟩ = some (.string s0) ∧ y.cell? ⟨b,6,none⟩ = some (.slice o0 n0 p0)) (go_keep) (first | (go_at_call 11; refine (CS.out _ (by first | exact Below.refl _ _ | exact (Below.refl _ _).drew)).mono ?_; rintro e u1 ⟨rfl,hblk,hki,hch⟩; have KE := Lib.hid hki; have CH := Lib.hid hch; have LZ := Lib.hid (cells_of hblk); (obtain ⟨d0,d1,d2,d3,d4,d5,d6⟩ := hblk.cells); clear hki hch hblk) | (go_at_call 15; refine (CH.out _ (by first | exact Below.refl _ _ | exact Q4.out)).mono ?_; rintro e u3 ⟨⟨t3,v3,b3,bt3,m3,s3,⟨o3,n3,p3⟩⟩,rfl,ct,q3⟩; have CT := Lib.hid ct; have Q3 := Lib.hid q3; (obtain ⟨d0,d1,d2,d3,d4,d5,d6⟩ := LZ.out u3 (by first | exact q3 | exact bchain Q4.out q3)); clear ct q3) | (go_at_call 33; refine (CB.out _).mono ?_; rintro e u4 ⟨rfl,q4⟩; have Q4 := Lib.hid q4; (obtain ⟨d0,d1,d2,d3,d4,d5,d6⟩ := LZ.out u4 (by first | exact q4 | exact bchain Q3.out q4)); clear q4) | (go_at_call 14; refine (CT.out _ (by first | exact Below.refl _ _ | exact Q4.out) (by first | exact bchain Q3.out Q4.out | exact bchain Q4.out Q3.out)).mono ?_; rintro e u6 ⟨rfl,q6⟩; have Q6 := Lib.hid q6; (obtain ⟨d0,d1,d2,d3,d4,d5,d6⟩ := LZ.out u6 q6); clear q6) | fail)
     all_goals (go_wp2_with fail; go_meet; exact ⟨rfl,rfl,Lib.hid (by first | exact KE.out _ Q6.out | exact KE.out _ Q6.out.drew)⟩)
    case rest =>
     rename World => Y1
     obtain ⟨rfl,rfl,HY1⟩ := hcut
     clear HY x0 x1 x2 x3 x4 x5 x6 x7 x8 x9
     obtain ⟨x0,x1,x2,x3,x4,x5,x6,x7,x8,x9⟩ := HRow.out.below HY1.out.bel
     go_upto_if 67 with fail
     go_cut [4] (fun gv wx => gv = .pointer (some ⟨g,0,none⟩) ∧ Hid (∃ (R : Nat → Prop) (m : Nat) (s : Sg) (d : D) (r : Hd.T) (l : List Et.T),Dn R w wx p m s d ∧ Kn R w wx b r l ∧ s.h = (Hd.h r l).bare ∧ m ≤ k + 2 ∧ (z.kind ≠ 4 → Ki w wx g p b (k + 1))))
     case first =>
      by_cases q4 : z.kind = 4
      ·
       have k4 : (z.kind == 4) = true := beq_iff_eq.2 q4
       obtain ⟨R,m,s,d,r,l,hW,hN,hS,hm⟩ := HY1.out
       obtain ⟨zs,hzs⟩ := HSub.out.2
       have CC := Lib.hid (hW.dn.crash hzs)
       have HN1 := Lib.hid hN
       have HS1 := Lib.hid (And.intro hS hm)
       have HQ4 := Lib.hid q4
       clear hW hN hS hm hzs q4
       go_wp2_with (go_at_call 24; refine CC.out.mono ?_; rintro e u ⟨rfl,d',hd,hu⟩; have HD := Lib.hid hd; have HU := Lib.hid hu; clear hd hu)
       go_meet
       exact ⟨rfl,Lib.hid ⟨_,m,s,d',r,l,HD.out,HN1.out.upd HU.out,HS1.out.1,HS1.out.2,fun h => absurd HQ4.out h⟩⟩
      ·
       have k4 : (z.kind == 4) = false := beq_eq_false_iff_ne.2 q4
       clear q4
       go_wp2_with fail
       go_meet
       refine ⟨rfl,Lib.hid ?_⟩
       obtain ⟨R,m,s,d,r,l,hW,hN,hS,hm⟩ := HY1.out
       exact ⟨R,m,s,d,r,l,hW.dn,hN,hS,hm,fun _ => HY1.out⟩
     case rest =>
      rename World => Y2
      obtain ⟨rfl,HY2⟩ := hcut
      have HB2 : Hid (Below w.heap.size w Y2) := Lib.hid (by obtain ⟨R,m,s,d,r,l,hD,-⟩ := HY2.out; exact hD.dsk.bel)
      clear HY1 x0 x1 x2 x3 x4 x5 x6 x7 x8 x9
      obtain ⟨x0,x1,x2,x3,x4,x5,x6,x7,x8,x9⟩ := HRow.out.below HB2.out
      obtain ⟨cc,hcc⟩ : ∃ cc,(decide (z.kind = 4) || decide (z.kind = 2)) = cc := ⟨_,rfl⟩
      have HC := Lib.hid hcc
      clear hcc
      go_upto_region 15 with fail
      go_cut [4,88] (fun gv c wx => gv = .pointer (some ⟨g,0,none⟩) ∧ c = .bool cc ∧ wx = Y2)
      case first =>
       by_cases q4 : z.kind = 4
       ·
        have k4 : (z.kind == 4) = true := beq_iff_eq.2 q4
        have HX : Hid (Value.bool true = .bool cc) := Lib.hid (by rw [← HC.out,decide_eq_true q4]; rfl)
        clear q4
        go_wp2_with fail
        go_meet
        exact ⟨rfl,HX.out,rfl⟩
       ·
        have k4 : (z.kind == 4) = false := beq_eq_false_iff_ne.2 q4
        by_cases q2 : z.kind = 2
        ·
         have k2 : (z.kind == 2) = true := beq_iff_eq.2 q2
         have HX : Hid (Value.bool true = .bool cc) := Lib.hid (by rw [← HC.out,decide_eq_false q4,decide_eq_true q2]; rfl)
         clear q4 q2
         go_wp2_with fail
         go_meet
         exact ⟨rfl,HX.out,rfl⟩
        ·
         have k2 : (z.kind == 2) = false := beq_eq_false_iff_ne.2 q2
         have HX : Hid (Value.bool false = .bool cc) := Lib.hid (by rw [← HC.out,decide_eq_false q4,decide_eq_false q2]; rfl)
         clear q4 q2
         go_wp2_with fail
         go_meet
         exact ⟨rfl,HX.out,rfl⟩
      case rest =>
       rename World => Y3
       obtain ⟨rfl,rfl,rfl⟩ := hcut
       clear x0 x1 x2 x3 x4 x5 x6 x7 x8 x9
       go_upto_if 88 with fail
       go_cut [4,5] (fun gv ev wx => ∃ g' : Nat,gv = .pointer (some ⟨g',0,none⟩) ∧ ev = .int .i64 0 ∧ Hid (Ki w wx g' p b (k + 1)))
       case first =>
        cases cc
        ·
         have HX : Hid (Ki w Y3 g p b (k + 1)) := Lib.hid (by
          obtain ⟨R,m,s,d,r,l,-,-,-,-,hK⟩ := HY2.out
          refine hK fun q => ?_
          have := HC.out
          rw [decide_eq_true q] at this
          cases this)
         go_wp2_with fail
         go_meet
         exact ⟨g,rfl,rfl,HX⟩
        ·
         obtain ⟨R,m,s,d,r,l,hD,hN,hS,hm,-⟩ := HY2.out
         have CO := Lib.hid hD.reopen
         have HN1 := Lib.hid hN
         have HS1 := Lib.hid (And.intro hS hm)
         clear hD hN hS hm
         go_upto_region 17 with (go_at_call 10; refine CO.out.mono ?_; rintro e U ⟨g',d',rfl,hw,hu⟩; have HW := Lib.hid hw; have HU := Lib.hid hu; clear hw hu CO)
         have hN := HN1.out.upd HU.out
         have hW := HW.out
         have KE : Hid (∀ v,Below U.heap.size U v → Ki w v g' p b (k + 1)) := Lib.hid fun v q => ⟨_,m,s,d',r,l,hW.later q,hN.later q,HS1.out.1,HS1.out.2⟩
         have CH := Lib.hid fun u (q : Below U.heap.size U u) => ask_hard hW hN HS1.out.1 q
         have LZ := Lib.hid (cells_of hN.hv.blk)
         have hbl := hN.hv.lt
         clear hN hW HN1 HU HW HS1
         obtain ⟨t0,v0,b0,bt0,m0,s0,⟨o0,n0,p0⟩⟩ := r
         obtain ⟨y0,y1,y2,y3,y4,y5,y6⟩ := LZ.out U (Below.refl _ _)
         have CB := fun u => lw_bare ⟨t0,v0,b0,bt0,m0,s0,⟨o0,n0,p0⟩⟩ u
         unfold Hd.val noSnap at CH CB
         dsimp only at CH CB y0 y1 y2 y3 y4 y5 y6
         have CB := Lib.hid CB
         go_wp2_with fail
         go_region_held3 (fun y => y.cell? ⟨b,0,none⟩ = some (.int .i64 t0) ∧ y.cell? ⟨b,1,none⟩ = some (.int .i64 v0) ∧ y.cell? ⟨b,2,none⟩ = some (.int .i64 b0) ∧ y.cell? ⟨b,3,none⟩ = some (.int .i64 bt0) ∧ y.cell? ⟨b,4,none⟩ = some (.int .i64 m0) ∧ y.cell? ⟨b,5,none⟩ = some (.string s0) ∧ y.cell? ⟨b,6,none⟩ = some (.slice o0 n0 p0)) (go_keep) (first | (go_at_call 15; refine (CH.out _ (by first | exact Below.refl _ _ | exact (Below.refl _ _).drew | exact Q4.out | exact bchain (Below.refl _ _).drew Q4.out)).mono ?_; rintro e u3 ⟨⟨t3,v3,b3,bt3,m3,s3,⟨o3,n3,p3⟩⟩,rfl,ct,q3⟩; have CT := Lib.hid ct; have Q3 := Lib.hid q3; (obtain ⟨d0,d1,d2,d3,d4,d5,d6⟩ := LZ.out u3 (by first | exact bchain (Below.refl _ _).drew q3 | exact bchain (Below.refl _ _).drew (bchain Q4.out q3) | exact q3 | exact bchain Q4.out q3)); clear ct q3) | (go_at_call 33; refine (CB.out _).mono ?_; rintro e u4 ⟨rfl,q4⟩; have Q4 := Lib.hid q4; (obtain ⟨d0,d1,d2,d3,d4,d5,d6⟩ := LZ.out u4 (by first | exact bchain (Below.refl _ _).drew q4 | exact bchain (Below.refl _ _).drew (bchain Q3.out q4) | exact q4 | exact bchain Q3.out q4)); clear q4) | (go_at_call 14; refine (CT.out _ (by first | exact Below.refl _ _ | exact Q4.out) (by first | exact bchain (Below.refl _ _).drew (bchain Q3.out Q4.out) | exact bchain (Below.refl _ _).drew (bchain Q4.out Q3.out) | exact bchain Q3.out Q4.out | exact bchain Q4.out Q3.out)).mono ?_; rintro e u6 ⟨rfl,q6⟩; have Q6 := Lib.hid q6; (obtain ⟨d0,d1,d2,d3,d4,d5,d6⟩ := LZ.out u6 q6); clear q6) | fail)
         all_goals (go_wp2_with fail; go_meet; exact ⟨g',rfl,rfl,Lib.hid (by first | exact KE.out _ Q6.out | exact KE.out _ Q6.out.drew)⟩)
       case rest =>
        rename World => Y4
        obtain ⟨g',rfl,rfl,HY4⟩ := hcut
        clear HY2 HC HB2
        have CM : Hid (Calls Tryz.prog 13 #[.pointer (some ⟨p,0,none⟩)] Y4 fun e w' => ∃ ao cap,e = .returned (.slice ao 1 cap) ∧ Ki w w' g' p b (k + 1)) := Lib.hid (by
         obtain ⟨R,m,s,d,r,l,hW,-⟩ := id HY4.out
         refine hW.names.mono ?_
         rintro e w' ⟨ao,cap,rfl,-,hb⟩
         exact ⟨ao,cap,rfl,HY4.out.later hb⟩)
        go_wp2_with (go_at_call 13; refine CM.out.mono ?_; rintro e u ⟨ao',cap',rfl,hk⟩; have HK5 := Lib.hid hk; clear hk)
        go_roundw
        case rel => exact ⟨k + 1,g',by omega,by omega,rfl,rfl,by go_num,HK5⟩
        case measure => simp [intOf]; omega
  ·
   have hstop : ¬ (k : Int) < (n : Int) ∨ ((k : Int) < (n : Int) ∧ ¬ (k : Int) < 20) := by omega
   have HB := Lib.hid HK.out.bel
   clear HK hlt
   rcases hstop with hs | ⟨hs1,hs2⟩
   ·
    go_wp2_with fail
    refine (walRuns_any _).mono ?_
    rintro e Wz ⟨rfl,bz⟩
    have HBz := Lib.hid (bchain HB.out bz)
    clear bz
    go_wp2_with fail
    go_ret
    exact ⟨rfl,HBz.out⟩
   ·
    go_wp2_with fail
    refine (walRuns_any _).mono ?_
    rintro e Wz ⟨rfl,bz⟩
    have HBz := Lib.hid (bchain HB.out bz)
    clear bz
    go_wp2_with fail
    go_ret
    exact ⟨rfl,HBz.out⟩
end Go.Proofs.YtlmjeackfepllaaGreatDoor.Wl
namespace Go.Proofs.YtlmjeackfepllaaGreatDoor
open Go.RowKit
theorem walKeeps_walk (ao : Option Addr) (n cap : Nat) (rs : List Wa.T) (w : World) (hA : Wa.Ls w ao n cap rs ∧ ∀ r ∈ rs,Wa.Sub w r) :
  Calls Tryz.prog 7 #[.slice ao n cap] w fun e w' => e = .returned (.bool true) ∧ Below w.heap.size w w' := Wl.walKeeps_any rs ao n cap w hA
end Go.Proofs.YtlmjeackfepllaaGreatDoor
