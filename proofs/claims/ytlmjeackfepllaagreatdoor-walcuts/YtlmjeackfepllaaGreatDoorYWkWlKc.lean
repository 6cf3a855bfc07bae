/- WalCuts, walked. (By genwlkc.py.) -/
import Derived.Test.YtlmjeackfepllaaGreatDoorYWkWlKf
import Derived.Test.YtlmjeackfepllaaGreatDoorZWk11
import Derived.Deep.DeepCutAuto
import Derived.Deep.CutBlock
import Derived.Deep.RegionLaw
import Derived.Deep.RegionWith
import Derived.Deep.RegionHeld3
set_option maxRecDepth 100000
set_option linter.unusedVariables false
namespace Go.Proofs.YtlmjeackfepllaaGreatDoor.Wl
open Go.RowKit
open Mem Dk
theorem err_eql (e0 : Int) (h : e0 ≠ 0) (w : World) : (binOp .eql 25 (.int .i64 e0) (.int .i64 0)).run Tryz.prog w = .ok (.bool false) w := by
 simp [go_sem,h]
theorem err_guard (e0 : Int) (x y : Operand) (w : World) : (eqGuard .eql 25 x y (.int .i64 e0) (.int .i64 0)).run Tryz.prog w = .ok () w := by
 simp [go_sem,eqGuard]
set_option maxHeartbeats 8000000 in
theorem walCuts_any (rs : List Wa.T) (ao : Option Addr) (n cap : Nat) (ct : Int) (z : Wa.T) (io : Option Addr) (inn icap : Nat) (is : List Int) (w : World) (hA : Wa.Ls w ao n cap rs ∧ ∀ r ∈ rs,Wa.Sub w r) (hct : Fit ct) (hz : Wa.Short z ∧ Wa.Sub w z) (hI : Ints w io inn icap is) :
  Calls Tryz.prog 6 #[.slice ao n cap,.int .i64 ct,Wa.val z,.slice io inn icap] w fun e w' => e = .returned (.bool true) ∧ Below w.heap.size w w' := by
 obtain ⟨W,hW,hbW,hC⟩ := Wa.boxed1 w z
 have HBW := Lib.hid hbW
 have HA : Hid (Wa.Ls W ao n cap rs ∧ ∀ r ∈ rs,Wa.Sub W r) := Lib.hid ⟨hA.1.below hbW,fun r hr => by
  obtain ⟨⟨es,h1,h2⟩,⟨zs,h3⟩⟩ := hA.2 r hr
  exact ⟨⟨es,h1.below hbW,h2⟩,⟨zs,h3.old hbW⟩⟩⟩
 have HN := Lib.hid hA.1.len
 have hcap := hA.1.reach
 have hfit := hA.1.fits
 have HSz := Lib.hid hz.1
 obtain ⟨⟨zes,hze,hzl⟩,⟨zps,hzp⟩⟩ := hz.2
 have HZe := Lib.hid (And.intro (hze.below hbW) hzl)
 have HZp := Lib.hid (hzp.old hbW)
 have HI := Lib.hid (hI.old hbW)
 have hif := hI.fits
 have hir := hI.reach
 have hpf := hzp.fits
 have hpr := hzp.reach
 have HFc := Lib.hid hct
 have LZz := Lib.hid fun y (k : Below W.heap.size W y) => (show Wa.C y w.heap.size z from hC.below k)
 have hwW : w.heap.size < W.heap.size := by rw [← hW]; exact alloc_lt _ _
 obtain ⟨zb,hzb⟩ : ∃ zb,w.heap.size = zb := ⟨_,rfl⟩
 clear hA hz hI hct hze hzl hzp hbW hC
 go_enter Tryz.func6,Tryz.ntmps6
 unfold Wa.val
 go_wp2_with (go_at_call 9; refine (s_new W).mono ?_; rintro e W0 ⟨p,rfl,h0⟩; have C0 := Lib.hid (k_new h0.tight); clear h0)
 refine C0.out.mono ?_
 rintro e W1 ⟨g,rfl,h1,-⟩
 obtain ⟨R1,h1⟩ : ∃ R,Wn R W W1 g p := ⟨_,h1⟩
 have HG1 : Hid (W.heap.size ≤ W1.heap.size) := Lib.hid h1.bo.bel.size
 clear C0
 go_wp2_with fail
 obtain ⟨W2,hW2,hb2,hc2⟩ := Hd.boxed1 W1 kr0
 have hv2 : Hv R1 W2 W1.heap.size kr0 := hW2 ▸ Hv.new W1 kr0 h1.lt
 unfold kr0 at hW2
 dsimp only at hW2
 rw [hW2]
 have C2 := Lib.hid (k_first (h1.later hb2) (Hl.nil W2 rfl) kr0_ok)
 have HV2 := Lib.hid hv2
 clear h1 hb2 hc2 hv2 hW2
 refine C2.out.mono ?_
 rintro e W3 ⟨rfl,d3,h3,-,q3⟩
 have hv3 := HV2.out.upd q3
 have H3 : Hid (Ki W W3 g p W1.heap.size 0) := Lib.hid ⟨_,_,_,_,kr0,[],h3,⟨hv3,Hl.nil W3 rfl,(fun ad e => by cases e),HG1.out,kr0_ok,by decide,by decide⟩,rfl,by omega⟩
 generalize W1.heap.size = b at *
 clear h3 hv3 q3 C2 HV2
 rw [hzb] at LZz hwW
 go_upto_block 0 with fail
 go_cut [13] (fun iv wx => Hid (∃ k,k ≤ 12 ∧ Ki W wx g p b k))
 case first =>
  go_wp2_with fail
  go_loopw [13] (fun iv wr => ∃ k : Nat,k ≤ 12 ∧ k ≤ n ∧ iv = .int .i64 k ∧ Hid (Ki W wr g p b k)) (fun iv _ => 12 - (intOf iv).toNat)
  case atStart => exact ⟨0,by omega,by omega,rfl,H3⟩
  case round =>
   clear H3
   rename World => wz
   obtain ⟨k,hk20,hkn,rfl,HK⟩ := hrel
   by_cases hlt : k < n ∧ k < 12
   ·
    obtain ⟨hk1,hk2⟩ := hlt
    obtain ⟨ab,aoff,rfl⟩ := HA.out.1.at (by omega)
    have hkl : k < rs.length := HN.out ▸ hk1
    have HSh := Lib.hid (HA.out.1.short _ (List.getElem_mem hkl))
    have HSub := Lib.hid (HA.out.2 _ (List.getElem_mem hkl))
    have HRow := Lib.hid (HA.out.1.row k hkl)
    obtain ⟨a,ha⟩ : ∃ a,rs[k] = a := ⟨_,rfl⟩
    rw [ha] at HRow HSh HSub
    clear ha hkl
    have hi1 : (k : Int) < (n : Int) := by omega
    have hi2 : (k : Int) < 12 := by omega
    obtain ⟨x0,x1,x2,x3,x4,x5,x6,x7,x8,x9⟩ := HRow.out.below HK.out.bel
    go_upto_region 9 with fail
    go_cut [13] (fun iv wx => iv = .int .i64 k ∧ Hid (∃ (R : Nat → Prop) (m : Nat) (s : Sg) (d : D) (r : Hd.T) (l : List Et.T),Ws R W wx g p m s d ∧ Kn R W wx b r l ∧ m ≤ k + 1))
    case first =>
     obtain ⟨R,m,s,d,r,l,hW',hN,hS,hm⟩ := HK.out
     obtain ⟨es,hes,hesn⟩ := HSub.out.1
     have CN : Hid (∀ u,Below wz.heap.size wz u → Calls Tryz.prog 32 #[Hd.val r,Wa.val a] u fun e u' => ∃ r' l',e = .returned (Hd.val r') ∧ Hd.Block u' b [r] ∧ Wa.At u' ab (aoff + k * 10) a ∧ ∀ v,(v = lay u' b 0 r' ∨ v = (lay u' b 0 r').drew) → Ws R W v g p m s d ∧ Kn R W v b r' l') := Lib.hid fun u q => (lw_next r l a es u (hN.later q).hl.ls (hes.below (bchain hW'.bo.bel q)) (by have := hN.l40; omega) hN.z9 (by have := hes.len; omega) HSh.out.2.1 hN.hl.ls.short hes.short).mono fun e u' hE => by
      obtain ⟨r',l',e1,e2,e3,e4⟩ := Kn.next (hW'.later q) (hN.later q) hE
      exact ⟨r',l',e1,e3,HRow.out.below (bchain hW'.bo.bel (bchain q e2)),e4⟩
     have HM := Lib.hid hm
     have lz := cells_of hN.hv.blk
     have hbl := hN.hv.lt
     clear hW' hN hS hm hes hesn HK hi1 hi2
     obtain ⟨t0,v0,b0,bt0,m0,s0,⟨o0,n0,p0⟩⟩ := r
     obtain ⟨y0,y1,y2,y3,y4,y5,y6⟩ := lz wz (Below.refl _ _)
     unfold Hd.val Wa.val at CN
     dsimp only at CN y0 y1 y2 y3 y4 y5 y6
     obtain ⟨zk,zn,zt,zv,zbb,zbt,zm,zs,⟨lo,ln,lc⟩,⟨po,pn,pc⟩⟩ := a
     dsimp only at CN x0 x1 x2 x3 x4 x5 x6 x7 x8 x9
     go_wp2_with fail
     go_region_with (first | (go_at_call 32; refine (CN.out _ (by first | exact Below.refl _ _ | exact (Below.refl _ _).drew)).mono ?_; rintro e u5 ⟨⟨t1,v1,b1,bt1,m1,s1,⟨o1,n1,p1⟩⟩,l',rfl,hblk,hat,hv⟩; have HV := Lib.hid hv; (obtain ⟨z0,z1,z2,z3,z4,z5,z6,z7,z8,z9⟩ := hat); dsimp only at z0 z1 z2 z3 z4 z5 z6 z7 z8 z9; (obtain ⟨d0,d1,d2,d3,d4,d5,d6⟩ := hblk.cells); have f0 := hblk.frozen 0; have f1 := hblk.frozen 1; have f2 := hblk.frozen 2; have f3 := hblk.frozen 3; have f4 := hblk.frozen 4; have f5 := hblk.frozen 5; have f6 := hblk.frozen 6; have hl5 := hblk.lt; clear hv hblk) | fail)
     all_goals (go_wp2_with fail; go_meet; exact ⟨rfl,Lib.hid (by first | (have := HV.out _ (.inl rfl); exact ⟨R,m,s,d,_,l',this.1,this.2,HM.out⟩) | (have := HV.out _ (.inr rfl); exact ⟨R,m,s,d,_,l',this.1,this.2,HM.out⟩))⟩)
    case rest =>
     rename World => Y
     obtain ⟨rfl,HY⟩ := hcut
     clear HK x0 x1 x2 x3 x4 x5 x6 x7 x8 x9 hi1 hi2
     obtain ⟨R,m,s,d,r,l,hW',hN,hm⟩ := HY.out
     have CS := Lib.hid (next_save hW' hN hm (i := k) (by omega) (Below.refl _ _))
     obtain ⟨y0,y1,y2,y3,y4,y5,y6⟩ := hN.hv.blk.cells
     clear hW' hN hm HY
     obtain ⟨t0,v0,b0,bt0,m0,s0,⟨o0,n0,p0⟩⟩ := r
     unfold Hd.val at CS
     dsimp only at CS y0 y1 y2 y3 y4 y5 y6
     go_wp2_with (go_at_call 11; refine CS.out.mono ?_; rintro e u1 ⟨rfl,-,hki,-⟩; have KE : Hid (Ki W u1 g p b (k + 1)) := Lib.hid (hki u1 (Below.refl _ _)); clear hki)
     go_roundw
     case rel => exact ⟨k + 1,by omega,by omega,by go_num,KE⟩
     case measure => simp [intOf]; omega
   ·
    have hstop : ¬ (k : Int) < (n : Int) ∨ ((k : Int) < (n : Int) ∧ ¬ (k : Int) < 12) := by omega
    have HX : Hid (∃ k,k ≤ 12 ∧ Ki W wz g p b k) := Lib.hid ⟨k,hk20,HK.out⟩
    clear HK hlt
    rcases hstop with hs | ⟨hs1,hs2⟩
    ·
     go_wp2_with fail
     go_meet
     exact HX
    ·
     go_wp2_with fail
     go_meet
     exact HX
 case rest =>
  rename World => Y
  have HK := hcut
  clear hcut H3
  by_cases hbig : (20 : Int) < (z.picks.n : Int)
  ·
   have hgt : (z.picks.n : Int) > 20 := hbig
   obtain ⟨k,hk12,R,m,s,d,r,l,hW',hN,hS,hm⟩ := HK.out
   have CH := Lib.hid fun u (q : Below Y.heap.size Y u) => ask_hard hW' hN hS q
   have LZ := Lib.hid fun y (q : Below Y.heap.size Y y) => And.intro (cells_of hN.hv.blk y q) (LZz.out y (bchain hW'.bo.bel q)).2.2.2.2.2.2.2.2.2
   have KE : Hid (∀ v,Below Y.heap.size Y v → ∃ k,k ≤ 12 ∧ Ki W v g p b k) := Lib.hid fun v q => ⟨k,hk12,R,m,s,d,r,l,hW'.later q,hN.later q,hS,hm⟩
   have hbl := hN.hv.lt
   clear hW' hN hS hm HK
   obtain ⟨t0,v0,b0,bt0,m0,s0,⟨o0,n0,p0⟩⟩ := r
   obtain ⟨⟨y0,y1,y2,y3,y4,y5,y6⟩,x9⟩ := LZ.out Y (Below.refl _ _)
   have CB := fun u => lw_bare ⟨t0,v0,b0,bt0,m0,s0,⟨o0,n0,p0⟩⟩ u
   unfold Hd.val noSnap at CH CB
   dsimp only at CH CB y0 y1 y2 y3 y4 y5 y6
   have CB := Lib.hid CB
   go_wp2_with fail
   go_region_held3 (fun y => y.cell? ⟨b,0,none⟩ = some (.int .i64 t0) ∧ y.cell? ⟨b,1,none⟩ = some (.int .i64 v0) ∧ y.cell? ⟨b,2,none⟩ = some (.int .i64 b0) ∧ y.cell? ⟨b,3,none⟩ = some (.int .i64 bt0) ∧ y.cell? ⟨b,4,none⟩ = some (.int .i64 m0) ∧ y.cell? ⟨b,5,none⟩ = some (.string s0) ∧ y.cell? ⟨b,6,none⟩ = some (.slice o0 n0 p0) ∧ y.cell? ⟨zb,9,none⟩ = some (.slice z.picks.ao z.picks.n z.picks.cap)) (go_keep) (first | (go_at_call 15; refine (CH.out _ (by first | exact Below.refl _ _ | exact (Below.refl _ _).drew | exact B4.out)).mono ?_; rintro e u3 ⟨⟨t3,v3,b3,bt3,m3,s3,⟨o3,n3,p3⟩⟩,rfl,ct',q3⟩; have CT := Lib.hid ct'; have Q3 := Lib.hid q3; have B3 : Hid (Below Y.heap.size Y u3) := Lib.hid (by first | exact bchain (Below.refl _ _).drew q3 | exact bchain B4.out q3 | exact q3); (obtain ⟨⟨d0,d1,d2,d3,d4,d5,d6⟩,e9⟩ := LZ.out u3 B3.out); clear ct' q3) | (go_at_call 33; refine (CB.out _).mono ?_; rintro e u4 ⟨rfl,q4⟩; have Q4 := Lib.hid q4; have B4 : Hid (Below Y.heap.size Y u4) := Lib.hid (by first | exact bchain (Below.refl _ _).drew q4 | exact bchain B3.out q4 | exact q4); (obtain ⟨⟨d0,d1,d2,d3,d4,d5,d6⟩,e9⟩ := LZ.out u4 B4.out); clear q4) | (go_at_call 14; refine (CT.out _ (by first | exact Below.refl _ _ | exact Q4.out) (by first | exact B3.out | exact B4.out)).mono ?_; rintro e u6 ⟨rfl,q6⟩; have Q6 := Lib.hid q6; (obtain ⟨⟨d0,d1,d2,d3,d4,d5,d6⟩,e9⟩ := LZ.out u6 q6); clear q6) | fail)
   all_goals (have HBk : Hid (Below w.heap.size w u6) := Lib.hid (bchain HBW.out (by obtain ⟨k,_,hk⟩ := KE.out _ Q6.out; exact hk.bel)); go_wp2_with fail; go_ret; exact ⟨rfl,HBk.out⟩)
  ·
   have hgt : ¬ (z.picks.n : Int) > 20 := hbig
   have HDc : Hid (decide ((20 : Int) < (z.picks.n : Int)) = false) := Lib.hid (decide_eq_false hbig)
   go_upto_region 12 with fail
   go_cut [10,70] (fun gv c wx => gv = .pointer (some ⟨g,0,none⟩) ∧ c = .bool false ∧ Hid (∃ k,k ≤ 12 ∧ Ki W wx g p b k))
   case first =>
    obtain ⟨k,hk12,R,m,s,d,r,l,hW',hN,hS,hm⟩ := HK.out
    have CH := Lib.hid fun u (q : Below Y.heap.size Y u) => ask_hard hW' hN hS q
    have LZ := Lib.hid fun y (q : Below Y.heap.size Y y) => And.intro (cells_of hN.hv.blk y q) (LZz.out y (bchain hW'.bo.bel q)).2.2.2.2.2.2.2.2.2
    have KE : Hid (∀ v,Below Y.heap.size Y v → ∃ k,k ≤ 12 ∧ Ki W v g p b k) := Lib.hid fun v q => ⟨k,hk12,R,m,s,d,r,l,hW'.later q,hN.later q,hS,hm⟩
    have hbl := hN.hv.lt
    clear hW' hN hS hm HK
    obtain ⟨t0,v0,b0,bt0,m0,s0,⟨o0,n0,p0⟩⟩ := r
    obtain ⟨⟨y0,y1,y2,y3,y4,y5,y6⟩,x9⟩ := LZ.out Y (Below.refl _ _)
    have CB := fun u => lw_bare ⟨t0,v0,b0,bt0,m0,s0,⟨o0,n0,p0⟩⟩ u
    unfold Hd.val noSnap at CH CB
    dsimp only at CH CB y0 y1 y2 y3 y4 y5 y6
    have CB := Lib.hid CB
    go_wp2_with fail
    go_region_held3 (fun y => y.cell? ⟨b,0,none⟩ = some (.int .i64 t0) ∧ y.cell? ⟨b,1,none⟩ = some (.int .i64 v0) ∧ y.cell? ⟨b,2,none⟩ = some (.int .i64 b0) ∧ y.cell? ⟨b,3,none⟩ = some (.int .i64 bt0) ∧ y.cell? ⟨b,4,none⟩ = some (.int .i64 m0) ∧ y.cell? ⟨b,5,none⟩ = some (.string s0) ∧ y.cell? ⟨b,6,none⟩ = some (.slice o0 n0 p0) ∧ y.cell? ⟨zb,9,none⟩ = some (.slice z.picks.ao z.picks.n z.picks.cap)) (go_keep) (first | (go_at_call 15; refine (CH.out _ (by first | exact Below.refl _ _ | exact (Below.refl _ _).drew | exact B4.out)).mono ?_; rintro e u3 ⟨⟨t3,v3,b3,bt3,m3,s3,⟨o3,n3,p3⟩⟩,rfl,ct',q3⟩; have CT := Lib.hid ct'; have Q3 := Lib.hid q3; have B3 : Hid (Below Y.heap.size Y u3) := Lib.hid (by first | exact bchain (Below.refl _ _).drew q3 | exact bchain B4.out q3 | exact q3); (obtain ⟨⟨d0,d1,d2,d3,d4,d5,d6⟩,e9⟩ := LZ.out u3 B3.out); clear ct' q3) | (go_at_call 33; refine (CB.out _).mono ?_; rintro e u4 ⟨rfl,q4⟩; have Q4 := Lib.hid q4; have B4 : Hid (Below Y.heap.size Y u4) := Lib.hid (by first | exact bchain (Below.refl _ _).drew q4 | exact bchain B3.out q4 | exact q4); (obtain ⟨⟨d0,d1,d2,d3,d4,d5,d6⟩,e9⟩ := LZ.out u4 B4.out); clear q4) | (go_at_call 14; refine (CT.out _ (by first | exact Below.refl _ _ | exact Q4.out) (by first | exact B3.out | exact B4.out)).mono ?_; rintro e u6 ⟨rfl,q6⟩; have Q6 := Lib.hid q6; (obtain ⟨⟨d0,d1,d2,d3,d4,d5,d6⟩,e9⟩ := LZ.out u6 q6); clear q6) | fail)
    all_goals (go_wp2_with fail; go_meet; exact ⟨rfl,congrArg Value.bool HDc.out,Lib.hid (by first | exact KE.out _ Q6.out | exact KE.out _ Q6.out.drew)⟩)
   case rest =>
    rename World => Y1
    obtain ⟨rfl,rfl,HK1⟩ := hcut
    clear HK
    obtain ⟨k,hk12,R,m,s,d,r,l,hW',hN,hS,hm⟩ := HK1.out
    have hn98 : m + 2 < 100 := by omega
    have CN := Lib.hid ((lw_next r l z zes Y1 hN.hl.ls (HZe.out.1.below hW'.bo.bel) (by have := hN.l40; omega) hN.z9 (by have := HZe.out.1.len; have := HZe.out.2; omega) HSz.out.2.1 hN.hl.ls.short HZe.out.1.short).mono fun e u' hE => Kn.new hW' hN hE)
    obtain ⟨y0,y1,y2,y3,y4,y5,y6⟩ := hN.hv.blk.cells
    have HS := Lib.hid hS
    have HZ1 := LZz.out Y1 hW'.bo.bel
    obtain ⟨x0,x1,x2,x3,x4,x5,x6,x7,x8,x9⟩ := HZ1
    clear hW' hN hS hm HK1
    obtain ⟨⟨t0,v0,b0,bt0,m0,s0,⟨o0,n0,p0⟩⟩,hr⟩ : ∃ x,x = r := ⟨_,rfl⟩
    subst hr
    unfold Hd.val Wa.val at CN
    dsimp only at CN y0 y1 y2 y3 y4 y5 y6
    go_upto_region 15 with (go_at_call 32; refine CN.out.mono ?_; rintro e Va ⟨⟨t1,v1,b1,bt1,m1,s1,⟨o1,n1,p1⟩⟩,l2,rfl,b5,h5⟩; have H5 := Lib.hid h5; clear b5 h5 CN x0 x1 x2 x3 x4 x5 x6 x7 x8 x9 y0 y1 y2 y3 y4 y5 y6)
    obtain ⟨U,hU⟩ : ∃ U,Hd.box Va ⟨t1,v1,b1,bt1,m1,s1,⟨o1,n1,p1⟩⟩ = U := ⟨_,rfl⟩
    rw [hU] at H5
    unfold Hd.box at hU
    dsimp only at hU
    rw [hU]
    generalize Va.heap.size = c at *
    clear hU
    have CW := Lib.hid (bookWithin_any ct 0 4 U HFc.out (by omega) (by omega) (by omega))
    have CA := Lib.hid fun (j : Nat) (hj : (j : Int) ≤ 4) => arm_save H5.out.1 H5.out.2.1 H5.out.2.2 (by omega) hj
    unfold Hd.val at CA
    dsimp only at CA
    clear H5
    go_upto_block 2 with (first | (go_at_call 29; refine CW.out.mono ?_; rintro e u ⟨⟨j,rfl,j0,j4⟩,hu⟩; rw [hu]; clear hu u) | (go_at_call 22; refine (CA.out j j4).mono ?_; rintro e Vb ⟨rfl,hblk,b6,cs⟩; have CS := Lib.hid cs; (obtain ⟨d0,d1,d2,d3,d4,d5,d6⟩ := hblk.cells); clear hblk cs) | (go_at_call 11; refine CS.out.mono ?_; rintro e Vc ⟨e0,rfl,hk⟩; have HK := Lib.hid hk; clear hk CS d0 d1 d2 d3 d4 d5 d6))
    go_cut [16] (fun iv wx => Hid (Lk W wx p b c m s ⟨t0,v0,b0,bt0,m0,s0,⟨o0,n0,p0⟩⟩ l ⟨t1,v1,b1,bt1,m1,s1,⟨o1,n1,p1⟩⟩ l2 e0))
    case first =>
     go_wp2_with fail
     go_loopw [16] (fun iv wr => ∃ j : Nat,j ≤ 4 ∧ j ≤ inn ∧ iv = .int .i64 j ∧ Hid (Lk W wr p b c m s ⟨t0,v0,b0,bt0,m0,s0,⟨o0,n0,p0⟩⟩ l ⟨t1,v1,b1,bt1,m1,s1,⟨o1,n1,p1⟩⟩ l2 e0)) (fun iv _ => 4 - (intOf iv).toNat)
     case atStart => exact ⟨0,by omega,by omega,rfl,HK⟩
     case round =>
      clear HK
      rename World => wz
      obtain ⟨j,hj4,hjn,rfl,HK⟩ := hrel
      by_cases hlt : j < inn ∧ j < 4
      ·
       obtain ⟨hj1,hj2⟩ := hlt
       have hi1 : (j : Int) < (inn : Int) := by omega
       have hi2 : (j : Int) < 4 := by omega
       obtain ⟨ib,ioff,y,rfl,hy,hfy⟩ := HI.out.at j hj1
       have LI := Lib.hid fun v (q : Below W.heap.size W v) => ((bcell q).1 _ _ (cell_lt hy)).trans hy
       have C1 := Lib.hid (HK.out.crash HZp.out)
       obtain ⟨x0,x1,x2,x3,x4,x5,x6,x7,x8,x9⟩ := LZz.out wz HK.out.bel
       have HFy := Lib.hid hfy
       clear HK hy hfy x0 x1 x2 x3 x4 x5 x6 x7 x8
       go_wp2_with (first | (go_at_call 24; refine C1.out.mono ?_; rintro e Vd ⟨rfl,h1⟩; have H1 := Lib.hid h1; have iy := LI.out Vd h1.bel; have CW := Lib.hid (bookWithin_any y 0 4 Vd HFy.out (by omega) (by omega) (by omega)); clear h1 C1) | (go_at_call 29; refine CW.out.mono ?_; rintro e u ⟨⟨k4,rfl,k0,k5⟩,hu⟩; rw [hu]; clear hu u; have C2 := Lib.hid (H1.out.arm k5)) | (go_at_call 22; refine C2.out.mono ?_; rintro e Ve ⟨rfl,h2⟩; have C3 := Lib.hid h2.open; clear h2 C2) | (go_at_call 10; refine C3.out.mono ?_; rintro e Vf ⟨⟨po,x,rfl⟩,h3⟩; have H3 := Lib.hid h3; clear h3 C3))
       go_roundw
       case rel => exact ⟨j + 1,by omega,by omega,by go_num,H3⟩
       case measure => simp [intOf]; omega
      ·
       have hstop : ¬ (j : Int) < (inn : Int) ∨ ((j : Int) < (inn : Int) ∧ ¬ (j : Int) < 4) := by omega
       clear hlt
       rcases hstop with hs | ⟨hs1,hs2⟩
       ·
        go_wp2_with fail
        go_meet
        exact HK
       ·
        go_wp2_with fail
        go_meet
        exact HK
    case rest =>
     rename World => Y2
     clear HK
     have HK := hcut
     clear hcut
     obtain ⟨x0,x1,x2,x3,x4,x5,x6,x7,x8,x9⟩ := LZz.out Y2 HK.out.bel
     have C1 := Lib.hid (HK.out.crash HZp.out)
     clear HK x0 x1 x2 x3 x4 x5 x6 x7 x8
     go_upto_region 25 with (first | (go_at_call 24; refine C1.out.mono ?_; rintro e Vd ⟨rfl,h1⟩; have C2 := Lib.hid h1.reopen; clear h1 C1) | (go_at_call 10; refine C2.out.mono ?_; rintro e Ve ⟨g2,rfl,h2⟩; have HO := Lib.hid h2; clear h2 C2))
     clear x9
     go_cut [144] (fun c' wx => c' = .bool false ∧ Hid (Lo W wx g2 p b c m s ⟨t0,v0,b0,bt0,m0,s0,⟨o0,n0,p0⟩⟩ l ⟨t1,v1,b1,bt1,m1,s1,⟨o1,n1,p1⟩⟩ l2 e0))
     case first =>
      have LZ := Lib.hid fun y (q : Below Ve.heap.size Ve y) => And.intro (cells_of HO.out.rows.1 y q) (cells_of HO.out.rows.2 y q)
      have CH := Lib.hid fun u (q : Below Ve.heap.size Ve u) => HO.out.hard HS.out q
      have CB1 := fun u => lw_bare ⟨t0,v0,b0,bt0,m0,s0,⟨o0,n0,p0⟩⟩ u
      have CB2 := fun u => lw_bare ⟨t1,v1,b1,bt1,m1,s1,⟨o1,n1,p1⟩⟩ u
      obtain ⟨⟨y0,y1,y2,y3,y4,y5,y6⟩,⟨x0,x1,x2,x3,x4,x5,x6⟩⟩ := LZ.out Ve (Below.refl _ _)
      have hbl := HO.out.rows.1.lt
      have hcl := HO.out.rows.2.lt
      unfold Hd.val noSnap at CH CB1 CB2
      dsimp only at CH CB1 CB2 y0 y1 y2 y3 y4 y5 y6 x0 x1 x2 x3 x4 x5 x6
      have CB1 := Lib.hid CB1
      have CB2 := Lib.hid CB2
      have Q4 := Lib.hid True.intro
      by_cases he : e0 = 0
      ·
       subst he
       go_wp2_with fail
       go_region_held3 (fun y => y.cell? ⟨b,0,none⟩ = some (.int .i64 t0) ∧ y.cell? ⟨b,1,none⟩ = some (.int .i64 v0) ∧ y.cell? ⟨b,2,none⟩ = some (.int .i64 b0) ∧ y.cell? ⟨b,3,none⟩ = some (.int .i64 bt0) ∧ y.cell? ⟨b,4,none⟩ = some (.int .i64 m0) ∧ y.cell? ⟨b,5,none⟩ = some (.string s0) ∧ y.cell? ⟨b,6,none⟩ = some (.slice o0 n0 p0) ∧ y.cell? ⟨c,0,none⟩ = some (.int .i64 t1) ∧ y.cell? ⟨c,1,none⟩ = some (.int .i64 v1) ∧ y.cell? ⟨c,2,none⟩ = some (.int .i64 b1) ∧ y.cell? ⟨c,3,none⟩ = some (.int .i64 bt1) ∧ y.cell? ⟨c,4,none⟩ = some (.int .i64 m1) ∧ y.cell? ⟨c,5,none⟩ = some (.string s1) ∧ y.cell? ⟨c,6,none⟩ = some (.slice o1 n1 p1)) (go_keep) (first | (go_at_call 15; refine (CH.out _ (by first | exact Below.refl _ _ | exact (Below.refl _ _).drew | exact B3.out | exact B4.out | exact B5.out | exact B6.out | exact B9.out)).mono ?_; rintro e u3 ⟨⟨t3,v3,b3,bt3,m3,s3,⟨o3,n3,p3⟩⟩,rfl,q3,ct',cx⟩; have CT := Lib.hid ct'; have CX := Lib.hid cx; have B3 := Lib.hid q3; (obtain ⟨⟨d0,d1,d2,d3,d4,d5,d6⟩,⟨f0,f1,f2,f3,f4,f5,f6⟩⟩ := LZ.out u3 B3.out); clear ct' cx q3) | (go_at_call 33; refine (CB1.out _).mono ?_; rintro e u4 ⟨rfl,q4⟩; have Q4 := Lib.hid q4; have B4 : Hid (Below Ve.heap.size Ve u4) := Lib.hid (bchain (by first | exact Below.refl _ _ | exact (Below.refl _ _).drew | exact B3.out | exact B4.out | exact B5.out | exact B6.out | exact B9.out) q4); (obtain ⟨⟨d0,d1,d2,d3,d4,d5,d6⟩,⟨f0,f1,f2,f3,f4,f5,f6⟩⟩ := LZ.out u4 B4.out); clear q4) | (go_at_call 33; refine (CB2.out _).mono ?_; rintro e u5 ⟨rfl,q5⟩; have Q5 := Lib.hid q5; have B5 : Hid (Below Ve.heap.size Ve u5) := Lib.hid (bchain (by first | exact Below.refl _ _ | exact (Below.refl _ _).drew | exact B3.out | exact B4.out | exact B5.out | exact B6.out | exact B9.out) q5); (obtain ⟨⟨d0,d1,d2,d3,d4,d5,d6⟩,⟨f0,f1,f2,f3,f4,f5,f6⟩⟩ := LZ.out u5 B5.out); clear q5) | (go_at_call 34; refine (CT.out _ (by first | exact Below.refl _ _ | exact Q4.out | exact Q5.out | exact bchain Q4.out Q5.out | exact bchain Q5.out Q4.out) (by first | exact Below.refl _ _ | exact (Below.refl _ _).drew | exact B3.out | exact B4.out | exact B5.out | exact B6.out | exact B9.out)).mono ?_; rintro e u6 ⟨rfl,q6⟩; have B6 := Lib.hid q6; (obtain ⟨⟨d0,d1,d2,d3,d4,d5,d6⟩,⟨f0,f1,f2,f3,f4,f5,f6⟩⟩ := LZ.out u6 B6.out); clear q6) | (go_at_call 14; refine (CX.out (by first | rfl | trivial) _ (by first | exact Below.refl _ _ | exact Q4.out | exact Q5.out | exact bchain Q4.out Q5.out | exact bchain Q5.out Q4.out) (by first | exact Below.refl _ _ | exact (Below.refl _ _).drew | exact B3.out | exact B4.out | exact B5.out | exact B6.out | exact B9.out)).mono ?_; rintro e u9 ⟨rfl,q9⟩; have B9 := Lib.hid q9; (obtain ⟨⟨d0,d1,d2,d3,d4,d5,d6⟩,⟨f0,f1,f2,f3,f4,f5,f6⟩⟩ := LZ.out u9 B9.out); clear q9) | fail)
       all_goals (go_wp2_with fail; go_meet; exact ⟨rfl,Lib.hid (HO.out.later (by first | exact Below.refl _ _ | exact (Below.refl _ _).drew | exact B3.out | exact B4.out | exact B5.out | exact B6.out | exact B9.out))⟩)
      ·
       have HQ := fun w => err_eql e0 he w
       have HGd := fun x y w => err_guard e0 x y w
       obtain ⟨ev,hev⟩ : ∃ v,Value.int .i64 e0 = v := ⟨_,rfl⟩
       rw [hev] at HQ HGd ⊢
       have HEV := Lib.hid hev
       clear hev he
       go_wp2_with fail
       refine wp_region_held_drew (S := (fun y => y.cell? ⟨b,0,none⟩ = some (.int .i64 t0) ∧ y.cell? ⟨b,1,none⟩ = some (.int .i64 v0) ∧ y.cell? ⟨b,2,none⟩ = some (.int .i64 b0) ∧ y.cell? ⟨b,3,none⟩ = some (.int .i64 bt0) ∧ y.cell? ⟨b,4,none⟩ = some (.int .i64 m0) ∧ y.cell? ⟨b,5,none⟩ = some (.string s0) ∧ y.cell? ⟨b,6,none⟩ = some (.slice o0 n0 p0) ∧ y.cell? ⟨c,0,none⟩ = some (.int .i64 t1) ∧ y.cell? ⟨c,1,none⟩ = some (.int .i64 v1) ∧ y.cell? ⟨c,2,none⟩ = some (.int .i64 b1) ∧ y.cell? ⟨c,3,none⟩ = some (.int .i64 bt1) ∧ y.cell? ⟨c,4,none⟩ = some (.int .i64 m1) ∧ y.cell? ⟨c,5,none⟩ = some (.string s1) ∧ y.cell? ⟨c,6,none⟩ = some (.slice o1 n1 p1))) (by kernel_rfl) ?_ (fun hHeld => ?_)
       · ((try dsimp only); go_keep)
       refine wpAnyH_take (i := 0) (oi := ({ dst := some 117, op := Op.move (Operand.tmp 17), type := 24, pos := "law.go:199", after := #[], guard := none } : Oper)) (v := ?_) rfl (by kernel_rfl) (by kernel_rfl) (by kernel_rfl) (fun _ _ _ h => h) (Or.inl ⟨by rfl, ?_⟩) (by assumption) ?_
       rotate_left
       ·
        intro wq hSw
        (try dsimp only at hSw)
        go_simp
        (try with_reducible rfl)
       try simp only [Act.put,List.setIfInBounds_toArray,List.set_cons_zero,List.set_cons_succ]
       refine wpAnyH_take (i := 1) (oi := ({ dst := some 118, op := Op.binOp BinOp.eql 24 (Operand.tmp 117) (Operand.const (Value.pointer none)) 24, type := 4, pos := "law.go:199", after := #[{ on := 0, ground := Ground.data }], guard := none } : Oper)) (v := ?_) rfl (by kernel_rfl) (by kernel_rfl) (by kernel_rfl) (fun _ _ _ h => h) (Or.inl ⟨by rfl, ?_⟩) (by assumption) ?_
       rotate_left
       ·
        intro wq hSw
        (try dsimp only at hSw)
        go_simp
        (try with_reducible rfl)
       try simp only [Act.put,List.setIfInBounds_toArray,List.set_cons_zero,List.set_cons_succ]
       refine wpAnyH_take (i := 2) (oi := ({ dst := some 119, op := Op.move (Operand.tmp 118), type := 4, pos := "law.go:199", after := #[{ on := 1, ground := Ground.data }], guard := none } : Oper)) (v := ?_) rfl (by kernel_rfl) (by kernel_rfl) (by kernel_rfl) (fun _ _ _ h => h) (Or.inl ⟨by rfl, ?_⟩) (by assumption) ?_
       rotate_left
       ·
        intro wq hSw
        (try dsimp only at hSw)
        go_simp
        (try with_reducible rfl)
       try simp only [Act.put,List.setIfInBounds_toArray,List.set_cons_zero,List.set_cons_succ]
       refine wpAnyH_take (i := 3) (oi := ({ dst := some 120, op := Op.move (Operand.tmp 18), type := 25, pos := "law.go:199", after := #[{ on := 2, ground := Ground.guard }], guard := some (2, false) } : Oper)) (v := ?_) rfl (by kernel_rfl) (by kernel_rfl) (by kernel_rfl) (fun _ _ _ h => h) (Or.inl ⟨by rfl, ?_⟩) (by assumption) ?_
       rotate_left
       ·
        intro wq hSw
        (try dsimp only at hSw)
        go_simp
        (try with_reducible rfl)
       try simp only [Act.put,List.setIfInBounds_toArray,List.set_cons_zero,List.set_cons_succ]
       refine wpAnyH_take (i := 4) (oi := ({ dst := some 121, op := Op.binOp BinOp.neq 25 (Operand.tmp 120) (Operand.const (Value.int IntKind.i64 0)) 25, type := 4, pos := "law.go:199", after := #[{ on := 3, ground := Ground.data }, { on := 2, ground := Ground.guard }], guard := some (2, false) } : Oper)) (v := ?_) rfl (by kernel_rfl) (by kernel_rfl) (by kernel_rfl) (fun _ _ _ h => h) (Or.inl ⟨by rfl, ?_⟩) (by assumption) ?_
       rotate_left
       ·
        intro wq hSw
        (try dsimp only at hSw)
        go_simp
        (try with_reducible rfl)
       try simp only [Act.put,List.setIfInBounds_toArray,List.set_cons_zero,List.set_cons_succ]
       refine wpAnyH_take (i := 5) (oi := ({ dst := some 122, op := Op.pick (Operand.tmp 119) (Operand.const (Value.bool true)) (Operand.tmp 121), type := 4, pos := "law.go:199", after := #[{ on := 2, ground := Ground.data }, { on := 4, ground := Ground.data }], guard := none } : Oper)) (v := ?_) rfl (by kernel_rfl) (by kernel_rfl) (by kernel_rfl) (fun _ _ _ h => h) (Or.inl ⟨by rfl, ?_⟩) (by assumption) ?_
       rotate_left
       ·
        intro wq hSw
        (try dsimp only at hSw)
        go_simp
        (try with_reducible rfl)
       try simp only [Act.put,List.setIfInBounds_toArray,List.set_cons_zero,List.set_cons_succ]
       refine wpAnyH_take (i := 6) (oi := ({ dst := some 123, op := Op.move (Operand.tmp 122), type := 4, pos := "law.go:199", after := #[{ on := 5, ground := Ground.data }, { on := 2, ground := Ground.chain }], guard := none } : Oper)) (v := ?_) rfl (by kernel_rfl) (by kernel_rfl) (by kernel_rfl) (fun _ _ _ h => h) (Or.inl ⟨by rfl, ?_⟩) (by assumption) ?_
       rotate_left
       ·
        intro wq hSw
        (try dsimp only at hSw)
        go_simp
        (try with_reducible rfl)
       try simp only [Act.put,List.setIfInBounds_toArray,List.set_cons_zero,List.set_cons_succ]
       refine wpAnyH_take (i := 7) (oi := ({ dst := some 124, op := Op.move (Operand.tmp 17), type := 24, pos := "law.go:199", after := #[{ on := 6, ground := Ground.guard }], guard := some (6, false) } : Oper)) (v := ?_) rfl (by kernel_rfl) (by kernel_rfl) (by kernel_rfl) (fun _ _ _ h => h) (Or.inl ⟨by rfl, ?_⟩) (by assumption) ?_
       rotate_left
       ·
        intro wq hSw
        (try dsimp only at hSw)
        go_simp
        (try with_reducible rfl)
       try simp only [Act.put,List.setIfInBounds_toArray,List.set_cons_zero,List.set_cons_succ]
       refine wpAnyH_take (i := 9) (oi := ({ dst := some 126, op := Op.load 30 (Operand.tmp 12), type := 30, pos := "law.go:199", after := #[{ on := 6, ground := Ground.guard }], guard := some (6, false) } : Oper)) (v := ?_) rfl (by kernel_rfl) (by kernel_rfl) (by kernel_rfl) (fun _ _ _ h => h) (Or.inl ⟨by rfl, ?_⟩) (by assumption) ?_
       rotate_left
       ·
        intro wq hSw
        (try dsimp only at hSw)
        go_simp
        (try with_reducible rfl)
       try simp only [Act.put,List.setIfInBounds_toArray,List.set_cons_zero,List.set_cons_succ]
       refine wpAnyH_take (i := 11) (oi := ({ dst := some 128, op := Op.load 30 (Operand.tmp 14), type := 30, pos := "law.go:199", after := #[{ on := 6, ground := Ground.guard }], guard := some (6, false) } : Oper)) (v := ?_) rfl (by kernel_rfl) (by kernel_rfl) (by kernel_rfl) (fun _ _ _ h => h) (Or.inl ⟨by rfl, ?_⟩) (by assumption) ?_
       rotate_left
       ·
        intro wq hSw
        (try dsimp only at hSw)
        go_simp
        (try with_reducible rfl)
       try simp only [Act.put,List.setIfInBounds_toArray,List.set_cons_zero,List.set_cons_succ]
       refine wpAnyH_ready (rs := [8]) (by kernel_rfl) (by simp) ?_
       refine AllReadyH.cons (o := ({ dst := some 125, op := Op.call { callee := Callee.value (Operand.func 15), args := #[Operand.tmp 124], argTypes := #[24] }, type := 30, pos := "law.go:199", after := #[{ on := 7, ground := Ground.data }, { on := 6, ground := Ground.chain }, { on := 6, ground := Ground.guard }], guard := some (6, false) } : Oper)) rfl (fun K hK => ?_) ?_
       ·
        go_simp
        (refine (CH.out _ (by first | exact Below.refl _ _ | exact (Below.refl _ _).drew)).mono ?_; rintro e u3 ⟨⟨t3,v3,b3,bt3,m3,s3,⟨o3,n3,p3⟩⟩,rfl,q3,ct',cx⟩; have CT := Lib.hid ct'; have B3 := Lib.hid q3; (obtain ⟨⟨d0,d1,d2,d3,d4,d5,d6⟩,⟨f0,f1,f2,f3,f4,f5,f6⟩⟩ := LZ.out u3 B3.out); clear ct' cx q3)
        (try go_wp2_with fail)
        refine hK.out _ _ ?_ (fun hHeld => ?_)
        · ((try dsimp only); first | assumption | go_keep)
        clear hK K
        try simp only [Act.put,List.setIfInBounds_toArray,List.set_cons_zero,List.set_cons_succ]
        refine wpAnyH_ready (rs := [10]) (by kernel_rfl) (by simp) ?_
        refine AllReadyH.cons (o := ({ dst := some 127, op := Op.call { callee := Callee.value (Operand.func 33), args := #[Operand.tmp 126], argTypes := #[30] }, type := 30, pos := "law.go:199", after := #[{ on := 9, ground := Ground.data }, { on := 8, ground := Ground.chain }, { on := 6, ground := Ground.guard }], guard := some (6, false) } : Oper)) rfl (fun K hK => ?_) ?_
        ·
         go_simp
         (refine (CB1.out _).mono ?_; rintro e u4 ⟨rfl,q4⟩; have Q4 := Lib.hid q4; have B4 : Hid (Below Ve.heap.size Ve u4) := Lib.hid (bchain B3.out q4); (obtain ⟨⟨d0,d1,d2,d3,d4,d5,d6⟩,⟨f0,f1,f2,f3,f4,f5,f6⟩⟩ := LZ.out u4 B4.out); clear q4)
         (try go_wp2_with fail)
         refine hK.out _ _ ?_ (fun hHeld => ?_)
         · ((try dsimp only); first | assumption | go_keep)
         clear hK K
         try simp only [Act.put,List.setIfInBounds_toArray,List.set_cons_zero,List.set_cons_succ]
         refine wpAnyH_ready (rs := [12]) (by kernel_rfl) (by simp) ?_
         refine AllReadyH.cons (o := ({ dst := some 129, op := Op.call { callee := Callee.value (Operand.func 33), args := #[Operand.tmp 128], argTypes := #[30] }, type := 30, pos := "law.go:199", after := #[{ on := 11, ground := Ground.data }, { on := 10, ground := Ground.chain }, { on := 6, ground := Ground.guard }], guard := some (6, false) } : Oper)) rfl (fun K hK => ?_) ?_
         ·
          go_simp
          (refine (CB2.out _).mono ?_; rintro e u5 ⟨rfl,q5⟩; have Q5 := Lib.hid q5; have B5 : Hid (Below Ve.heap.size Ve u5) := Lib.hid (bchain B4.out q5); (obtain ⟨⟨d0,d1,d2,d3,d4,d5,d6⟩,⟨f0,f1,f2,f3,f4,f5,f6⟩⟩ := LZ.out u5 B5.out); clear q5)
          (try go_wp2_with fail)
          refine hK.out _ _ ?_ (fun hHeld => ?_)
          · ((try dsimp only); first | assumption | go_keep)
          clear hK K
          try simp only [Act.put,List.setIfInBounds_toArray,List.set_cons_zero,List.set_cons_succ]
          refine wpAnyH_ready (rs := [13]) (by kernel_rfl) (by simp) ?_
          refine AllReadyH.cons (o := ({ dst := some 130, op := Op.call { callee := Callee.value (Operand.func 34), args := #[Operand.tmp 125, Operand.tmp 127, Operand.tmp 129], argTypes := #[30, 30, 30] }, type := 4, pos := "law.go:199", after := #[{ on := 8, ground := Ground.data }, { on := 10, ground := Ground.data }, { on := 12, ground := Ground.data }, { on := 12, ground := Ground.chain }, { on := 6, ground := Ground.guard }], guard := some (6, false) } : Oper)) rfl (fun K hK => ?_) ?_
          ·
           go_simp
           (refine (CT.out _ (bchain Q4.out Q5.out) B5.out).mono ?_; rintro e u6 ⟨rfl,q6⟩; have B6 := Lib.hid q6; (obtain ⟨⟨d0,d1,d2,d3,d4,d5,d6⟩,⟨f0,f1,f2,f3,f4,f5,f6⟩⟩ := LZ.out u6 B6.out); clear q6)
           (try go_wp2_with fail)
           refine hK.out _ _ ?_ (fun hHeld => ?_)
           · ((try dsimp only); first | assumption | go_keep)
           clear hK K
           try simp only [Act.put,List.setIfInBounds_toArray,List.set_cons_zero,List.set_cons_succ]
           refine wpAnyH_take (i := 14) (oi := ({ dst := some 131, op := Op.unOp UnOp.not 4 (Operand.tmp 130), type := 4, pos := "law.go:199", after := #[{ on := 13, ground := Ground.data }, { on := 6, ground := Ground.guard }], guard := some (6, false) } : Oper)) (v := ?_) rfl (by kernel_rfl) (by kernel_rfl) (by kernel_rfl) (fun _ _ _ h => h) (Or.inl ⟨by rfl, ?_⟩) (by assumption) ?_
           rotate_left
           ·
            intro wq hSw
            (try dsimp only at hSw)
            go_simp
            (try with_reducible rfl)
           try simp only [Act.put,List.setIfInBounds_toArray,List.set_cons_zero,List.set_cons_succ]
           refine wpAnyH_take (i := 15) (oi := ({ dst := some 132, op := Op.pick (Operand.tmp 123) (Operand.const (Value.bool true)) (Operand.tmp 131), type := 4, pos := "law.go:199", after := #[{ on := 6, ground := Ground.data }, { on := 14, ground := Ground.data }], guard := none } : Oper)) (v := ?_) rfl (by kernel_rfl) (by kernel_rfl) (by kernel_rfl) (fun _ _ _ h => h) (Or.inl ⟨by rfl, ?_⟩) (by assumption) ?_
           rotate_left
           ·
            intro wq hSw
            (try dsimp only at hSw)
            go_simp
            (try with_reducible rfl)
           try simp only [Act.put,List.setIfInBounds_toArray,List.set_cons_zero,List.set_cons_succ]
           refine wpAnyH_take (i := 16) (oi := ({ dst := some 133, op := Op.move (Operand.tmp 132), type := 4, pos := "law.go:199", after := #[{ on := 15, ground := Ground.data }, { on := 13, ground := Ground.chain }], guard := none } : Oper)) (v := ?_) rfl (by kernel_rfl) (by kernel_rfl) (by kernel_rfl) (fun _ _ _ h => h) (Or.inl ⟨by rfl, ?_⟩) (by assumption) ?_
           rotate_left
           ·
            intro wq hSw
            (try dsimp only at hSw)
            go_simp
            (try with_reducible rfl)
           try simp only [Act.put,List.setIfInBounds_toArray,List.set_cons_zero,List.set_cons_succ]
           refine wpAnyH_take (i := 17) (oi := ({ dst := some 134, op := Op.move (Operand.tmp 15), type := 25, pos := "law.go:199", after := #[{ on := 16, ground := Ground.guard }], guard := some (16, false) } : Oper)) (v := ?_) rfl (by kernel_rfl) (by kernel_rfl) (by kernel_rfl) (fun _ _ _ h => h) (Or.inl ⟨by rfl, ?_⟩) (by assumption) ?_
           rotate_left
           ·
            intro wq hSw
            (try dsimp only at hSw)
            go_simp
            (try with_reducible rfl)
           try simp only [Act.put,List.setIfInBounds_toArray,List.set_cons_zero,List.set_cons_succ]
           refine wpAnyH_take (i := 18) (oi := ({ dst := some 135, op := Op.binOp BinOp.eql 25 (Operand.tmp 134) (Operand.const (Value.int IntKind.i64 0)) 25, type := 4, pos := "law.go:199", after := #[{ on := 17, ground := Ground.data }, { on := 16, ground := Ground.guard }], guard := some (16, false) } : Oper)) (v := ?_) rfl (by kernel_rfl) (by kernel_rfl) (by kernel_rfl) (fun _ _ _ h => h) (Or.inl ⟨by rfl, ?_⟩) (by assumption) ?_
           rotate_left
           ·
            intro wq hSw
            (try dsimp only at hSw)
            go_simp
            (try with_reducible rfl)
           try simp only [Act.put,List.setIfInBounds_toArray,List.set_cons_zero,List.set_cons_succ]
           refine wpAnyH_take (i := 19) (oi := ({ dst := some 136, op := Op.move (Operand.tmp 135), type := 4, pos := "law.go:199", after := #[{ on := 18, ground := Ground.data }, { on := 16, ground := Ground.chain }, { on := 16, ground := Ground.guard }], guard := some (16, false) } : Oper)) (v := ?_) rfl (by kernel_rfl) (by kernel_rfl) (by kernel_rfl) (fun _ _ _ h => h) (Or.inl ⟨by rfl, ?_⟩) (by assumption) ?_
           rotate_left
           ·
            intro wq hSw
            (try dsimp only at hSw)
            go_simp
            (try with_reducible rfl)
           try simp only [Act.put,List.setIfInBounds_toArray,List.set_cons_zero,List.set_cons_succ]
           refine wpAnyH_take (i := 20) (oi := ({ dst := some 137, op := Op.move (Operand.tmp 17), type := 24, pos := "law.go:199", after := #[{ on := 19, ground := Ground.guard }], guard := some (19, true) } : Oper)) (v := undef) rfl (by kernel_rfl) (by kernel_rfl) (by kernel_rfl) (fun _ _ _ h => h) (Or.inr ⟨by rfl, rfl⟩) (by assumption) ?_
           try simp only [Act.put,List.setIfInBounds_toArray,List.set_cons_zero,List.set_cons_succ]
           refine wpAnyH_take (i := 22) (oi := ({ dst := some 139, op := Op.load 30 (Operand.tmp 14), type := 30, pos := "law.go:199", after := #[{ on := 19, ground := Ground.guard }], guard := some (19, true) } : Oper)) (v := undef) rfl (by kernel_rfl) (by kernel_rfl) (by kernel_rfl) (fun _ _ _ h => h) (Or.inr ⟨by rfl, rfl⟩) (by assumption) ?_
           try simp only [Act.put,List.setIfInBounds_toArray,List.set_cons_zero,List.set_cons_succ]
           refine wpAnyH_ready (rs := [21]) (by kernel_rfl) (by simp) ?_
           refine AllReadyH.cons (o := ({ dst := some 138, op := Op.call { callee := Callee.value (Operand.func 15), args := #[Operand.tmp 137], argTypes := #[24] }, type := 30, pos := "law.go:199", after := #[{ on := 20, ground := Ground.data }, { on := 19, ground := Ground.chain }, { on := 19, ground := Ground.guard }], guard := some (19, true) } : Oper)) rfl (fun K hK => ?_) ?_
           ·
            go_simp
            refine hK.out _ _ ?_ (fun hHeld => ?_)
            · ((try dsimp only); first | assumption | go_keep)
            clear hK K
            try simp only [Act.put,List.setIfInBounds_toArray,List.set_cons_zero,List.set_cons_succ]
            refine wpAnyH_ready (rs := [23]) (by kernel_rfl) (by simp) ?_
            refine AllReadyH.cons (o := ({ dst := some 140, op := Op.call { callee := Callee.value (Operand.func 33), args := #[Operand.tmp 139], argTypes := #[30] }, type := 30, pos := "law.go:199", after := #[{ on := 22, ground := Ground.data }, { on := 21, ground := Ground.chain }, { on := 19, ground := Ground.guard }], guard := some (19, true) } : Oper)) rfl (fun K hK => ?_) ?_
            ·
             go_simp
             refine hK.out _ _ ?_ (fun hHeld => ?_)
             · ((try dsimp only); first | assumption | go_keep)
             clear hK K
             try simp only [Act.put,List.setIfInBounds_toArray,List.set_cons_zero,List.set_cons_succ]
             refine wpAnyH_ready (rs := [24]) (by kernel_rfl) (by simp) ?_
             refine AllReadyH.cons (o := ({ dst := some 141, op := Op.call { callee := Callee.value (Operand.func 14), args := #[Operand.tmp 138, Operand.tmp 140], argTypes := #[30, 30] }, type := 4, pos := "law.go:199", after := #[{ on := 21, ground := Ground.data }, { on := 23, ground := Ground.data }, { on := 23, ground := Ground.chain }, { on := 19, ground := Ground.guard }], guard := some (19, true) } : Oper)) rfl (fun K hK => ?_) ?_
             ·
              go_simp
              refine hK.out _ _ ?_ (fun hHeld => ?_)
              · ((try dsimp only); first | assumption | go_keep)
              clear hK K
              try simp only [Act.put,List.setIfInBounds_toArray,List.set_cons_zero,List.set_cons_succ]
              refine wpAnyH_take (i := 25) (oi := ({ dst := some 142, op := Op.unOp UnOp.not 4 (Operand.tmp 141), type := 4, pos := "law.go:199", after := #[{ on := 24, ground := Ground.data }, { on := 19, ground := Ground.guard }], guard := some (19, true) } : Oper)) (v := undef) rfl (by kernel_rfl) (by kernel_rfl) (by kernel_rfl) (fun _ _ _ h => h) (Or.inr ⟨by rfl, rfl⟩) (by assumption) ?_
              try simp only [Act.put,List.setIfInBounds_toArray,List.set_cons_zero,List.set_cons_succ]
              refine wpAnyH_take (i := 26) (oi := ({ dst := some 143, op := Op.pick (Operand.tmp 136) (Operand.tmp 142) (Operand.const (Value.bool false)), type := 4, pos := "law.go:199", after := #[{ on := 19, ground := Ground.data }, { on := 25, ground := Ground.data }, { on := 16, ground := Ground.guard }], guard := some (16, false) } : Oper)) (v := ?_) rfl (by kernel_rfl) (by kernel_rfl) (by kernel_rfl) (fun _ _ _ h => h) (Or.inl ⟨by rfl, ?_⟩) (by assumption) ?_
              rotate_left
              ·
               intro wq hSw
               (try dsimp only at hSw)
               go_simp
               (try with_reducible rfl)
              try simp only [Act.put,List.setIfInBounds_toArray,List.set_cons_zero,List.set_cons_succ]
              refine wpAnyH_take (i := 27) (oi := ({ dst := some 144, op := Op.pick (Operand.tmp 133) (Operand.const (Value.bool true)) (Operand.tmp 143), type := 4, pos := "law.go:199", after := #[{ on := 16, ground := Ground.data }, { on := 26, ground := Ground.data }], guard := none } : Oper)) (v := ?_) rfl (by kernel_rfl) (by kernel_rfl) (by kernel_rfl) (fun _ _ _ h => h) (Or.inl ⟨by rfl, ?_⟩) (by assumption) ?_
              rotate_left
              ·
               intro wq hSw
               (try dsimp only at hSw)
               go_simp
               (try with_reducible rfl)
              try simp only [Act.put,List.setIfInBounds_toArray,List.set_cons_zero,List.set_cons_succ]
              refine wpAnyH_done (by kernel_rfl) ?_ _
              go_wp2_with fail
              rw [← HEV.out]
              go_meet
              exact ⟨rfl,Lib.hid (HO.out.later B6.out)⟩
             exact AllReadyH.nil
            exact AllReadyH.nil
           exact AllReadyH.nil
          exact AllReadyH.nil
         exact AllReadyH.nil
        exact AllReadyH.nil
       exact AllReadyH.nil
     case rest =>
      rename World => Y3
      obtain ⟨rfl,HO2⟩ := hcut
      clear HO
      have CS := Lib.hid (HO2.out.save hn98)
      obtain ⟨y0,y1,y2,y3,y4,y5,y6⟩ := HO2.out.rows.2.cells
      unfold Hd.val at CS
      dsimp only at CS y0 y1 y2 y3 y4 y5 y6
      clear HO2
      go_upto_region 31 with (first | (go_at_call 11; refine CS.out.mono ?_; rintro e Vg ⟨rfl,h1⟩; have C1 := Lib.hid (h1.crash HZp.out); (obtain ⟨x0,x1,x2,x3,x4,x5,x6,x7,x8,x9⟩ := LZz.out Vg h1.bel); clear h1 CS x0 x1 x2 x3 x4 x5 x6 x7 x8 y0 y1 y2 y3 y4 y5 y6) | (go_at_call 24; refine C1.out.mono ?_; rintro e Vh ⟨rfl,h1⟩; have C2 := Lib.hid h1.reopen; clear h1 C1) | (go_at_call 10; refine C2.out.mono ?_; rintro e Vi ⟨g3,rfl,h2⟩; have HP := Lib.hid h2; clear h2 C2))
      have LZ := Lib.hid fun y (q : Below Vi.heap.size Vi y) => cells_of HP.out.blk y q
      have CH := Lib.hid fun u (q : Below Vi.heap.size Vi u) => HP.out.hard q
      have CB2 := fun u => lw_bare ⟨t1,v1,b1,bt1,m1,s1,⟨o1,n1,p1⟩⟩ u
      obtain ⟨y0,y1,y2,y3,y4,y5,y6⟩ := LZ.out Vi (Below.refl _ _)
      have hcl := HP.out.blk.lt
      unfold Hd.val noSnap at CH CB2
      dsimp only at CH CB2 y0 y1 y2 y3 y4 y5 y6
      have CB2 := Lib.hid CB2
      have HBk := Lib.hid (bchain HBW.out HP.out.bel)
      clear HP x9
      go_wp2_with fail
      go_region_held3 (fun y => y.cell? ⟨c,0,none⟩ = some (.int .i64 t1) ∧ y.cell? ⟨c,1,none⟩ = some (.int .i64 v1) ∧ y.cell? ⟨c,2,none⟩ = some (.int .i64 b1) ∧ y.cell? ⟨c,3,none⟩ = some (.int .i64 bt1) ∧ y.cell? ⟨c,4,none⟩ = some (.int .i64 m1) ∧ y.cell? ⟨c,5,none⟩ = some (.string s1) ∧ y.cell? ⟨c,6,none⟩ = some (.slice o1 n1 p1)) (go_keep) (first | (go_at_call 15; refine (CH.out _ (by first | exact Below.refl _ _ | exact (Below.refl _ _).drew | exact B5.out)).mono ?_; rintro e u3 ⟨⟨t3,v3,b3,bt3,m3,s3,⟨o3,n3,p3⟩⟩,rfl,ct',q3⟩; have CT := Lib.hid ct'; have B3 : Hid (Below Vi.heap.size Vi u3) := Lib.hid (bchain (by first | exact Below.refl _ _ | exact (Below.refl _ _).drew | exact B5.out) q3); (obtain ⟨d0,d1,d2,d3,d4,d5,d6⟩ := LZ.out u3 B3.out); clear ct' q3) | (go_at_call 33; refine (CB2.out _).mono ?_; rintro e u5 ⟨rfl,q5⟩; have Q5 := Lib.hid q5; have B5 : Hid (Below Vi.heap.size Vi u5) := Lib.hid (bchain (by first | exact Below.refl _ _ | exact (Below.refl _ _).drew | exact B3.out) q5); (obtain ⟨d0,d1,d2,d3,d4,d5,d6⟩ := LZ.out u5 B5.out); clear q5) | (go_at_call 14; refine (CT.out _ (by first | exact Below.refl _ _ | exact Q5.out) (by first | exact B3.out | exact B5.out)).mono ?_; rintro e u6 ⟨rfl,q6⟩; have B6 := Lib.hid q6; (obtain ⟨d0,d1,d2,d3,d4,d5,d6⟩ := LZ.out u6 B6.out); clear q6) | (go_at_call 3; refine (walRuns_any _).mono ?_; rintro e u9 ⟨rfl,q9⟩; have B9 : Hid (Below Vi.heap.size Vi u9) := Lib.hid (bchain B6.out q9); (obtain ⟨d0,d1,d2,d3,d4,d5,d6⟩ := LZ.out u9 B9.out); clear q9) | fail)
      all_goals (go_wp2_with fail; go_ret; exact ⟨rfl,bchain HBk.out (by first | exact B9.out | exact B9.out.drew)⟩)
end Go.Proofs.YtlmjeackfepllaaGreatDoor.Wl
namespace Go.Proofs.YtlmjeackfepllaaGreatDoor
open Go.RowKit
theorem walCuts_walk (ao : Option Addr) (n cap : Nat) (rs : List Wa.T) (ct : Int) (z : Wa.T) (io : Option Addr) (inn icap : Nat) (is : List Int) (w : World) (hA : Wa.Ls w ao n cap rs ∧ ∀ r ∈ rs,Wa.Sub w r) (hct : (Lit.int .i64 ct).wf = true) (hz : Wa.Short z ∧ Wa.Sub w z) (hI : Ints w io inn icap is) :
  Calls Tryz.prog 6 #[.slice ao n cap,.int .i64 ct,Wa.val z,.slice io inn icap] w fun e w' => e = .returned (.bool true) ∧ Below w.heap.size w w' := Wl.walCuts_any rs ao n cap ct z io inn icap is w hA (fit_in hct) hz hI
end Go.Proofs.YtlmjeackfepllaaGreatDoor
