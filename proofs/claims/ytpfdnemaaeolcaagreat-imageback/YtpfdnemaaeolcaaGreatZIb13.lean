import Derived.Deep.RegionHeld3
import Derived.Test.YtpfdnemaaeolcaaGreatZIb2
import Derived.Test.YtpfdnemaaeolcaaGreatZIb3
import Derived.Test.YtpfdnemaaeolcaaGreatZIb4
import Derived.Test.YtpfdnemaaeolcaaGreatZIb6
import Derived.Test.YtpfdnemaaeolcaaGreatZIb8
import Derived.Test.YtpfdnemaaeolcaaGreatZIb9
import Derived.Test.YtpfdnemaaeolcaaGreatZIb10
import Derived.Test.YtpfdnemaaeolcaaGreatZIb12
variable {w u:Go.World} {a:Go.Act} {Q:Go.Exit->Go.Act->Go.World->Prop} {ops:Array Go.Oper} {m n y d:Int} {S:Go.World->Prop} {c:ByteArray} {t:Go.Tmp} {X:List Nat} {id g:Nat} {o0 o1 o2 o3 o4 o5 o6 o7 op o:Go.Oper} {rest:List Go.Oper}
set_option maxHeartbeats 8000000
set_option maxRecDepth 100000
set_option linter.unusedVariables false
namespace Go.Proofs.YtpfdnemaaeolcaaGreat
open Go.RowKit
open Mem
open Go.Sort (grow)
def Bl.mJ (l:List Bl.Ps):Prop:=∀ p∈l,Dt.aA p.y p.m p.d=true/\Bl.sI p.tot
theorem Ef (ps:List Bl.Ps) (rs:List Pd.T) (ao:Option Addr) (n cap:Nat) (w0 w:World) (hw:Below w0.heap.size w0 w) (hL:Pd.Ls w ao n cap rs) (hE:Bl.Each w rs ps) :
  Calls Tryz.prog 32 #[.slice ao n cap] w (Bl.Bb w0 (Bl.mJ ps)):=by
 have HW:=Lh hw;have HL:=Lh hL;have HN:=Lh hL.len;have HE:=Lh hE;have hcap:=hL.reach;have hfit:=hL.fits;clear hL hw hE;go_enter Tryz.func32,Tryz.ntmps32;go_wp2_with fail
 go_loopw [4,7] (fun _ j wr=>∃ k:Nat,k<=n/\j=.int .i64 k/\Hid (Bl.mJ (ps.take k))/\Hid (Below w.heap.size w wr)) (fun _ j _=>n - (intOf j).toNat)
 case atStart=>exact ⟨0,by omega,rfl,Lh (fun _ h=>by cases h),Lh (Below.refl _ _)⟩
 case round =>
  obtain ⟨k,hk,rfl,HT,HB⟩:=hrel;by_cases hlt:k < n
  ·
   obtain ⟨b,off,rfl⟩:=HL.out.at (by omega);have hkl:k < rs.length:=HN.out▸hlt;have hkp:k < ps.length:=HE.out.len▸hkl;have hrow:=(HL.out.row k hkl).below HB.out;have bT:=Lh (HL.out.short _ (List.getElem_mem hkl));have hI:=HE.out.each k hkl;have vK:=Lh (List.getElem_mem hkp);have HS:=Lh (List.take_succ_eq_append_getElem hkp);obtain ⟨r,hr⟩:∃ r,rs[k]=r:=⟨_,rfl⟩;obtain ⟨p,hp⟩:∃ p,ps[k]=p:=⟨_,rfl⟩;rw [hr] at hrow hI bT;rw [hp] at hI HS vK;clear hr hp;have hA:=Pd.dO wr r;have dz:=Lh (aj HB.out (Pd.aC wr r));have HI:=Lh (hI.below (aj HB.out (Pd.aC wr r)));have HA:=Lh hA;have hA':=hA;unfold Pd.C at hA';obtain ⟨a0,a1,a2,a3,a4,a5,a6,a7,a8,a9,uh,qb⟩:=hA';clear hA hI;go_wp2_with (first | ((with_reducible apply Pd.aI hrow);rfl;rfl;rfl)|((with_reducible apply Pd.aQ (r:=r) (g:=wr.heap.size));rfl;rfl;rfl;rfl;rfl;rfl));refine (fJ r.y r.m r.d _ _ (Below.refl _ _) bT.out.2.2.1 bT.out.2.2.2.1 bT.out.2.2.2.2.1).mono ?_;rintro e w1 ⟨rfl,b1⟩;have HB1:=Lh (aj dz.out b1);have HI1:=Lh (HI.out.below b1);have HA1:=Lh (HA.out.below b1);clear b1 a0 a1 a2 a3 a4 a5 a6 a7 a8 a9 uh qb hrow;cases hr:Dt.aA r.y r.m r.d
   ·
    have cK:Hid (¬ Bl.mJ ps):=Lh fun z=>by
     have h:=(z p vK.out).1;rw [<- HI.out.y,<- HI.out.m,<- HI.out.d,hr] at h;cases h
    clear hr;go_wp2_with fail;go_ret;exact ⟨.inr ⟨cK.out,rfl⟩,aj HW.out HB1.out⟩
   ·
    have Ab:Hid (Dt.aA p.y p.m p.d=true):=Lh (by rw [<- HI.out.y,<- HI.out.m,<- HI.out.d];exact hr);clear hr;have hA':=HA1.out;unfold Pd.C at hA';obtain ⟨a0,a1,a2,a3,a4,a5,a6,a7,a8,a9,uh,qb⟩:=hA';go_wp2_with fail;refine (JL p.tot.parts r.parts.ao r.parts.n r.parts.cap w1 w1 (Below.refl _ _) HI1.out.parts).mono ?_;rintro e w2 ⟨hcase,b2⟩;have HB2:=Lh (aj HB1.out b2);have HI2:=Lh (HI1.out.below b2);have HA2:=Lh (HA1.out.below b2);clear b2 a0 a1 a2 a3 a4 a5 a6 a7 a8 a9 uh qb;rcases hcase with ⟨hpt,rfl⟩ | ⟨hno,rfl⟩
    ·
     have O7:=Lh hpt;clear hpt;have hA':=HA2.out;unfold Pd.C at hA';obtain ⟨a0,a1,a2,a3,a4,a5,a6,a7,a8,a9,uh,qb⟩:=hA';have HFi:Hid (Fit p.tot.net/\Fit p.tot.aP/\Fit p.tot.au):=Lh ⟨HI.out.net▸bT.out.2.2.2.2.2.1,HI.out.aP▸bT.out.2.2.2.2.2.2.1,HI.out.au▸bT.out.2.2.2.2.2.2.2.1⟩;have oD:=Lh (JN p.tot r.parts.ao r.parts.n r.parts.cap w2 w2 (Below.refl _ _) HI2.out.parts HFi.out (by have h1:=HI2.out.parts.len;have h2:=O7.out.2.1;omega));rw [<- HI.out.net,<- HI.out.aP,<- HI.out.au] at oD;unfold Tt.val at oD;go_wp2_with fail;refine oD.out.mono ?_;rintro e w3 ⟨hcase,b3⟩;have HB3:=Lh (aj HB2.out b3);clear b3 a0 a1 a2 a3 a4 a5 a6 a7 a8 a9 uh qb oD;rcases hcase with ⟨hsm,rfl⟩ | ⟨hno,rfl⟩
     ·
      have Eh:Hid (Bl.sI p.tot):=Lh (Bl.Ai.2 ⟨O7.out,hsm.1,hsm.2.1,hsm.2.2,HFi.out⟩);clear hsm;go_wp2_with fail;go_roundw
      case rel =>
       refine ⟨k+1,by omega,by go_num,Lh ?_,HB3⟩;rw [HS.out];intro y hy;rcases List.mem_append.1 hy with h | h
       · exact HT.out y h
       ·
        rw [List.mem_singleton.1 h];exact ⟨Ab.out,Eh.out⟩
      case measure=>simp [intOf];omega
     ·
      have cK:Hid (¬ Bl.mJ ps):=Lh fun z=>by
       have h:=Bl.Ai.1 (z p vK.out).2;exact hno ⟨h.2.1,h.2.2.1,h.2.2.2.1⟩
      clear hno;go_wp2_with fail;go_ret;exact ⟨.inr ⟨cK.out,rfl⟩,aj HW.out HB3.out⟩
    ·
     have cK:Hid (¬ Bl.mJ ps):=Lh fun z=>hno (Bl.Ai.1 (z p vK.out).2).1
     clear hno;go_wp2_with fail;go_ret;exact ⟨.inr ⟨cK.out,rfl⟩,aj HW.out HB2.out⟩
  ·
   obtain rfl:k=n:=by omega
   have iM:Hid (Bl.mJ ps):=Lh (by
    have h:=HT.out;rw [List.take_of_length_le (by rw [HN.out,HE.out.len];exact Nat.le_refl _)] at h;exact h)
   go_wp2_with fail;go_ret;exact ⟨.inl ⟨iM.out,rfl⟩,aj HW.out HB.out⟩
end Go.Proofs.YtpfdnemaaeolcaaGreat
namespace Go.Proofs.YtpfdnemaaeolcaaGreat.Pt
open Go.RowKit
open Mem
open Go.Sort (grow)
theorem wS (xs ys:List T) (ao bo:Option Addr) (n m ca cb:Nat) (w0 w:World) (hw:Below w0.heap.size w0 w) (hA:Ls w ao n ca xs) (hB:Ls w bo m cb ys) :
  Calls Tryz.prog 158 #[.slice ao n ca,.slice bo m cb] w fun e w'=>e=.returned (.bool (aK xs ys))/\Below w0.heap.size w0 w':=by
 have HW:=Lh hw;have HA:=Lh hA;have HB:=Lh hB;have HN:=Lh hA.len;have HM:=Lh hB.len;have hca:=hA.reach;have hfa:=hA.fits;have hcb:=hB.reach;have OQ:=hB.fits;clear hw hA hB;by_cases hnm:n=m
 ·
  subst hnm;have hne:((n:Int) != (n:Int))=false:=bne_self_eq_false _;go_enter Tryz.func158,Tryz.ntmps158;go_wp2
  go_loopw [5,13] (fun _ i wr=>∃ k:Nat,k<=n/\i=.int .i64 k/\Hid (aK (xs.drop k) (ys.drop k)=aK xs ys)/\Hid (Below w.heap.size w wr)) (fun _ i _=>n - (intOf i).toNat)
  case atStart=>exact ⟨0,Nat.zero_le _,rfl,Lh rfl,Lh (Below.refl _ _)⟩
  case round =>
   obtain ⟨k,hk,rfl,HK,iT⟩:=hrel;by_cases hlt:k < n
   ·
    obtain ⟨a,oa,rfl⟩:=HA.out.at (by omega);obtain ⟨b,ob,rfl⟩:=HB.out.at (by omega);have hkr:k < xs.length:=HN.out▸hlt;have hks:k < ys.length:=HM.out▸hlt;have bX:=Lh (jV xs ys k hkr hks);obtain ⟨r,hr⟩:∃ r,xs[k]=r:=⟨_,rfl⟩;obtain ⟨s,hs⟩:∃ s,ys[k]=s:=⟨_,rfl⟩;have h1:=(HA.out.row k hkr).below iT.out;have h2:=(HB.out.row k hks).below iT.out;rw [hr] at h1 bX;rw [hs] at h2 bX;clear hr hs;obtain ⟨g0,g1,g2,g3⟩:=h1;obtain ⟨f0,f1,f2,f3⟩:=h2;have g0':=cell_regrown g0;have g1':=cell_regrown g1;have g2':=cell_regrown g2;have g3':=cell_regrown g3;have OT:=cell_regrown f0;have OU:=cell_regrown f1;have f2':=cell_regrown f2;have f3':=cell_regrown f3;clear g0 g1 g2 g3 f0 f1 f2 f3;by_cases e0:r.cat=s.cat
    ·
     have q0:(r.cat.toList==s.cat.toList)=true:=beq_iff_eq.2 (by rw [e0]);by_cases e1:r.bp=s.bp
     ·
      have q1:(r.bp==s.bp)=true:=beq_iff_eq.2 e1;by_cases e2:r.net=s.net
      ·
       have q2:(r.net==s.net)=true:=beq_iff_eq.2 e2;by_cases e3:r.aP=s.aP
       ·
        have q3:(r.aP==s.aP)=true:=beq_iff_eq.2 e3;have HE:Hid (kg r s=true):=Lh (decide_eq_true ⟨e0,e1,e2,e3⟩);clear e0 e1 e2 e3;go_wp2;refine wp_region_quiet_below (by kernel_rfl) (by kernel_rfl) ?_
        repeat (first | go_big_quiet_step (fail) | quiet_step (fail))
        refine wpQuiet_nil ?_;intro _ hw';obtain ⟨⟨dq,osq⟩,hw''⟩:=hw';subst hw'';have cO:=Lh (aj iT.out (below_regrown wr dq osq));go_wp2;go_roundw
        case rel=>exact ⟨k+1,by omega,by go_num,Lh (by rw [<- HK.out,bX.out,HE.out,Bool.true_and]),cO⟩
        case measure=>simp [intOf];omega
       ·
        have q3:(r.aP==s.aP)=false:=beq_eq_false_iff_ne.2 e3;have HE:Hid (kg r s=false):=Lh (decide_eq_false fun h=>e3 h.2.2.2);clear e0 e1 e2 e3;go_wp2;refine wp_region_quiet_below (by kernel_rfl) (by kernel_rfl) ?_
        repeat (first | go_big_quiet_step (fail) | quiet_step (fail))
        refine wpQuiet_nil ?_;intro _ hw';obtain ⟨⟨dq,osq⟩,hw''⟩:=hw';subst hw'';have cO:=Lh (aj iT.out (below_regrown wr dq osq));go_wp2;go_ret;exact ⟨ay (by rw [<- HK.out,bX.out,HE.out,Bool.false_and]),aj HW.out cO.out⟩
      ·
       have q2:(r.net==s.net)=false:=beq_eq_false_iff_ne.2 e2;have HE:Hid (kg r s=false):=Lh (decide_eq_false fun h=>e2 h.2.2.1);clear e0 e1 e2;go_wp2;refine wp_region_quiet_below (by kernel_rfl) (by kernel_rfl) ?_
       repeat (first | go_big_quiet_step (fail) | quiet_step (fail))
       refine wpQuiet_nil ?_;intro _ hw';obtain ⟨⟨dq,osq⟩,hw''⟩:=hw';subst hw'';have cO:=Lh (aj iT.out (below_regrown wr dq osq));go_wp2;go_ret;exact ⟨ay (by rw [<- HK.out,bX.out,HE.out,Bool.false_and]),aj HW.out cO.out⟩
     ·
      have q1:(r.bp==s.bp)=false:=beq_eq_false_iff_ne.2 e1;have HE:Hid (kg r s=false):=Lh (decide_eq_false fun h=>e1 h.2.1);clear e0 e1;go_wp2;refine wp_region_quiet_below (by kernel_rfl) (by kernel_rfl) ?_
      repeat (first | go_big_quiet_step (fail) | quiet_step (fail))
      refine wpQuiet_nil ?_;intro _ hw';obtain ⟨⟨dq,osq⟩,hw''⟩:=hw';subst hw'';have cO:=Lh (aj iT.out (below_regrown wr dq osq));go_wp2;go_ret;exact ⟨ay (by rw [<- HK.out,bX.out,HE.out,Bool.false_and]),aj HW.out cO.out⟩
    ·
     have q0:(r.cat.toList==s.cat.toList)=false:=beq_eq_false_iff_ne.2 fun h=>e0 (oz (by rw [<- tl,<- tl];exact h))
     have HE:Hid (kg r s=false):=Lh (decide_eq_false fun h=>e0 h.1);clear e0;go_wp2;refine wp_region_quiet_below (by kernel_rfl) (by kernel_rfl) ?_
     repeat (first | go_big_quiet_step (fail) | quiet_step (fail))
     refine wpQuiet_nil ?_;intro _ hw';obtain ⟨⟨dq,osq⟩,hw''⟩:=hw';subst hw'';have cO:=Lh (aj iT.out (below_regrown wr dq osq));go_wp2;go_ret;exact ⟨ay (by rw [<- HK.out,bX.out,HE.out,Bool.false_and]),aj HW.out cO.out⟩
   ·
    obtain rfl:k=n:=by omega
    go_wp2;go_ret;refine ⟨ay ?_,HW.out.trans (iT.out.mono HW.out.size)⟩;rw [<- HK.out,List.drop_eq_nil_of_le (Nat.le_of_eq HN.out.symm),List.drop_eq_nil_of_le (Nat.le_of_eq HM.out.symm)];rfl
 ·
  have HE:=Lh (fU (l:=xs) (m:=ys) (by rw [<- HN.out,<- HM.out];exact hnm));have hne:((n:Int) != (m:Int))=true:=bne_iff_ne.2 (by omega);go_enter Tryz.func158,Tryz.ntmps158;go_wp2;go_ret;exact ⟨ay HE.out.symm,HW.out⟩
end Go.Proofs.YtpfdnemaaeolcaaGreat.Pt
namespace Go.Proofs.YtpfdnemaaeolcaaGreat
open Go.RowKit
open Mem
open Go.Sort (grow)
theorem SG (t u:Iv.iD) (ao bo:Option Addr) (n ca m cb:Nat) (w0 w:World) (hw:Below w0.heap.size w0 w) (h1:Pt.Ls w ao n ca t.parts) (h2:Pt.Ls w bo m cb u.parts) :
  Calls Tryz.prog 121 #[Tt.val t.net t.aP t.au (.slice ao n ca),Tt.val u.net u.aP u.au (.slice bo m cb)] w (Bl.Bb w0 (t=u)):=by
 have HW:=Lh hw;obtain ⟨U,hU,hB,k0,k1,hs⟩:=Bl.U7 w (.cells #[.int .i64 t.net,.int .i64 t.aP,.int .i64 t.au,.slice ao n ca] 102) (.cells #[.int .i64 u.net,.int .i64 u.aP,.int .i64 u.au,.slice bo m cb] 102);have hT:Tt.At U w.heap.size t.net t.aP t.au (.slice ao n ca):=k0;have hV:Tt.At U (w.heap.size+1) u.net u.aP u.au (.slice bo m cb):=k1;obtain ⟨x0,x1,x2,x3⟩:=hT.cells;obtain ⟨y0,y1,y2,y3⟩:=hV.cells;have HB:=Lh hB;have lK:=Lh (h1.below hB);have HL2:=Lh (h2.below hB);clear hw h1 h2 hB k0 k1 hs hT hV;unfold Tt.val;by_cases e0:t.net=u.net
 ·
  have q0:(t.net==u.net)=true:=beq_iff_eq.2 e0;have E0:=Lh e0;clear e0;by_cases e1:t.aP=u.aP
  ·
   have q1:(t.aP==u.aP)=true:=beq_iff_eq.2 e1;have E1:=Lh e1;clear e1;by_cases e2:t.au=u.au
   ·
    have q2:(t.au==u.au)=true:=beq_iff_eq.2 e2;have E2:=Lh e2;clear e2;go_enter Tryz.func121,Tryz.ntmps121;go_wp2_with fail;refine (Pt.wS t.parts u.parts ao bo n m ca cb U U (Below.refl _ _) lK.out HL2.out).mono ?_;rintro e w1 ⟨rfl,b1⟩;have HB1:=Lh (aj HB.out b1);clear b1;cases hs:Pt.aK t.parts u.parts
    ·
     have cK:Hid (¬ t=u):=Lh fun z=>by rw [z,Pt.eO] at hs;cases hs
     clear hs;go_wp2_with fail;go_ret;exact ⟨.inr ⟨cK.out,rfl⟩,aj HW.out HB1.out⟩
    ·
     have iM:Hid (t=u):=Lh (by
      cases t
      cases u
      simp only [Iv.iD.mk.injEq];exact ⟨E0.out,E1.out,E2.out,(Pt.bM _ _).1 hs⟩)
     clear hs;go_wp2_with fail;go_ret;exact ⟨.inl ⟨iM.out,rfl⟩,aj HW.out HB1.out⟩
   ·
    have q2:(t.au==u.au)=false:=beq_eq_false_iff_ne.2 e2;have cK:Hid (¬ t=u):=Lh fun z=>e2 (by rw [z])
    clear e2;go_enter Tryz.func121,Tryz.ntmps121;go_wp2_with fail;go_ret;exact ⟨.inr ⟨cK.out,rfl⟩,aj HW.out HB.out⟩
  ·
   have q1:(t.aP==u.aP)=false:=beq_eq_false_iff_ne.2 e1;have cK:Hid (¬ t=u):=Lh fun z=>e1 (by rw [z])
   clear e1;go_enter Tryz.func121,Tryz.ntmps121;go_wp2_with fail;go_ret;exact ⟨.inr ⟨cK.out,rfl⟩,aj HW.out HB.out⟩
 ·
  have q0:(t.net==u.net)=false:=beq_eq_false_iff_ne.2 e0;have cK:Hid (¬ t=u):=Lh fun z=>e0 (by rw [z])
  clear e0;go_enter Tryz.func121,Tryz.ntmps121;go_wp2_with fail;go_ret;exact ⟨.inr ⟨cK.out,rfl⟩,aj HW.out HB.out⟩
section
variable {ops:Array Oper} {o:Oper} {a:Act} {S:World->Prop} {t:Tmp} {g:Nat}
theorem Bl.Zm (hgd:o.guard=none) (ho:o.op=.fieldAddr 77 (.tmp t) 1) (hp:a.tmps.toList[t]? =some (.pointer (some ⟨g,0,none⟩))):YieldsIf Tryz.prog ops S o (.pointer (some ⟨g,1,none⟩)) a:=by
 refine .inl ⟨by simp [Region.wanted,hgd],fun u _=>?_⟩;simp only [execOp,ho,Ca.gY hp];simp [go_sem]
theorem Bl.Zn (hgd:o.guard=none) (ho:o.op=.fieldAddr 30 (.tmp t) 3) (hp:a.tmps.toList[t]? =some (.pointer (some ⟨g,0,none⟩))):YieldsIf Tryz.prog ops S o (.pointer (some ⟨g,3,none⟩)) a:=by
 refine .inl ⟨by simp [Region.wanted,hgd],fun u _=>?_⟩;simp only [execOp,ho,Ca.gY hp];simp [go_sem]
theorem Bl.XW {k:Nat} (hgd:o.guard=none) (ho:o.op=.load 3 (.tmp t)) (hp:a.tmps.toList[t]? =some (.pointer (some ⟨g,k,none⟩))) (hS:∀ u,S u->u.cell? ⟨g,k,none⟩=some (.int .i64 n)):YieldsIf Tryz.prog ops S o (.int .i64 n) a:=by
 refine .inl ⟨by simp [Region.wanted,hgd],fun u hu=>?_⟩;have h:=hS u hu;simp only [execOp,ho,Ca.gY hp];simp [go_sem,h]
theorem Bl.y_bal {k:Nat} {ao:Option Addr} {n c:Nat} (hgd:o.guard=none) (ho:o.op=.load 27 (.tmp t)) (hp:a.tmps.toList[t]? =some (.pointer (some ⟨g,k,none⟩))) (hS:∀ u,S u->u.cell? ⟨g,k,none⟩=some (.slice ao n c)):YieldsIf Tryz.prog ops S o (.slice ao n c) a:=by
 refine .inl ⟨by simp [Region.wanted,hgd],fun u hu=>?_⟩;have h:=hS u hu;simp only [execOp,ho,Ca.gY hp];simp [go_sem,h]
theorem Bl.Zo (hgd:o.guard=none) (ho:o.op=.binOp .sub 3 (.tmp t) (.const (.int .i64 1)) 3) (hp:a.tmps.toList[t]? =some (.int .i64 n)) (h1: -9223372036854775808<=n - 1) (h2:n - 1<=9223372036854775807):YieldsIf Tryz.prog ops S o (.int .i64 (n - 1)) a:=by
 refine .inl ⟨by simp [Region.wanted,hgd],fun u _=>?_⟩;have hwr:IntKind.i64.wrap (n - 1)=n - 1:=by rw [IntKind.wrap_i64];omega
 have e1:a.eval (.const (.int .i64 1))=.int .i64 1:=rfl;simp only [execOp,ho,Ca.gY hp,e1];simp [go_sem,hwr]
theorem Rp.LC {x y:Tmp} (hgd:o.guard=none) (ho:o.op=.build 43 #[(1,.tmp x),(2,.tmp y)]) (hx:a.tmps.toList[x]? =some (.int .i64 m)) (hy:a.tmps.toList[y]? =some (.int .i64 n)):YieldsIf Tryz.prog ops S o (Rp.val ⟨0,m,n⟩) a:=by
 refine .inl ⟨by simp [Region.wanted,hgd],fun u _=>?_⟩;simp only [execOp,ho,List.map_toArray,List.map_cons,List.map_nil,Ca.gY hx,Ca.gY hy];simp [go_sem,Rp.val]
end
def Bl.chk8 (ops:Array Oper):Bool:=Region.noSelect ops&&Bl.tk ops [false,false,false,false,false,false,false,false] 0&&Bl.tk ops [true,false,false,false,false,false,false,false] 1&&Bl.tk ops [true,true,false,false,false,false,false,false] 2&&Bl.tk ops [true,true,true,false,false,false,false,false] 3&&Bl.tk ops [true,true,true,true,false,false,false,false] 4&&(Region.ready .any ops #[true,true,true,true,true,false,false,false]==[5])&&Bl.tk ops [true,true,true,true,true,true,false,false] 6&&(Region.ready .any ops #[true,true,true,true,true,true,true,false]==[7])&&(Region.ready .any ops #[true,true,true,true,true,true,true,true]==[])
theorem Bl.Zp (v0 v1 v2 v3 v4:Value) {f:FuncId} {args:Array Value} (hS:S w.drew) (hc:Bl.chk8 #[o0,o1,o2,o3,o4,o5,o6,o7]=true)
  (y0:YieldsIf Tryz.prog #[o0,o1,o2,o3,o4,o5,o6,o7] S o0 v0 a) (y1:YieldsIf Tryz.prog #[o0,o1,o2,o3,o4,o5,o6,o7] S o1 v1 (a.put o0.dst v0)) (y2:YieldsIf Tryz.prog #[o0,o1,o2,o3,o4,o5,o6,o7] S o2 v2 ((a.put o0.dst v0).put o1.dst v1)) (y3:YieldsIf Tryz.prog #[o0,o1,o2,o3,o4,o5,o6,o7] S o3 v3 (((a.put o0.dst v0).put o1.dst v1).put o2.dst v2)) (y4:YieldsIf Tryz.prog #[o0,o1,o2,o3,o4,o5,o6,o7] S o4 v4 ((((a.put o0.dst v0).put o1.dst v1).put o2.dst v2).put o3.dst v3))
  (q0:∀ c a w,Q (.panic c) (Act.put a o0.dst v0) w->Q (.panic c) a w) (q1:∀ c a w,Q (.panic c) (Act.put a o1.dst v1) w->Q (.panic c) a w) (q2:∀ c a w,Q (.panic c) (Act.put a o2.dst v2) w->Q (.panic c) a w) (q3:∀ c a w,Q (.panic c) (Act.put a o3.dst v3) w->Q (.panic c) a w) (q4:∀ c a w,Q (.panic c) (Act.put a o4.dst v4) w->Q (.panic c) a w)
  (hg5:o5.guard=none) (hrun:(execOp (((((a.put o0.dst v0).put o1.dst v1).put o2.dst v2).put o3.dst v3).put o4.dst v4).eval o5).run Tryz.prog w.drew=.ok (.enter f args) w.drew)
  (k:Calls Tryz.prog f args w.drew fun e w'=>∃ (v5:Value) (r r0:Rp.T) (gR x y:Nat),e=.returned v5/\S w'/\YieldsIf Tryz.prog #[o0,o1,o2,o3,o4,o5,o6,o7] S o6 (Rp.val r) ((((((a.put o0.dst v0).put o1.dst v1).put o2.dst v2).put o3.dst v3).put o4.dst v4).put o5.dst v5)/\(∀ c a w,Q (.panic c) (Act.put a o6.dst (Rp.val r)) w->Q (.panic c) a w) /\
   o7.guard=none/\o7.op=.store 43 (.tmp x) (.tmp y)/\o7.dst=none/\(((((((a.put o0.dst v0).put o1.dst v1).put o2.dst v2).put o3.dst v3).put o4.dst v4).put o5.dst v5).put o6.dst (Rp.val r)).tmps.toList[x]? =some (.pointer (some ⟨gR,0,none⟩))/\(((((((a.put o0.dst v0).put o1.dst v1).put o2.dst v2).put o3.dst v3).put o4.dst v4).put o5.dst v5).put o6.dst (Rp.val r)).tmps.toList[y]? =some (Rp.val r)/\Rp.Bk w' gR r0/\S (Rp.lay w' gR r) /\
   Q .normal (((((((a.put o0.dst v0).put o1.dst v1).put o2.dst v2).put o3.dst v3).put o4.dst v4).put o5.dst v5).put o6.dst (Rp.val r)) (Rp.lay w' gR r)) :
  (Code.region id #[o0,o1,o2,o3,o4,o5,o6,o7] true).wp Tryz.prog Q a w:=by
 unfold Bl.chk8 at hc;simp only [Bool.and_eq_true,beq_iff_eq] at hc;obtain ⟨⟨⟨⟨⟨⟨⟨⟨⟨c,c0⟩,c1⟩,c2⟩,c3⟩,c4⟩,c5⟩,c6⟩,c7⟩,c8⟩:=hc;refine wp_region_held_drew (S:=S) (by kernel_rfl) hS (fun hH=>?_);show wpAnyH Tryz.prog .any #[o0,o1,o2,o3,o4,o5,o6,o7] Q _ 8 [false,false,false,false,false,false,false,false].toArray a w.drew;refine Bl.aO (i:=0) (oi:=o0) rfl c c0 q0 y0 hH ?_;refine Bl.aO (i:=1) (oi:=o1) rfl c c1 q1 y1 hH ?_;refine Bl.aO (i:=2) (oi:=o2) rfl c c2 q2 y2 hH ?_;refine Bl.aO (i:=3) (oi:=o3) rfl c c3 q3 y3 hH ?_;refine Bl.aO (i:=4) (oi:=o4) rfl c c4 q4 y4 hH ?_;refine Bl.eu (i:=5) (oi:=o5) rfl c5 (fun K hK=>?_);refine Bl.fB hg5 hrun (k.mono ?_);rintro e w' ⟨v5,r,r0,gR,x,y,rfl,hS',y6,q6,g7,h7,d7,ex,ey,hB,hS7,hk⟩;refine ⟨_,rfl,hK.out _ _ hS' fun hH'=>?_⟩;clear hK K;refine Bl.aO (i:=6) (oi:=o6) rfl c c6 q6 y6 hS' ?_;refine Bl.eu (i:=7) (oi:=o7) rfl c7 (fun K hK=>?_);refine Rp.dJ g7 h7 d7 ex ey hB (hK.out _ _ hS7 fun hH3=>?_);clear hK K;exact wpAnyH_done c8 hk _
def Bl.GJ (s:Bl.St) (c:ByteArray):Rp.T:=if Se.ix c s.av < s.av.length then ⟨0,(Se.own s.av c).next - 1,Po.val Po.sU s.book⟩ else ⟨11,0,0⟩
theorem VX (s:Bl.St) (h:Bl.Sv) (c:ByteArray) (w0 w:World) (hw:Below w0.heap.size w0 w) (hL:Bl.kW w h s) (hR:Bl.Right s) :
  Calls Tryz.prog 93 #[h.val,.string c] w fun e w'=>e=.returned (Rp.val (Bl.GJ s c))/\Below w0.heap.size w0 w':=by
 have HW:=Lh hw;have HL:=Lh hL;have HR:=Lh hR;obtain ⟨U,hU,hB,k0,k1,hs⟩:=Bl.U7 w (.cells #[.slice h.tab.ao h.tab.n h.tab.cap,.slice h.av.ao h.av.n h.av.cap,.slice h.post.ao h.post.n h.post.cap,.slice h.book.ao h.book.n h.book.cap,.slice h.ak.ao h.ak.n h.ak.cap,.int .i64 h.next] 30) (.cells #[.int .i64 0,.int .i64 0,.int .i64 0] 43);have hA:Bl.At U w.heap.size h:=k0;have hZ:Rp.Bk U (w.heap.size+1) ⟨0,0,0⟩:=k1;have HA:=Lh hA;have HZ:=Lh hZ;have HB:=Lh hB;have HS:=Lh hs;obtain ⟨x0,x1,x2,x3,x4,x5⟩:=hA.cells;clear k0 k1 hL hR hw hB hs hA hZ;unfold Bl.Sv.val Bl.sl;go_enter Tryz.func93,Tryz.ntmps93;go_wp2_with fail;clear hU;refine (Rw s.av c h.av.ao h.av.n h.av.cap U U (Below.refl _ _) (HL.out.av.below HB.out)).mono ?_;rintro e w1 ⟨rfl,b1⟩;have bT:Hid (Se.ix c s.av < s.av.length->Se.sound (Se.own s.av c)=true):=Lh fun q=>((Se.aJ _).1 HR.out.av).2.1 _ (Se.dP q)
 by_cases hi:Se.ix c s.av < s.av.length
 ·
  have HP:Hid (Bl.GJ s c=⟨0,(Se.own s.av c).next - 1,Po.val Po.sU s.book⟩):=Lh (if_pos hi);have hd:decide (Se.ix c s.av < s.av.length)=true:=decide_eq_true hi;obtain ⟨r,hr⟩:∃ r,Se.own s.av c=r:=⟨_,rfl⟩;have Z7:=Lh (Se.bL.1 (bT.out hi));rw [hr] at HP Z7 ⊢;rw [hd];clear hd hi hr;have hl1:=Se.lQ.1 Z7.out.2.1;have hlo: -9223372036854775808<=r.next - 1:=by have:=Z7.out.2.2.1;omega
  have hhi:r.next - 1<=9223372036854775807:=by have:=Z7.out.2.2.2;omega
  clear hl1;obtain ⟨W,hW,hbW,hC⟩:=Sr.bZ w1 r;have Q9:=Lh hC;have hA1:=(HA.out.below b1).below hbW;have HA1:=Lh hA1;have HZ1:=Lh ((HZ.out.below b1).below hbW);have HB1:=Lh (aj b1 hbW);have uO:=Lh b1.size;unfold Sr.C at hC;obtain ⟨a0,a1,a2,a3⟩:=hC;have t3:=hA1.cells.2.2.2.1;clear b1 hbW hA1 x0 x1 x2 x3 x4 x5;unfold Sr.val;go_wp2_with fail;clear hW;have hne1:w1.heap.size≠w.heap.size+1:=by have:=HZ1.out.lt;have:=HB1.out.size;have:=HS.out;have:=uO.out;omega
  refine Bl.Zp (f:=140) (args:=#[.slice h.book.ao h.book.n h.book.cap,.string Po.sU]) (S:=fun u=>u.cell? ⟨w1.heap.size,1,none⟩=some (.int .i64 r.next)/\u.cell? ⟨w.heap.size,3,none⟩=some (.slice h.book.ao h.book.n h.book.cap)) (.pointer (some ⟨w1.heap.size,1,none⟩)) (.int .i64 r.next) (.int .i64 (r.next - 1)) (.pointer (some ⟨w.heap.size,3,none⟩)) (.slice h.book.ao h.book.n h.book.cap) ⟨a1,t3⟩ ?_ ?_ ?_ ?_ ?_ ?_ ?_ ?_ ?_ ?_ ?_ ?_ ?_ ?_
  · kernel_rfl
  · exact Bl.Zm (t:=5) rfl rfl rfl
  · exact Bl.XW (t:=17) rfl rfl rfl fun u hu=>hu.1
  · exact Bl.Zo (t:=18) rfl rfl rfl hlo hhi
  · exact Bl.Zn (t:=2) rfl rfl rfl
  · exact Bl.y_bal (t:=20) rfl rfl rfl fun u hu=>hu.2
  · exact fun _ _ _ h=>h
  · exact fun _ _ _ h=>h
  · exact fun _ _ _ h=>h
  · exact fun _ _ _ h=>h
  · exact fun _ _ _ h=>h
  · rfl
  ·
   refine Bl.enters rfl ?_ Tryz.func140 ?_ rfl _
   · kernel_rfl
   · kernel_rfl
  refine (I5 s.book Po.sU h.book.ao h.book.n h.book.cap W _ (Below.refl _ _).drew (HL.out.book.below (aj HB.out (aj HB1.out (Below.refl _ _).drew))) HR.out.sorted).mono ?_;rintro e w2 ⟨rfl,b2⟩;have hZ2:=HZ1.out.below b2;have u1:=((aD b2).1 _ _ (aH a1)).trans a1;have u3:=((aD b2).1 _ _ (aH t3)).trans t3;refine ⟨_,⟨0,r.next - 1,Po.val Po.sU s.book⟩,⟨0,0,0⟩,w.heap.size+1,4,23,rfl,⟨u1,u3⟩,?_,?_,rfl,rfl,rfl,?_,?_,hZ2,⟨?_,?_⟩,?_⟩
  ·
   refine Rp.LC (x:=19) (y:=22) rfl rfl ?_ ?_
   · kernel_rfl
   · kernel_rfl
  · exact fun _ _ _ h=>h
  · kernel_rfl
  · kernel_rfl
  · exact (World.cell?_of_block (setRow_other w2 (w.heap.size+1) w1.heap.size _ hne1)).trans u1
  · exact (World.cell?_of_block (setRow_other w2 (w.heap.size+1) w.heap.size _ (by omega))).trans u3
  go_wp2_with fail;refine bodyPost_ret (Rp.kZ Tryz.results93 ?_ (hZ2.lay _)) ?_ ⟨by rw [HP.out],Rp.dM (aj HW.out (aj HB.out (aj HB1.out b2))) (by have:=HW.out.size;omega) _⟩
  · kernel_rfl
  · kernel_rfl
 ·
  have HP:Hid (Bl.GJ s c=⟨11,0,0⟩):=Lh (if_neg hi);have hd:decide (Se.ix c s.av < s.av.length)=false:=decide_eq_false hi;rw [hd];clear hd;obtain ⟨r,hr⟩:∃ r,Se.own s.av c=r:=⟨_,rfl⟩;rw [hr];clear hr;obtain ⟨W,hW,hbW,hC⟩:=Sr.bZ w1 r;have HZ1:=Lh ((HZ.out.below b1).below hbW);have HB1:=Lh (aj b1 hbW);clear b1 hbW x0 x1 x2 x3 x4 x5;unfold Sr.val;go_wp2_with fail;clear hW;refine (qZ 11 W W (Below.refl _ _)).mono ?_;rintro e w2 ⟨rfl,b2⟩;have hZ2:=HZ1.out.below b2;have HZ2:=Lh hZ2;have HB2:=Lh b2;clear b2;go_wp2_with (first | ((with_reducible apply Rp.aU (r:=⟨11,0,0⟩) hZ2);rfl;rfl;rfl;rfl));exact bodyPost_ret (Rp.kZ Tryz.results93 rfl (HZ2.out.lay _)) rfl ⟨by rw [HP.out],Rp.dM (aj HW.out (aj HB.out (aj HB1.out HB2.out))) (by have:=HW.out.size;omega) _⟩
def Bl.chkO (ops:Array Oper):Bool:=Region.noSelect ops&&Bl.tk ops [false,false,false,false,false,false,false,false] 0&&Bl.tk ops [true,false,false,false,false,false,false,false] 1&&Bl.tk ops [true,true,false,false,false,false,false,false] 2&&Bl.tk ops [true,true,true,false,false,false,false,false] 3&&Bl.tk ops [true,true,true,true,false,false,false,false] 4&&Bl.tk ops [true,true,true,true,true,false,false,false] 5&&(Region.ready .any ops #[true,true,true,true,true,true,false,false]==[6])&&(Region.ready .any ops #[true,true,true,true,true,true,true,false]==[7])&&(Region.ready .any ops #[true,true,true,true,true,true,true,true]==[])
theorem Bl.VY (h h0:Bl.Sv) (r r0:Rp.T) (v1 v2 v3 v4:Value) (gS gR:Nat) {x3 y3 x4 y4:Tmp} (hS:S w.drew) (hA:Bl.At w gS h0) (hB:Rp.Bk w gR r0) (hn:gS≠gR) (hS1:∀ u,S u->S (Bl.lay u gS h)) (hS2:∀ u,S u->S (Rp.lay u gR r)) (hc:Bl.chkO #[o0,o1,o2,o3,o4,o5,o6,o7]=true)
  (y0:YieldsIf Tryz.prog #[o0,o1,o2,o3,o4,o5,o6,o7] S o0 h.val a) (y1:YieldsIf Tryz.prog #[o0,o1,o2,o3,o4,o5,o6,o7] S o1 v1 (a.put o0.dst h.val)) (y2:YieldsIf Tryz.prog #[o0,o1,o2,o3,o4,o5,o6,o7] S o2 v2 ((a.put o0.dst h.val).put o1.dst v1)) (y3':YieldsIf Tryz.prog #[o0,o1,o2,o3,o4,o5,o6,o7] S o3 v3 (((a.put o0.dst h.val).put o1.dst v1).put o2.dst v2)) (y4':YieldsIf Tryz.prog #[o0,o1,o2,o3,o4,o5,o6,o7] S o4 v4 ((((a.put o0.dst h.val).put o1.dst v1).put o2.dst v2).put o3.dst v3)) (y5:YieldsIf Tryz.prog #[o0,o1,o2,o3,o4,o5,o6,o7] S o5 (Rp.val r) (((((a.put o0.dst h.val).put o1.dst v1).put o2.dst v2).put o3.dst v3).put o4.dst v4))
  (q0:∀ c a w,Q (.panic c) (Act.put a o0.dst h.val) w->Q (.panic c) a w) (q1:∀ c a w,Q (.panic c) (Act.put a o1.dst v1) w->Q (.panic c) a w) (q2:∀ c a w,Q (.panic c) (Act.put a o2.dst v2) w->Q (.panic c) a w) (q3:∀ c a w,Q (.panic c) (Act.put a o3.dst v3) w->Q (.panic c) a w) (q4:∀ c a w,Q (.panic c) (Act.put a o4.dst v4) w->Q (.panic c) a w) (q5:∀ c a w,Q (.panic c) (Act.put a o5.dst (Rp.val r)) w->Q (.panic c) a w)
  (ho3:o6.op=.store 30 (.tmp x3) (.tmp y3)) (hg3:o6.guard=none) (hd3:o6.dst=none) (U8:o7.op=.store 43 (.tmp x4) (.tmp y4)) (hg4:o7.guard=none) (hd4:o7.dst=none)
  (e3:((((((a.put o0.dst h.val).put o1.dst v1).put o2.dst v2).put o3.dst v3).put o4.dst v4).put o5.dst (Rp.val r)).tmps.toList[x3]? =some (.pointer (some ⟨gS,0,none⟩)))
  (f3:((((((a.put o0.dst h.val).put o1.dst v1).put o2.dst v2).put o3.dst v3).put o4.dst v4).put o5.dst (Rp.val r)).tmps.toList[y3]? =some h.val)
  (e4:((((((a.put o0.dst h.val).put o1.dst v1).put o2.dst v2).put o3.dst v3).put o4.dst v4).put o5.dst (Rp.val r)).tmps.toList[x4]? =some (.pointer (some ⟨gR,0,none⟩)))
  (f4:((((((a.put o0.dst h.val).put o1.dst v1).put o2.dst v2).put o3.dst v3).put o4.dst v4).put o5.dst (Rp.val r)).tmps.toList[y4]? =some (Rp.val r))
  (k:Q .normal ((((((a.put o0.dst h.val).put o1.dst v1).put o2.dst v2).put o3.dst v3).put o4.dst v4).put o5.dst (Rp.val r)) (Bl.fA w.drew gS gR h r)) :
  (Code.region id #[o0,o1,o2,o3,o4,o5,o6,o7] true).wp Tryz.prog Q a w:=by
 unfold Bl.chkO at hc;simp only [Bool.and_eq_true,beq_iff_eq] at hc;obtain ⟨⟨⟨⟨⟨⟨⟨⟨⟨c,c0⟩,c1⟩,c2⟩,c3⟩,c4⟩,c5⟩,c6⟩,c7⟩,c8⟩:=hc;refine wp_region_held_drew (S:=S) (by kernel_rfl) hS (fun hH=>?_);show wpAnyH Tryz.prog .any #[o0,o1,o2,o3,o4,o5,o6,o7] Q _ 8 [false,false,false,false,false,false,false,false].toArray a w.drew;refine Bl.aO (i:=0) (oi:=o0) rfl c c0 q0 y0 hH ?_;refine Bl.aO (i:=1) (oi:=o1) rfl c c1 q1 y1 hH ?_;refine Bl.aO (i:=2) (oi:=o2) rfl c c2 q2 y2 hH ?_;refine Bl.aO (i:=3) (oi:=o3) rfl c c3 q3 y3' hH ?_;refine Bl.aO (i:=4) (oi:=o4) rfl c c4 q4 y4' hH ?_;refine Bl.aO (i:=5) (oi:=o5) rfl c c5 q5 y5 hH ?_;refine Bl.eu (i:=6) (oi:=o6) rfl c6 (fun K hK=>?_);refine Bl.dJ hg3 ho3 hd3 e3 f3 (h0:=h0) hA (hK.out _ _ (hS1 _ hH) fun hH2=>?_);clear hK K;refine Bl.eu (i:=7) (oi:=o7) rfl c7 (fun K hK=>?_);refine Rp.dJ hg4 U8 hd4 e4 f4 (Rp.Bk.other (w:=w.drew) hB (Ne.symm hn) _) (hK.out _ _ (hS2 _ hH2) fun hH3=>?_);clear hK K;exact wpAnyH_done c8 k _
section
variable {ops:Array Oper} {o:Oper} {a:Act} {S:World->Prop} {t:Tmp} {g:Nat}
theorem Bl.y_tot (hgd:o.guard=none) (ho:o.op=.fieldAddr 104 (.tmp t) 2) (hp:a.tmps.toList[t]? =some (.pointer (some ⟨g,0,none⟩))):YieldsIf Tryz.prog ops S o (.pointer (some ⟨g,5,none⟩)) a:=by
 refine .inl ⟨by simp [Region.wanted,hgd],fun u _=>?_⟩;simp only [execOp,ho,Ca.gY hp];simp [go_sem]
theorem Bl.VZ (hgd:o.guard=none) (ho:o.op=.fieldAddr 102 (.tmp t) 2) (hp:a.tmps.toList[t]? =some (.pointer (some ⟨g,5,none⟩))):YieldsIf Tryz.prog ops S o (.pointer (some ⟨g,7,none⟩)) a:=by
 refine .inl ⟨by simp [Region.wanted,hgd],fun u _=>?_⟩;simp only [execOp,ho,Ca.gY hp];simp [go_sem]
end
def Bl.V5 (s:Bl.St) (p:Bl.Ps):Bl.Ps:=⟨p.av,Se.takeN s.av p.av,p.y,p.m,p.d,p.tot,p.bf,p.aY,p.back⟩
def Bl.xS (s:Bl.St) (p:Bl.Ps):Bl.St:=if Bl.gU s p.av p.tot=0 then Bl.more s s.post (Bl.V5 s p) else s
def Bl.sN (s:Bl.St) (p:Bl.Ps):Rp.T:=if Bl.gU s p.av p.tot=0 then ⟨0,Se.takeN s.av p.av,p.tot.au⟩ else ⟨Bl.gU s p.av p.tot,0,0⟩
variable {s:Bl.St}
theorem Bl.Aj {p:Bl.Ps} {E:Int} (h:Bl.gU s p.av p.tot=E) (h0:E≠0):Bl.xS s p=s/\Bl.sN s p=⟨E,0,0⟩:=by
 unfold Bl.xS Bl.sN;rw [h,if_neg h0,if_neg h0];exact ⟨rfl,rfl⟩
theorem Bl.JQ {p:Bl.Ps} (h:Bl.gU s p.av p.tot=0):Bl.xS s p=Bl.more s s.post (Bl.V5 s p)/\Bl.sN s p=⟨0,Se.takeN s.av p.av,p.tot.au⟩:=by
 unfold Bl.xS Bl.sN;rw [if_pos h,if_pos h];exact ⟨rfl,rfl⟩
theorem Bl.Oc {t:Iv.iD} (h:Se.iw s.av c≠0):Bl.gU s c t=Se.iw s.av c:=if_pos h
theorem Bl.Od {t:Iv.iD} (h:Se.iw s.av c=0) (k:40<=s.post.length):Bl.gU s c t=14:=by
 unfold Bl.gU;rw [if_neg (by rw [h];simp),if_pos k]
theorem Bl.Oe {t:Iv.iD} (h:Se.iw s.av c=0) (k: ¬ 40<=s.post.length):Bl.gU s c t=Bl.xL s.book t:=by
 unfold Bl.gU Bl.xL;rw [if_neg (by rw [h];simp),if_neg k]
theorem Bl.SH {b:List Ba.T} {t:Iv.iD} (h:Bl.xL b t=0):Bl.zX b t=Po.iR (Po.bE t.au t.parts) b:=by
 by_cases q:Po.dR t.parts=0
 ·
  rw [(Bl.yC q).1] at h;rw [(Bl.yC q).2];unfold Po.vk;rw [if_pos h]
 ·
  rw [(Bl.zY q).1] at h;exact absurd h q
theorem Bl.GK {b:List Ba.T} {t:Iv.iD} (hb:∀ r∈b,Ba.Short r) (hg:Fit t.au) (hs:∀ x∈t.parts,Pt.Short x) (hc:∀ x∈t.parts,x.cat.size<=140737488351232):∀ r∈Bl.zX b t,Ba.Short r:=by
 by_cases q:Po.dR t.parts=0
 ·
  rw [(Bl.yC q).2];have h1:=Po.nu hg hs hc;have hR:Po.qG t.au t.parts=Po.bE t.au t.parts:=if_pos q;rw [hR] at h1;exact Po.uF hb h1
 ·
  rw [(Bl.zY q).2];intro r hr;cases hr
def Pd.numbered (r:Pd.T) (n:Int):Pd.T:=⟨r.av,n,r.y,r.m,r.d,r.net,r.aP,r.au,r.parts,r.bf,r.aY,r.back⟩
theorem Cx (P:Nat->Prop) (s:Bl.St) (h:Bl.Sv) (r:Pd.T) (p:Bl.Ps) (w:World) (hL:Bl.Lp P w h s) (hir:kQ P r.parts.ao r.parts.n) (hI:Bl.AV w r p) (hS:Pd.Short r) (hpn:r.parts.n<=100) (hcs:∀ x∈p.tot.parts,x.cat.size<=140737488351232) (Zq:s.post.length<=40) (hbn:s.book.length<=1000) :
  Calls Tryz.prog 135 #[h.val,Pd.val r] w (Bl.uy P w (Bl.xS s p) (Bl.sN s p)):=by
 have HL:=Lh hL;have HI:=Lh hI;have bT:=Lh hS;have HN:=Lh (And.intro hpn (And.intro hcs (And.intro Zq hbn)));obtain ⟨rs,hP,hE,hpi⟩:=hL.post;have YV:=Lh (And.intro hpi hir);have hl40:h.post.n<=40:=by have:=hP.len;have:=hE.len;omega
 have vX:Hid (h.post.n=s.post.length):=Lh (by have:=hP.len;have:=hE.len;omega);have yB:=Lh hP;have HEs:=Lh hE;obtain ⟨U,hU,hA,hF,iN⟩:=Bl.OV w h (Pd.block r);have c0:U.cell? ⟨w.heap.size+1,0,none⟩=some (.string r.av):=by rw [cell_of_row U _ 0 _ _ _ iN];rfl
 have HA:=Lh hA;have HF:=Lh hF;have gV:=Lh iN;have iB:Hid (w.heap.size+1+1+1 < U.heap.size):=Lh hF.rp.lt;obtain ⟨x0,x1,x2,x3,x4,x5⟩:=hA.cells;clear hL hI hS hpn hcs Zq hbn hP hE hpi hir hA hF iN;unfold Bl.Sv.val Bl.sl Pd.val;unfold Pd.block at hU;go_enter Tryz.func135,Tryz.ntmps135;go_wp2_with fail;clear hU;refine (Rv s.av r.av h.av.ao h.av.n h.av.cap U (HL.out.av.below HF.out.dx)).mono ?_;rintro e w1 ⟨v,rfl,o1,b1⟩;have nS:=Lh (Bl.Jj (s:=r.av) HL.out.av.short);have HFn:=Lh (Bl.zQ (s:=r.av) HL.out.av.short);have VU:=Lh HI.out.av;obtain ⟨L1,hL1⟩:∃ L1,Se.pJ s.av r.av=L1:=⟨_,rfl⟩;obtain ⟨N,hN⟩:∃ N,Se.takeN s.av r.av=N:=⟨_,rfl⟩;obtain ⟨E,hEq⟩:∃ E,Se.iw s.av r.av=E:=⟨_,rfl⟩;have lK:=Lh hL1;have HNe:=Lh hN;have HEe:=Lh hEq;rw [hL1] at o1 nS;rw [hN] at HFn ⊢;rw [hEq];clear hL1 hN hEq;obtain ⟨so,sc,rfl,l1,i1⟩:=Sr.aX o1 nS.out;obtain ⟨sn,hsn⟩:∃ sn,L1.length=sn:=⟨_,rfl⟩;rw [hsn] at l1 ⊢;clear hsn;have Es:=Lh l1;have HI1:=Lh (dZ (n:=sn) i1);have HB1:=Lh b1;have hA1:=HA.out.below b1;have HA1:=Lh hA1;have jB:=Lh (HF.out.below b1);have Ei:=Lh ((b1.block _ (by have:=iB.out;omega)).trans gV.out);clear o1 l1 i1 b1 x0 x1 x2 x3 x4 x5 c0;obtain ⟨y0,y1,y2,y3,y4,y5⟩:=hA1.cells;clear hA1;by_cases hE0:E=0
 ·
  subst hE0;by_cases h4:h.post.n=40
  ·
   have q4:((h.post.n:Int)==40)=true:=beq_iff_eq.2 (by omega);have HP:=Lh (Bl.Aj (s:=s) (p:=p) (Bl.Od (t:=p.tot) (by rw [<- VU.out];exact HEe.out) (by have:=vX.out;omega)) (by omega));clear h4;go_wp2_with fail;refine Bl.mg (w.heap.size) (w.heap.size+1+1) (w.heap.size+1+1+1) h Bl.iy ⟨0,0,0⟩ (14) HA1.out jB.out.st jB.out.rp (by omega) rfl rfl rfl rfl rfl rfl rfl rfl rfl rfl ?_ ?_ ?_ ?_ ?_ ?_ ?_ ?_ ?_
   · kernel_rfl
   · exact fun _ _ _ h=>h
   · rfl
   · rfl
   · rfl
   · rfl
   · rfl
   · rfl
   intro w9 b9;go_wp2_with fail;exact (jB.out.below b9).ret Tryz.results135 h ⟨14,0,0⟩ rfl rfl rfl fun b=>by rw [HP.out.1,HP.out.2];exact ⟨_,rfl,(HL.out.below b).wide w,b⟩
  ·
   have q4:((h.post.n:Int)==40)=false:=beq_eq_false_iff_ne.2 (by omega);have HPo:=Lh (Bl.Oe (s:=s) (c:=p.av) (t:=p.tot) (by rw [<- VU.out];exact HEe.out) (by have:=vX.out;omega));have c5:w1.cell? ⟨w.heap.size+1,5,none⟩=some (.int .i64 r.net):=by rw [cell_of_row w1 _ 5 _ _ _ Ei.out];rfl
   have c6:w1.cell? ⟨w.heap.size+1,6,none⟩=some (.int .i64 r.aP):=by rw [cell_of_row w1 _ 6 _ _ _ Ei.out];rfl
   have c7:w1.cell? ⟨w.heap.size+1,7,none⟩=some (.int .i64 r.au):=by rw [cell_of_row w1 _ 7 _ _ _ Ei.out];rfl
   have c8:w1.cell? ⟨w.heap.size+1,8,none⟩=some (.slice r.parts.ao r.parts.n r.parts.cap):=by rw [cell_of_row w1 _ 8 _ _ _ Ei.out];rfl
   clear h4;go_wp2_with fail;refine Calls.mono (R:=fun e w'=>∃ v,e=.returned (.tuple #[v,.int .i64 (Bl.xL s.book p.tot)])/\Ba.Own w' w1.heap.size v (Bl.zX s.book p.tot)/\Below w1.heap.size w1 w') ?_ ?_
   ·
    rw [HI.out.net,HI.out.aP,HI.out.au];exact NA s.book p.tot h.book.ao r.parts.ao h.book.n h.book.cap r.parts.n r.parts.cap w1 (HL.out.book.below (aj HF.out.dx HB1.out)) (HI.out.parts.below (aj HF.out.dx HB1.out)) (by have:=HL.out.book.len;have:=HN.out.2.2.2;omega) HN.out.1 (HI.out.au▸bT.out.2.2.2.2.2.2.2.1) HN.out.2.1
   rintro e w2 ⟨v2,rfl,o2,b2⟩;have sO:=Lh (Bl.GK (b:=s.book) (t:=p.tot) HL.out.book.short (HI.out.au▸bT.out.2.2.2.2.2.2.2.1) HI.out.parts.short HN.out.2.1);have HBo:=Lh (Bl.SH (b:=s.book) (t:=p.tot));obtain ⟨L2,hL2⟩:∃ L2,Bl.zX s.book p.tot=L2:=⟨_,rfl⟩;obtain ⟨E2,hE2⟩:∃ E2,Bl.xL s.book p.tot=E2:=⟨_,rfl⟩;rw [hL2] at o2 sO HBo;rw [hE2] at HPo HBo ⊢;clear hL2 hE2;obtain ⟨bo,bc,rfl,l2,i2⟩:=Ba.aX o2 sO.out;obtain ⟨bn,hbn⟩:∃ bn,L2.length=bn:=⟨_,rfl⟩;rw [hbn] at l2 ⊢;clear hbn;have HS2:=Lh l2;have HI2:=Lh (dZ (n:=bn) i2);have HB2:=Lh b2;have hA2:=HA1.out.below b2;have HA2:=Lh hA2;have ko:=Lh (jB.out.below b2);have Og:=Lh ((b2.block _ (by have:=iB.out;have:=HB1.out.size;omega)).trans Ei.out);clear o2 l2 i2 b2 y0 y1 y2 y3 y4 y5 c5 c6 c7 c8;by_cases hE2:E2=0
   ·
    subst hE2;have HP:=Lh (Bl.JQ HPo.out);have hg1:w2.cell? ⟨w.heap.size+1,1,none⟩=some (.int .i64 r.num):=by rw [cell_of_row w2 _ 1 _ _ _ Og.out];rfl
    have hz1:w2.frozen? ⟨w.heap.size+1,1,none⟩=false:=frozen_of_row w2 _ 1 _ _ Og.out;have Oh:(w2.setCell ⟨w.heap.size+1,1,none⟩ (.int .i64 N)).heap[w.heap.size+1]? =some (Pd.block (Pd.numbered r N)):=(heap_setCell_same w2 (w.heap.size+1) 1 _ _ _ Og.out).trans rfl;obtain ⟨w3,hw3⟩:∃ w3,w2.setCell ⟨w.heap.size+1,1,none⟩ (.int .i64 N)=w3:=⟨_,rfl⟩;have hA3:=HA2.out.away (b:=w.heap.size+1) (by omega) 1 (.int .i64 N);have lu:=ko.out.set (g:=w.heap.size+1) (by omega) (by omega) 1 (.int .i64 N);have hk3:=Kp.set (A:=U.heap.size) (g:=w.heap.size+1) w2 (by have:=iB.out;omega) 1 (.int .i64 N);have hs3:w3.heap.size=w2.heap.size:=by rw [<- hw3];simp
    rw [hw3] at Oh hA3 lu hk3;have JR:=Lh hA3;have lM:=Lh lu;have HK3:=Lh hk3;have Uh:=Lh Oh;have Zr:=Lh hs3
    have V6:Pd.C w3 (w.heap.size+1) (Pd.numbered r N):=by
     unfold Pd.C;have e:=fun k=>cell_of_row w3 (w.heap.size+1) k _ _ _ Uh.out
     refine ⟨?_,?_,?_,?_,?_,?_,?_,?_,?_,?_,?_,?_⟩
     all_goals
      rw [e];rfl
    obtain ⟨y0,y1,y2,y3,y4,y5⟩:=hA3.cells;clear hA2 Oh lu hk3 hs3;go_wp2_with (first | ((with_reducible apply Pd.kE V6);rfl;rfl;rfl));clear hw3;refine (RO rs (Pd.numbered r N) h.post.ao h.post.n h.post.cap w3 (yB.out.below lM.out.dx) (by omega)).mono ?_;rintro e w4 ⟨v4,rfl,o4,b4⟩
    have hsp:∀ x∈rs++[Pd.numbered r N],Pd.Short x:=by
     intro x hx;rcases List.mem_append.1 hx with hx | hx
     · exact yB.out.short x hx
     ·
      rw [List.mem_singleton.1 hx];exact ⟨bT.out.1,HFn.out,bT.out.2.2⟩
    obtain ⟨po,pc,rfl,l4,i4⟩:=Pd.aX o4 hsp;obtain ⟨pn,hpn⟩:∃ pn,(rs++[Pd.numbered r N]).length=pn:=⟨_,rfl⟩;rw [hpn] at l4 ⊢;clear hpn hsp;have KW:=Lh l4;have HI4:=Lh (dZ (n:=pn) i4);have pR:=Lh b4;have SI:=JR.out.below b4;have Oi:=lM.out.below b4;have HBk4:=Lh ((b4.block _ (by have:=iB.out;have:=HB1.out.size;have:=HB2.out.size;have:=Zr.out;omega)).trans Uh.out);clear o4 l4 i4 b4 y0 y1 y2 y3 y4 y5 hA3 V6;have z1:=SI.frozen 1;obtain ⟨y0,y1,y2,y3,y4,y5⟩:=SI.cells;have hA5:Bl.At (w4.setCell ⟨w.heap.size,1,none⟩ (.slice so sn sc)) w.heap.size ⟨h.tab,⟨so,sn,sc⟩,h.post,h.book,h.ak,h.next⟩:=(Bl.bY SI 1 _).trans rfl;have hF5:=Oi.set (g:=w.heap.size) (Nat.le_refl _) (by omega) 1 (.slice so sn sc);have z3:=hA5.frozen 3;obtain ⟨t0,t1,t2,t3,t4,t5⟩:=hA5.cells;have XI:Bl.At ((w4.setCell ⟨w.heap.size,1,none⟩ (.slice so sn sc)).setCell ⟨w.heap.size,3,none⟩ (.slice bo bn bc)) w.heap.size ⟨h.tab,⟨so,sn,sc⟩,h.post,⟨bo,bn,bc⟩,h.ak,h.next⟩:=(Bl.bY hA5 3 _).trans rfl;have hF6:=hF5.set (g:=w.heap.size) (Nat.le_refl _) (by omega) 3 (.slice bo bn bc);have z2:=XI.frozen 2;obtain ⟨u0,u1,u2,u3,u4,u5⟩:=XI.cells;have hA7:Bl.At (((w4.setCell ⟨w.heap.size,1,none⟩ (.slice so sn sc)).setCell ⟨w.heap.size,3,none⟩ (.slice bo bn bc)).setCell ⟨w.heap.size,2,none⟩ (.slice po pn pc)) w.heap.size ⟨h.tab,⟨so,sn,sc⟩,⟨po,pn,pc⟩,⟨bo,bn,bc⟩,h.ak,h.next⟩:=(Bl.bY XI 2 _).trans rfl;have hF7:=hF6.set (g:=w.heap.size) (Nat.le_refl _) (by omega) 2 (.slice po pn pc);have hk7:=((Kp.set (A:=U.heap.size) (g:=w.heap.size) w4 (by have:=iB.out;omega) 1 (.slice so sn sc)).trans (Kp.set (g:=w.heap.size) _ (by have:=iB.out;omega) 3 (.slice bo bn bc))).trans (Kp.set (g:=w.heap.size) _ (by have:=iB.out;omega) 2 (.slice po pn pc))
    have Zt:(((w4.setCell ⟨w.heap.size,1,none⟩ (.slice so sn sc)).setCell ⟨w.heap.size,3,none⟩ (.slice bo bn bc)).setCell ⟨w.heap.size,2,none⟩ (.slice po pn pc)).heap[w.heap.size+1]? =some (Pd.block (Pd.numbered r N)):=by
     rw [heap_setCell_other _ ⟨w.heap.size,2,none⟩ _ _ (by show w.heap.size+1≠w.heap.size;omega),heap_setCell_other _ ⟨w.heap.size,3,none⟩ _ _ (by show w.heap.size+1≠w.heap.size;omega),heap_setCell_other _ ⟨w.heap.size,1,none⟩ _ _ (by show w.heap.size+1≠w.heap.size;omega)];exact HBk4.out
    obtain ⟨w7,hw7⟩:∃ w7,((w4.setCell ⟨w.heap.size,1,none⟩ (.slice so sn sc)).setCell ⟨w.heap.size,3,none⟩ (.slice bo bn bc)).setCell ⟨w.heap.size,2,none⟩ (.slice po pn pc)=w7:=⟨_,rfl⟩;rw [hw7] at hA7 hF7 hk7 Zt;have HA7:=Lh hA7;have HF7:=Lh hF7;have HK7:=Lh hk7;have HBk7:=Lh Zt;clear SI hA5 XI hA7 Oi hF5 hF6 hF7 hk7 Zt;go_wp2_with fail;clear hw7 y0 y1 y2 y3 y4 y5 t0 t1 t2 t3 t4 t5 u0 u1 u2 u3 u4 u5 z1 z2 z3;have hgc:w7.cell? ⟨w.heap.size+1,7,none⟩=some (.int .i64 r.au):=by rw [cell_of_row w7 _ 7 _ _ _ HBk7.out];rfl
    refine Bl.VY (S:=fun u=>Bl.At u w.heap.size ⟨h.tab,⟨so,sn,sc⟩,⟨po,pn,pc⟩,⟨bo,bn,bc⟩,h.ak,h.next⟩/\u.cell? ⟨w.heap.size+1,7,none⟩=some (.int .i64 r.au)) ⟨h.tab,⟨so,sn,sc⟩,⟨po,pn,pc⟩,⟨bo,bn,bc⟩,h.ak,h.next⟩ Bl.iy ⟨0,N,r.au⟩ ⟨0,0,0⟩ (.int .i64 N) (.pointer (some ⟨w.heap.size+1,5,none⟩)) (.pointer (some ⟨w.heap.size+1,7,none⟩)) (.int .i64 r.au) (w.heap.size+1+1) (w.heap.size+1+1+1) ⟨HA7.out,hgc⟩ HF7.out.st HF7.out.rp (by omega) ?_ ?_ ?_ ?_ ?_ ?_ ?_ ?_ ?_ ?_ ?_ ?_ ?_ ?_ ?_ rfl rfl rfl rfl rfl rfl ?_ ?_ ?_ ?_ ?_
    · exact fun u hu=>⟨hu.1.other (by omega) _,(World.cell?_of_block (setRow_other u (w.heap.size+1+1) (w.heap.size+1) _ (by omega))).trans hu.2⟩
    · exact fun u hu=>⟨hu.1.other (by omega) _,(World.cell?_of_block (setRow_other u (w.heap.size+1+1+1) (w.heap.size+1) _ (by omega))).trans hu.2⟩
    · kernel_rfl
    · exact Bl.iq (t:=2) rfl rfl (by kernel_rfl) fun u hu=>hu.1
    · exact Bl.iJ (t:=7) rfl rfl (by kernel_rfl)
    · exact Bl.y_tot (t:=3) rfl rfl (by kernel_rfl)
    · exact Bl.VZ (t:=58) rfl rfl (by kernel_rfl)
    · exact Bl.XW (t:=59) rfl rfl (by kernel_rfl) fun u hu=>hu.2
    · exact Rp.LC (x:=57) (y:=60) rfl rfl (by kernel_rfl) (by kernel_rfl)
    · exact fun _ _ _ h=>h
    · exact fun _ _ _ h=>h
    · exact fun _ _ _ h=>h
    · exact fun _ _ _ h=>h
    · exact fun _ _ _ h=>h
    · exact fun _ _ _ h=>h
    · kernel_rfl
    · kernel_rfl
    · kernel_rfl
    · kernel_rfl
    go_wp2_with fail;refine (HF7.out.below (Below.refl _ _).drew).ret Tryz.results135 ⟨h.tab,⟨so,sn,sc⟩,⟨po,pn,pc⟩,⟨bo,bn,bc⟩,h.ak,h.next⟩ ⟨0,N,r.au⟩ ?_ ?_ ?_ fun b=>?_
    · kernel_rfl
    · kernel_rfl
    · kernel_rfl
    rw [HP.out.1,HP.out.2];refine ⟨_,by rw [<- VU.out,HNe.out,HI.out.au],?_,b⟩;have hl:=(HL.out.below b).wide w;have kf:Kp U.heap.size w7 _:=(Kp.of (Below.refl _ _).drew).trans (Bl.yx (gS:=w.heap.size+1+1) (gR:=w.heap.size+1+1+1) w7.drew (by have:=iB.out;omega) (by have:=iB.out;omega) ⟨h.tab,⟨so,sn,sc⟩,⟨po,pn,pc⟩,⟨bo,bn,bc⟩,h.ak,h.next⟩ ⟨0,N,r.au⟩);have k47:=HK7.out.trans kf;have k24:=(HK3.out.trans (Kp.of pR.out)).trans k47;have k12:=(Kp.of HB2.out).trans k24;have e1:=Es.out.kp HI1.out k12;have e2:=HS2.out.kp (HI2.out.mono (by have:=HB1.out.size;omega)) k24;have e4:=KW.out.kp (HI4.out.mono (by have:=HB1.out.size;have:=HB2.out.size;have:=Zr.out;omega)) k47;have hEa:=(HEs.out.below b).add (r:=Pd.numbered r N) (p:=Bl.V5 s p) ?_
    ·
     refine ⟨hl.tab,?_,⟨_,e4,hEa,?_⟩,?_,hl.ak,hl.next,hl.fit,hl.jf,HI1.out.nw P (by have:=iB.out;omega),HI4.out.nw P (by have:=iB.out;have:=HB1.out.size;have:=HB2.out.size;have:=Zr.out;omega),HI2.out.nw P (by have:=iB.out;have:=HB1.out.size;omega),hl.eY⟩
     ·
      rw [<- lK.out,VU.out] at e1;exact e1
     ·
      intro x hx;rcases List.mem_append.1 hx with hx | hx
      · exact (YV.out.1 x hx).mono fun _ q=>.inl q
      ·
       rw [List.mem_singleton.1 hx];exact YV.out.2.mono fun _ q=>.inl q
     ·
      rw [HBo.out trivial] at e2;exact e2
    ·
     have hq:=HI.out.below b;exact ⟨hq.av,by show N=Se.takeN s.av p.av;rw [<- HNe.out,VU.out],hq.y,hq.m,hq.d,hq.net,hq.aP,hq.au,hq.parts,hq.bf,hq.aY,hq.back⟩
   ·
    have hq:(E2==0)=false:=beq_eq_false_iff_ne.2 hE2;have HP:=Lh (Bl.Aj HPo.out hE2);clear hA2;go_wp2_with fail;refine Bl.jI (w.heap.size) (w.heap.size+1+1) (w.heap.size+1+1+1) h Bl.iy ⟨0,0,0⟩ (E2) HA2.out ko.out.st ko.out.rp (by omega) rfl rfl rfl rfl rfl rfl rfl rfl rfl rfl rfl rfl ?_ ?_ ?_ ?_ ?_ ?_ ?_ ?_ ?_ ?_ ?_
    · kernel_rfl
    · exact fun _ _ _ h=>h
    · exact fun _ _ _ h=>h
    · rfl
    · rfl
    · rfl
    · rfl
    · rfl
    · rfl
    · rfl
    intro w9 b9;go_wp2_with fail;exact (ko.out.below b9).ret Tryz.results135 h ⟨E2,0,0⟩ rfl rfl rfl fun b=>by rw [HP.out.1,HP.out.2];exact ⟨_,rfl,(HL.out.below b).wide w,b⟩
 ·
  have hq:(E==0)=false:=beq_eq_false_iff_ne.2 hE0;have HP:=Lh (Bl.Aj (s:=s) (p:=p) ((Bl.Oc (t:=p.tot) (by rw [<- VU.out,HEe.out];exact hE0)).trans (by rw [<- VU.out];exact HEe.out)) hE0);go_wp2_with fail;refine Bl.jI (w.heap.size) (w.heap.size+1+1) (w.heap.size+1+1+1) h Bl.iy ⟨0,0,0⟩ (E) HA1.out jB.out.st jB.out.rp (by omega) rfl rfl rfl rfl rfl rfl rfl rfl rfl rfl rfl rfl ?_ ?_ ?_ ?_ ?_ ?_ ?_ ?_ ?_ ?_ ?_
  · kernel_rfl
  · exact fun _ _ _ h=>h
  · exact fun _ _ _ h=>h
  · rfl
  · rfl
  · rfl
  · rfl
  · rfl
  · rfl
  · rfl
  intro w9 b9;go_wp2_with fail;exact (jB.out.below b9).ret Tryz.results135 h ⟨E,0,0⟩ rfl rfl rfl fun b=>by rw [HP.out.1,HP.out.2];exact ⟨_,rfl,(HL.out.below b).wide w,b⟩
open Vt (Rt)
theorem Pt.wK (n:Nat) (hn:n<=1000) (u:World):(Instr.makeSlice 100 (.int .i64 0) (.int .i64 (n:Int))).run Tryz.prog u =
  .ok (.slice (some ⟨u.heap.size,0,none⟩) 0 n) (u.alloc (.cells (Pt.zeros n) 108)):=by
 obtain ⟨i0,hi,hz0,hz1,hz2⟩:=info_parts Pt.info;have h:=run_make (P:=Tryz.prog) u 100 108 i0 Pt.zeroV Tryz.underlying100 hi hz0 .i64 .i64 0 (n:Int) (by omega) (by omega) (by rw [hz2];omega) (by omega);rw [hz1,Int.toNat_natCast,Pt.made] at h;exact h
structure pU (w wr:World) (g q c:Nat) (y m d:Int) (ps Z:List Pt.T):Prop where
 gw:w.heap.size=g
 lo:g+2<=q
 dx:Below w.heap.size w wr
 day:qQ wr g y m d
 res:Tt.At wr (g+1) 0 0 0 (.slice none 0 0)
 blk:Pt.Block wr q (ps++Z)
 len:c=(ps++Z).length
 sh:∀ r∈ps,Pt.Short r
section
variable {w wr v:World} {g q c:Nat} {y m d:Int} {ps Z:List Pt.T}
theorem pU.below (H:pU w wr g q c y m d ps Z) (b:Below wr.heap.size wr v):pU w v g q c y m d ps Z :=
 ⟨H.gw,H.lo,aj H.dx b,H.day.below b,H.res.below b,H.blk.below b,H.len,H.sh⟩
theorem qQ.under {v:World} {b B:Nat} (h:qQ u b y m d) (k:Below B u v) (hb:b < B):qQ v b y m d:=by
 obtain ⟨h0,h1,h2⟩:=h;unfold qQ;rw [k.cell (p:=⟨b,0,none⟩) hb,k.cell (p:=⟨b,1,none⟩) hb,k.cell (p:=⟨b,2,none⟩) hb];exact ⟨h0,h1,h2⟩
theorem pU.parts (H:pU w wr g q c y m d ps Z) {qs Y:List Pt.T} (b:Below q wr v) (hB:Pt.Block v q (qs++Y)) (hc:c=(qs++Y).length) (hs:∀ r∈qs,Pt.Short r):pU w v g q c y m d qs Y:=by
 have e:=H.gw;have lo:=H.lo;exact ⟨e,lo,H.dx.trans (b.mono (by omega)),H.day.under b (by omega),(b.block _ (by omega)).trans H.res,hB,hc,hs⟩
end
theorem Pt.jK {B:Nat} {v:Value} {M:List Pt.T} (h:Pt.Own w B v M):∃ ao n c,v=.slice ao n c:=by
 rcases h.2 with ⟨h',_⟩ | ⟨g,cap,cur,h',_⟩
 · exact ⟨_,_,_,h'⟩
 · exact ⟨_,_,_,h'⟩
theorem nk {bp:Int} (hc:c.size<=140737488355328) (hb:Fit bp) {ps:List Pt.T} (hs:∀ r∈ps,Pt.Short r) (he:Iv.gZ c bp n ps=0):∀ r∈Iv.enter c bp n ps,Pt.Short r:=by
 have h1:=sG hc hb hs;have h2:=kI hc hb hs;have h3:=Iv.kT he;intro r hr;unfold Iv.enter at hr;obtain ⟨j,hj,e'⟩:=List.getElem_of_mem hr;rw [List.getElem_set] at e';split at e'
 ·
  rw [<- e'];exact ⟨h2.1,h2.2.1,h3,h2.2.2.2⟩
 · exact h1 r (e'▸List.getElem_mem _)
theorem Oj (rs:List Rt) (ls:List Ln.T) (ao bo:Option Addr) (n ca k0 cb:Nat) (y m d:Int) (w:World) (hR:om w ao n ca rs) (hL:Ln.Ls w bo k0 cb ls) (hy:Fit y) (hm:Fit m) (hd:Fit d) :
  Calls Tryz.prog 134 #[.slice ao n ca,nG y m d,.slice bo k0 cb] w (Tt.UU w (Iv.dK rs y m d ls) (Iv.jM rs y m d ls)):=by
 have HR:=Lh hR;have HL:=Lh hL;have lC:=Lh hL.len;have vO:=Lh (And.intro hy (And.intro hm hd));have hcb:=hL.reach;have OQ:=hL.fits;clear hR hL hy hm hd;obtain ⟨U,hU⟩:∃ U,(w.alloc (.cells #[.int .i64 y,.int .i64 m,.int .i64 d] 50)).alloc (.cells #[.int .i64 0,.int .i64 0,.int .i64 0,.slice none 0 0] 102)=U:=⟨_,rfl⟩
 have SK:Hid (PSt w U w.heap.size y m d):=by
  have b1:Below w.heap.size w (w.alloc (.cells #[.int .i64 y,.int .i64 m,.int .i64 d] 50)):=(Below.refl _ _).alloc (Nat.le_refl _) _;have b2:=Tt.aC (w.alloc (.cells #[.int .i64 y,.int .i64 m,.int .i64 d] 50)) 0 0 0 (.slice none 0 0);have hA:=Tt.dY (w.alloc (.cells #[.int .i64 y,.int .i64 m,.int .i64 d] 50)) 0 0 0 (.slice none 0 0);rw [show (w.alloc (.cells #[.int .i64 y,.int .i64 m,.int .i64 d] 50)).heap.size=w.heap.size+1 by simp] at hA;exact hU▸⟨rfl,aj b1 b2,(EZ w y m d).below b2,hA⟩
 obtain ⟨g,hg⟩:∃ g,w.heap.size=g:=⟨_,rfl⟩;have iB:Hid (U=(w.alloc (.cells #[.int .i64 y,.int .i64 m,.int .i64 d] 50)).alloc (.cells #[.int .i64 0,.int .i64 0,.int .i64 0,.slice none 0 0] 102)):=Lh hU.symm;have HUz:Hid (U.heap.size=w.heap.size+2):=Lh (by rw [<- hU];simp);rw [hg] at SK HUz;clear hU;have Zu:=SK.out.day;unfold qQ at Zu;rw [iB.out,<- hg] at Zu;obtain ⟨d0,d1,d2⟩:=Zu;unfold nG;go_enter Tryz.func134,Tryz.ntmps134;go_wp2_with fail;rw [<- iB.out]
 try rw [hg]
 clear d0 d1 d2 iB hg;refine (VP rs ls ao n ca k0 y m d U _ (Below.refl _ _) (HR.out.below SK.out.dx) vO.out.1 vO.out.2.1 vO.out.2.2 lC.out (by omega)).mono ?_;rintro e w1 ⟨rfl,b1⟩;have H1:=Lh (SK.out.below b1);have HR1:=Lh (HR.out.below (aj SK.out.dx b1));clear b1;by_cases hH:Iv.fD rs y m d ls=0
 ·
  rw [hH];have HH:=Lh hH
  have hk12:1<=k0/\k0<=12:=by
   have h1:=hH;unfold Iv.fD at h1;rw [<- lC.out] at h1;split at h1
   · omega
   ·
    split at h1
    · omega
    ·
     split at h1
     · omega
     ·
      split at h1
      · omega
      · omega
  obtain ⟨hk1,hk2⟩:=hk12;have hmk:=Pt.wK k0 (by omega)
  have HS:Hid (pU w (w1.alloc (.cells (Pt.zeros k0) 108)) g w1.heap.size k0 y m d [] (List.replicate k0 Pt.zero)):=Lh (by
   have b2:Below w1.heap.size w1 (w1.alloc (.cells (Pt.zeros k0) 108)):=(Below.refl _ _).alloc (Nat.le_refl _) _;have h2:=H1.out.below b2;exact ⟨h2.gw,H1.out.res.lt,h2.dx,h2.day,h2.res,Pt.aZ w1 k0,by simp,by simp⟩)
  clear hH;go_wp2_with fail;generalize w1.alloc (.cells (Pt.zeros k0) 108)=V at *;generalize w1.heap.size=q at *;clear H1 HR1 SK HUz hmk
  go_loopw [9,11,12,13,28] (fun p _ _ _ i wr=>∃ (k np:Nat) (ps Z:List Pt.T),k<=k0/\i=.int .i64 k/\p=.slice (some ⟨q,0,none⟩) np k0/\Hid (pU w wr g q k0 y m d ps Z)/\Hid (Iv.kM rs y m d (ls.drop k) ps=Iv.kM rs y m d ls []/\Iv.iR rs y m d (ls.drop k) ps=Iv.iR rs y m d ls []/\ps.length<=k/\np=ps.length)) (fun _ _ _ _ i _=>k0 - (intOf i).toNat)
  case atStart=>exact ⟨0,0,[],_,by omega,rfl,rfl,HS,Lh ⟨rfl,rfl,Nat.le_refl _,rfl⟩⟩
  case round =>
   clear HS;rename World=>wz
   obtain ⟨k,np,ps,Z,hk,rfl,rfl,H,HG⟩:=hrel;by_cases hlt:k < k0
   ·
    obtain ⟨b,off,rfl⟩:=HL.out.at (by omega);have hkl:k < ls.length:=lC.out▸hlt;have hrow:=(HL.out.row k hkl).below H.out.dx;have bT:=Lh (HL.out.short _ (List.getElem_mem hkl));have VE:=Lh (Iv.C8 rs y m d ls ps k hkl);have HG2:=Lh (Iv.Iu rs y m d ls ps k hkl);obtain ⟨x,hx⟩:∃ x,ls[k]=x:=⟨_,rfl⟩;rw [hx] at hrow bT VE HG2;clear hx;obtain ⟨g0,g1,g2,g3⟩:=hrow;obtain ⟨W,hW,hbW,hC⟩:=Ln.bZ wz x;have H1:=Lh (H.out.below hbW);have HC:=Lh hC;unfold Ln.C at hC;obtain ⟨a0,a1,a2,a3⟩:=hC;have hD:=H1.out.day;unfold qQ at hD;obtain ⟨d0,d1,d2⟩:=hD;clear hbW H;go_wp2_with fail;refine (Sm rs x ao n ca y m d _ (HR.out.below H1.out.dx) vO.out.1 vO.out.2.1 vO.out.2.2 bT.out).mono ?_;rintro e w2 ⟨rfl,b2⟩;have H2:=Lh (H1.out.below b2);have hC:=HC.out.below b2;unfold Ln.C at hC;clear b2 hW a0 a1 a2 a3 d0 d1 d2 g0 g1 g2 g3 HC H1;obtain ⟨a0,a1,a2,a3⟩:=hC;have SL:=Lh (Iv.Sk (rs:=rs) (y:=y) (m:=m) (d:=d) (x:=x));by_cases hA:Iv.sM rs y m d x=0
    ·
     have hV:Iv.Eb rs y m d x=(Vt.find rs x.category y m d).1:=if_pos hA;rw [if_pos hA] at SL;rw [hA,hV];have Ol:=Lh (Gx HR.out.short x.category y m d);obtain ⟨bp,hbp⟩:∃ bp,(Vt.find rs x.category y m d).1=bp:=⟨_,rfl⟩;rw [hbp] at Ol VE HG2 ⊢;clear hbp hA hV
     obtain ⟨z,Z',hZ⟩:∃ z Z',Z=z::Z':=by
      cases Z with
      | nil =>
       have h1:=H2.out.len;have h2:=HG.out.2.2.1;rw [List.append_nil] at h1;omega
      | cons z Z'=>exact ⟨z,Z',rfl⟩
     subst hZ;go_wp2_with fail;refine (Sq ps Z' z x bp q np k0 _ H2.out.blk HG.out.2.2.2 H2.out.len (by omega) bT.out Ol.out H2.out.sh).mono ?_;rintro e w3 ⟨b3,h3⟩;rcases h3 with ⟨e1,e2,Y,rfl,hB,hY⟩ | ⟨e1,v,rfl⟩
     ·
      have H3:=Lh (H2.out.parts b3 hB hY (nk bT.out.2.1 Ol.out H2.out.sh e2));rw [SL.out,e1,if_neg (by simp),e2,if_neg (by simp)] at VE;obtain ⟨qs,Xv⟩:∃ qs,Iv.enter x.category bp (x.count*x.price) ps=qs:=⟨_,rfl⟩;have HQl:Hid (qs.length<=k+1):=Lh (by rw [<- Xv];exact Nat.le_trans (Iv.rU ps) (by have:=HG.out.2.2.1;omega));rw [Xv] at H3 VE HG2 ⊢;obtain ⟨nq,hnq⟩:∃ nq,qs.length=nq:=⟨_,rfl⟩;have HNq:=Lh hnq;rw [hnq];clear Xv hnq b3 hB hY e1 e2 H2 a0 a1 a2 a3;go_wp2_with fail;go_roundw
      case rel=>exact ⟨k+1,nq,qs,Y,by omega,by go_num,rfl,H3,Lh ⟨by rw [<- VE.out];exact HG.out.1,by rw [<- HG2.out];exact HG.out.2.1,HQl.out,HNq.out.symm⟩⟩
      case measure=>simp [intOf];omega
     ·
      have Zv:Iv.kM rs y m d (ls.drop k) ps=7:=by
       rw [VE.out,SL.out];rcases Mn.jl (x.count*x.price) with e3 | e3
       ·
        rw [e3] at e1 ⊢;rw [if_neg (by simp),if_pos (e1.resolve_left (by simp))]
       ·
        rw [e3];rfl
      have HP:=Lh (Iv.yS HH.out (by rw [<- HG.out.1,Zv];omega));rw [<- HG.out.1,Zv] at HP;have lo:=H2.out.lo;have wT:Hid (PSt w w3 g y m d):=Lh ⟨H2.out.gw,H2.out.dx.trans (b3.mono (by have:=H2.out.gw;omega)),H2.out.day.under b3 (by omega),(b3.block _ (by omega)).trans H2.out.res⟩;clear Zv e1 b3 H2 a0 a1 a2 a3 lo;obtain ⟨z0,z1,z2,z3⟩:=wT.out.res.cells;have f0:=wT.out.res.frozen 0;have f1:=wT.out.res.frozen 1;have f2:=wT.out.res.frozen 2;have f3:=wT.out.res.frozen 3;have ji:=Lh (And.intro wT.out.dx wT.out.gw);go_wp2_with fail;exact bodyPost_ret (v:=.tuple #[Tt.val 0 0 0 (.slice none 0 0),.int .i64 7]) (by simp [results,Tt.val,Tryz.results134,go_sem,z0,z1,z2,z3]) rfl ⟨_,by rw [HP.out.1,HP.out.2];rfl,by rw [HP.out.2];exact Pt.aN _ _,Mem.bU (Mem.bU (Mem.bU (Mem.bU ji.out.1 (by have:=ji.out.2;omega) _ _) (by have:=ji.out.2;omega) _ _) (by have:=ji.out.2;omega) _ _) (by have:=ji.out.2;omega) _ _⟩
    ·
     rw [if_neg hA] at SL;obtain ⟨E,hE⟩:∃ E,Iv.sM rs y m d x=E:=⟨_,rfl⟩;rw [hE] at SL hA ⊢;obtain ⟨bv,hbv⟩:∃ bv,Iv.Eb rs y m d x=bv:=⟨_,rfl⟩;rw [hbv]
     have Zv:Iv.kM rs y m d (ls.drop k) ps=E:=by
      rw [VE.out,SL.out,if_pos hA]
     have HP:=Lh (Iv.yS HH.out (by rw [<- HG.out.1,Zv];exact hA));rw [<- HG.out.1,Zv] at HP;have hne:(E != 0)=true:=bne_iff_ne.2 hA;clear hE hbv Zv hA a0 a1 a2 a3;obtain ⟨z0,z1,z2,z3⟩:=H2.out.res.cells;have f0:=H2.out.res.frozen 0;have f1:=H2.out.res.frozen 1;have f2:=H2.out.res.frozen 2;have f3:=H2.out.res.frozen 3;have ji:=Lh (And.intro H2.out.dx H2.out.gw);go_wp2_with fail;exact bodyPost_ret (v:=.tuple #[Tt.val 0 0 0 (.slice none 0 0),.int .i64 E]) (by simp [results,Tt.val,Tryz.results134,go_sem,z0,z1,z2,z3]) rfl ⟨_,by rw [HP.out.1,HP.out.2];rfl,by rw [HP.out.2];exact Pt.aN _ _,Mem.bU (Mem.bU (Mem.bU (Mem.bU ji.out.1 (by have:=ji.out.2;omega) _ _) (by have:=ji.out.2;omega) _ _) (by have:=ji.out.2;omega) _ _) (by have:=ji.out.2;omega) _ _⟩
   ·
    obtain rfl:k=k0:=by omega
    have HGo:Hid (Iv.kM rs y m d ls []=0/\Iv.iR rs y m d ls []=ps):=Lh (by
     have h:=HG.out;rw [List.drop_eq_nil_of_le (Nat.le_of_eq lC.out.symm)] at h;exact ⟨h.1.symm,h.2.1.symm⟩)
    have Zw:=Lh (Iv.Ky HH.out HGo.out.1);rw [HGo.out.2] at Zw;go_wp2_with fail;refine (NV ps Z q np k _ H.out.blk HG.out.2.2.2 H.out.len (by omega) H.out.sh).mono ?_;rintro e w3 ⟨v,rfl,hO,b3⟩;have lo:=H.out.lo;have wT:Hid (PSt w w3 g y m d):=Lh ⟨H.out.gw,H.out.dx.trans (b3.mono (by have:=H.out.gw;omega)),H.out.day.under b3 (by omega),(b3.block _ (by omega)).trans H.out.res⟩;have HO:=Lh (Pt.bD hO (show g+2<=q from lo));have HT:Hid (Iv.dK rs y m d ls=Iv.lS ps/\Iv.jM rs y m d ls=Iv.Gz ps):=Lh Zw.out;obtain ⟨E,hE⟩:∃ E,Iv.lS ps=E:=⟨_,rfl⟩;obtain ⟨T,hT⟩:∃ T,Iv.Gz ps=T:=⟨_,rfl⟩;rw [hE,hT] at HT ⊢;rw [hT] at HO;obtain ⟨N,X,G,qs⟩:=T;clear hE hT hO b3 lo Zw H;unfold Tt.val;obtain ⟨z0,z1,z2,z3⟩:=wT.out.res.cells;have f0:=wT.out.res.frozen 0;have f1:=wT.out.res.frozen 1;have f2:=wT.out.res.frozen 2;have f3:=wT.out.res.frozen 3;have ji:=Lh (And.intro wT.out.dx wT.out.gw);obtain ⟨vo,vn,vc,rfl⟩:=Pt.jK HO.out;go_wp2_with fail;refine bodyPost_ret (v:=.tuple #[Tt.val N X G (.slice vo vn vc),.int .i64 E]) (by simp [results,Tt.val,Tryz.results134,go_sem,z0,z1,z2,z3]) rfl ⟨.slice vo vn vc,by rw [HT.out.1,HT.out.2],?_,Mem.bU (Mem.bU (Mem.bU (Mem.bU ji.out.1 (by have:=ji.out.2;omega) _ _) (by have:=ji.out.2;omega) _ _) (by have:=ji.out.2;omega) _ _) (by have:=ji.out.2;omega) _ _⟩;rw [HT.out.2];have ho:Pt.Own _ (g+2) (.slice vo vn vc) qs:=Pt.rW (Pt.rW (Pt.rW (Pt.rW HO.out (b:=g+1) (by omega) 0 (.int .i64 N)) (b:=g+1) (by omega) 1 (.int .i64 X)) (b:=g+1) (by omega) 2 (.int .i64 G)) (b:=g+1) (by omega) 3 (.slice vo vn vc);exact Pt.bD ho (by have:=ji.out.2;omega)
 ·
  have HP:=Lh (Iv.EK hH);obtain ⟨E,hE⟩:∃ E,Iv.fD rs y m d ls=E:=⟨_,rfl⟩;rw [hE] at HP hH ⊢;have hne:(E != 0)=true:=bne_iff_ne.2 hH;clear hE hH;obtain ⟨z0,z1,z2,z3⟩:=H1.out.res.cells;have f0:=H1.out.res.frozen 0;have f1:=H1.out.res.frozen 1;have f2:=H1.out.res.frozen 2;have f3:=H1.out.res.frozen 3;have ji:=Lh (And.intro H1.out.dx H1.out.gw);go_wp2_with fail;exact bodyPost_ret (v:=.tuple #[Tt.val 0 0 0 (.slice none 0 0),.int .i64 E]) (by simp [results,Tt.val,Tryz.results134,go_sem,z0,z1,z2,z3]) rfl ⟨_,by rw [HP.out.1,HP.out.2];rfl,by rw [HP.out.2];exact Pt.aN _ _,Mem.bU (Mem.bU (Mem.bU (Mem.bU ji.out.1 (by have:=ji.out.2;omega) _ _) (by have:=ji.out.2;omega) _ _) (by have:=ji.out.2;omega) _ _) (by have:=ji.out.2;omega) _ _⟩
theorem nT {rs:List Rt} {y m d:Int} (hr:∀ r∈rs,Short r):∀ (ls:List Ln.T) (ps:List Pt.T),(∀ x∈ls,Ln.Short x)->(∀ r∈ps,Pt.Short r)->Iv.kM rs y m d ls ps=0->∀ r∈Iv.iR rs y m d ls ps,Pt.Short r
 | [],_,_,hp,_=>hp
 | x::l,ps,hl,hp,he=>by
  have hx:=hl x (by simp);rw [Iv.kM] at he;by_cases h1:Iv.qE rs y m d x=0
  ·
   rw [h1,if_neg (by simp)] at he;by_cases h2:Iv.gZ x.category (Vt.find rs x.category y m d).1 (x.count*x.price) ps=0
   ·
    rw [h2,if_neg (by simp)] at he;exact nT hr l _ (fun z hz=>hl z (by simp [hz])) (nk hx.2.1 (Gx hr x.category y m d) hp h2) he
   ·
    rw [if_pos h2] at he;omega
  ·
   rw [if_pos h1] at he;exact absurd he h1
theorem SN {rs:List Rt} {ls:List Ln.T} (h:Iv.dK rs y m d ls=0):Iv.fD rs y m d ls=0/\Iv.kM rs y m d ls []=0/\Iv.lS (Iv.iR rs y m d ls [])=0/\Iv.jM rs y m d ls=Iv.Da (Iv.iR rs y m d ls []):=by
 by_cases h1:Iv.fD rs y m d ls=0
 ·
  by_cases h2:Iv.kM rs y m d ls []=0
  ·
   have h3:=Iv.Ky h1 h2;rw [h] at h3;refine ⟨h1,h2,h3.1.symm,?_⟩;rw [h3.2,if_pos h3.1.symm]
  ·
   have h3:=Iv.yS h1 h2;rw [h] at h3;exact absurd h3.1.symm h2
 ·
  have h3:=Iv.EK h1;rw [h] at h3;exact absurd h3.1.symm h1
theorem JU {rs:List Rt} {ls:List Ln.T} (hr:∀ r∈rs,Short r) (hl:∀ x∈ls,Ln.Short x):∀ r∈(Iv.jM rs y m d ls).parts,Pt.Short r:=by
 by_cases h:Iv.dK rs y m d ls=0
 ·
  obtain ⟨_,h2,_,h4⟩:=SN h;rw [h4];intro r hr';obtain ⟨p,hp,rfl⟩:=List.mem_map.1 (show r∈(Iv.iR rs y m d ls []).map Iv.l8 from hr');have hs:=nT hr ls [] hl (by simp) h2 p hp;exact ⟨hs.1,hs.2.1,hs.2.2.1,yE p.net p.bp⟩
 ·
  have:Iv.jM rs y m d ls=Iv.iD.zero:=if_neg h;rw [this];intro r hr';cases hr'
theorem V7 {rs:List Rt} {ls:List Ln.T}:(Iv.jM rs y m d ls).parts.length<=12:=by
 by_cases h:Iv.dK rs y m d ls=0
 ·
  obtain ⟨h1,_,_,h4⟩:=SN h;have hl:=Iv.rV rs y m d ls [];rw [h4];show ((Iv.iR rs y m d ls []).map Iv.l8).length<=12;rw [List.length_map];unfold Iv.fD at h1;split at h1
  · omega
  ·
   split at h1
   · omega
   ·
    split at h1
    · omega
    ·
     split at h1
     · omega
     ·
      simp only [List.length_nil] at hl;omega
 ·
  have:Iv.jM rs y m d ls=Iv.iD.zero:=if_neg h;rw [this];show (0:Nat)<=12;omega
theorem SQ {l:List Pt.T} (h:Iv.lS l=0):Fit (Iv.nE l)/\Fit (Iv.iZ l)/\Fit (Iv.nE l+Iv.iZ l):=by
 have hu:∀ (l:List Pt.T) (N T:Int),Fit N->Fit T->Iv.C9 l N T=0->Fit (N+Iv.nE l)/\Fit (T+Iv.iZ l):=by
  intro l
  induction l with
  | nil =>
   intro N T hN hT _;show Fit (N+0)/\Fit (T+0);rw [Int.add_zero,Int.add_zero];exact ⟨hN,hT⟩
  | cons p l ih =>
   intro N T hN hT he;rw [Iv.C9] at he;by_cases h1:Sh.iC p.net p.bp=0
   ·
    rw [h1,if_neg (by simp)] at he;by_cases h2:Mn.err (N+p.net)=0
    ·
     rw [h2,if_neg (by simp)] at he;by_cases h3:Mn.err (T+Sh.fK p.net p.bp)=0
     ·
      rw [h3,if_neg (by simp)] at he;have:=ih _ _ (Iv.kT h2) (Iv.kT h3) he;rw [Iv.nE,Iv.iZ,<- Int.add_assoc,<- Int.add_assoc];exact this
     ·
      rw [if_pos h3] at he;omega
    ·
     rw [if_pos h2] at he;omega
   ·
    rw [if_pos h1] at he;exact absurd he h1
 unfold Iv.lS at h;by_cases h1:Iv.C9 l 0 0=0
 ·
  rw [h1,if_neg (by simp)] at h;have:=hu l 0 0 ⟨by omega,by omega⟩ ⟨by omega,by omega⟩ h1;rw [Int.zero_add,Int.zero_add] at this;exact ⟨this.1,this.2,Iv.kT h⟩
 ·
  rw [if_pos h1] at h;exact absurd h h1
theorem GL (rs:List Rt) (y m d:Int) (ls:List Ln.T):Fit (Iv.jM rs y m d ls).net/\Fit (Iv.jM rs y m d ls).aP/\Fit (Iv.jM rs y m d ls).au:=by
 have h0:Fit 0:=⟨by omega,by omega⟩;by_cases h:Iv.dK rs y m d ls=0
 ·
  obtain ⟨_,_,h3,h4⟩:=SN h;rw [h4];exact SQ h3
 ·
  have:Iv.jM rs y m d ls=Iv.iD.zero:=if_neg h;rw [this];exact ⟨h0,h0,h0⟩
theorem Bl.rV:∀ (ls M:List Ba.T),(Po.iR ls M).length<=M.length+ls.length
 | [],M=>Nat.le_refl _
 | x::l,M=>by
  have h1:=Bl.rV l (Po.enter x.aF x.dG M);have h2:=Po.rU (c:=x.aF) (n:=x.dG) M;show (Po.iR l (Po.enter x.aF x.dG M)).length<=_;rw [List.length_cons];omega
theorem Bl.kJ (g:Int) (ps:List Pt.T):(Po.bE g ps).length=1+2*ps.length:=by
 unfold Po.bE;rw [List.length_cons]
 induction ps with
 | nil=>rfl
 | cons p l ih =>
  rw [List.flatMap_cons,List.length_append,List.length_cons];have:(Po.rowsOf p).length=2:=rfl;omega
theorem Bl.pG:∀ {l:List Bl.Ps} {b c:List Ba.T},Bl.aT l b=some c->(∀ p∈l,p.tot.parts.length<=12)->c.length<=b.length+25*l.length
 | [],b,c,h,_=>by
  rw [Bl.aT,Option.some.injEq] at h;rw [<- h]
  simp
 | p::l,b,c,h,k=>by
  rw [Bl.aT] at h;split at h
  ·
   have h1:=Bl.pG h fun q hq=>k q (by simp [hq])
   have h2:=Bl.rV (Po.bE p.tot.au p.tot.parts) b;have h3:=Bl.kJ p.tot.au p.tot.parts;have h4:=k p (by simp);rw [List.length_cons];omega
  · cases h
theorem Bl.Right.Ak (h:Bl.Right s):s.book.length<=1000:=by
 have h1:=Bl.pG h.book fun p hp=>(h.tot p hp).few
 have h2:=h.few;simp at h1;omega
theorem Bl.JV (h:Rn.name (txt c)=true):c.size<=140737488351232:=by
 unfold Rn.name at h;simp only [Bool.and_eq_true,decide_eq_true_iff] at h;have h2:=h.1.2;have e:c.size=(txt c).length:=by unfold txt;rw [Array.length_toList];rfl
 omega
theorem Bl.sI.small {t:Iv.iD} (h:Bl.sI t):∀ x∈t.parts,x.cat.size<=140737488351232:=fun x hx=>Bl.JV (h.each x hx).1
def Ca.Zx (r:Ca.T):List Value:=[.int .i64 r.kind,.string r.av,.int .i64 r.lim,.string r.cat,.int .i64 r.ry,.int .i64 r.rm,.int .i64 r.rd,.int .i64 r.bp,.int .i64 r.y,.int .i64 r.m,.int .i64 r.d,.slice r.lines.ao r.lines.n r.lines.cap,.string r.bf,.int .i64 r.aY,.int .i64 r.fF]
def Ca.nX (r:Ca.T):Value:=.agg #[.int .i64 r.kind,.string r.av,.int .i64 r.lim,.string r.cat,.int .i64 r.ry,.int .i64 r.rm,.int .i64 r.rd,.int .i64 r.bp,.int .i64 r.y,.int .i64 r.m,.int .i64 r.d,.slice r.lines.ao r.lines.n r.lines.cap,.string r.bf,.int .i64 r.aY,.int .i64 r.fF]
def Ca.nY (r:Ca.T):Obj:=.cells #[.int .i64 r.kind,.string r.av,.int .i64 r.lim,.string r.cat,.int .i64 r.ry,.int .i64 r.rm,.int .i64 r.rd,.int .i64 r.bp,.int .i64 r.y,.int .i64 r.m,.int .i64 r.d,.slice r.lines.ao r.lines.n r.lines.cap,.string r.bf,.int .i64 r.aY,.int .i64 r.fF] 57
theorem Ca.XY:(Tryz.prog.info? 57).map (·.size)=some 15:=by kernel_rfl
theorem Ca.yH {r:Ca.T} (hA:w.heap[g]? =some (Ca.nY r)) (ho:op.op=.load 57 (.tmp t)) (hgd:op.guard=none)
  (hx:a.tmps.toList[t]? =some (.pointer (some ⟨g,0,none⟩))) (k:wpList Tryz.prog ops Q rest (a.put op.dst (Ca.nX r)) w):wpList Tryz.prog ops Q (op::rest) a w :=
 wpList_load_row hgd 57 (.tmp t) ho g (Ca.gY hx) 57 (Ca.Zx r).toArray (0,0) _ hA Tryz.underlying57 rfl (by rw [Ca.XY];rfl) k
theorem Tt.aI {N X G:Int} {v:Value} (hA:Tt.At w g N X G v) (ho:op.op=.load 102 (.tmp t)) (hgd:op.guard=none)
  (hx:a.tmps.toList[t]? =some (.pointer (some ⟨g,0,none⟩))) (k:wpList Tryz.prog ops Q rest (a.put op.dst (.agg #[.int .i64 N,.int .i64 X,.int .i64 G,v])) w):wpList Tryz.prog ops Q (op::rest) a w :=
 wpList_load_row hgd 102 (.tmp t) ho g (Ca.gY hx) 102 #[.int .i64 N,.int .i64 X,.int .i64 G,v] (0,0) _ hA Tryz.underlying102 rfl (by rw [Tt.Li];rfl) k
theorem Tt.oU {s:Tmp} {old:Array Value} {N X G:Int} {ao:Option Addr} {n c:Nat} (ho:op.op=.store 102 (.tmp t) (.tmp s)) (hgd:op.guard=none)
  (hx:a.tmps.toList[t]? =some (.pointer (some ⟨g,0,none⟩))) (hg:g=w.heap.size) (hy:a.tmps.toList[s]? =some (Tt.val N X G (.slice ao n c))) (hold:old.size=4)
  (k:wpList Tryz.prog ops Q rest (a.put op.dst undef) (Tt.box w N X G (.slice ao n c))):wpList Tryz.prog ops Q (op::rest) a (w.alloc (.cells old 102)):=by
 subst hg;refine wpList_store_row hgd 102 (.tmp t) (.tmp s) ho w.heap.size #[.int .i64 N,.int .i64 X,.int .i64 G,.slice ao n c] (Ca.gY hx) (Ca.gY hy) 102 old (heap_alloc_new w _) (by rw [Tt.Li];rfl) (by rw [hold];rfl) (by simp [Value.oneCell']) ?_;rw [Ca.nR];exact k
def Bl.GN (s:Bl.St) (c:Bl.Cm):Bl.Ps:=⟨c.av,0,c.y,c.m,c.d,Iv.jM s.tab c.y c.m c.d c.lines,.empty,0,false⟩
def Bl.Al (s:Bl.St) (c:Bl.Cm):Bl.St:=if Iv.dK s.tab c.y c.m c.d c.lines=0 then Bl.xS s (Bl.GN s c) else s
def Bl.xM (s:Bl.St) (c:Bl.Cm):Rp.T:=if Iv.dK s.tab c.y c.m c.d c.lines=0 then Bl.sN s (Bl.GN s c) else ⟨Iv.dK s.tab c.y c.m c.d c.lines,0,0⟩
structure Bl.Om (w:World) (r:Ca.T) (c:Bl.Cm):Prop where
 kind:r.kind=c.kind
 av:r.av=c.av
 lim:r.lim=c.lim
 row:(⟨r.cat,r.ry,r.rm,r.rd,r.bp⟩:Vt.Rt)=c.row
 y:r.y=c.y
 m:r.m=c.m
 d:r.d=c.d
 lines:Ln.Ls w r.lines.ao r.lines.n r.lines.cap c.lines
 bf:r.bf=c.bf
 aY:r.aY=c.aY
 fF:r.fF=c.ak
theorem Bl.Qk.isM {r:Ca.T} {c:Bl.Cl} (h:Bl.Qk w r c):Bl.Om w r c.cmd:=⟨h.kind,h.av,h.lim,h.row,h.y,h.m,h.d,h.lines,h.bf,h.aY,h.fF⟩
theorem Bl.Om.below {w v:World} {r:Ca.T} {c:Bl.Cm} (h:Bl.Om w r c) (k:Below w.heap.size w v):Bl.Om v r c:=⟨h.kind,h.av,h.lim,h.row,h.y,h.m,h.d,h.lines.below k,h.bf,h.aY,h.fF⟩
theorem SS (P0:Nat->Prop) (s:Bl.St) (h:Bl.Sv) (r:Ca.T) (c:Bl.Cm) (w:World) (hL:Bl.Lp P0 w h s) (hI:Bl.Om w r c) (hS:Ca.Short r) (hR:Bl.Right s) :
  Calls Tryz.prog 90 #[h.val,Ca.nX r] w (Bl.uy P0 w (Bl.Al s c) (Bl.xM s c)):=by
 have HL:=Lh hL;have HI:=Lh hI;have bT:=Lh hS;have HR:=Lh hR;obtain ⟨U,hU,hA,hF,iN⟩:=Bl.OV w h (Ca.nY r);have c1:U.cell? ⟨w.heap.size+1,1,none⟩=some (.string r.av):=by rw [cell_of_row U _ 1 _ _ _ iN];rfl
 have c8:U.cell? ⟨w.heap.size+1,8,none⟩=some (.int .i64 r.y):=by rw [cell_of_row U _ 8 _ _ _ iN];rfl
 have c9:U.cell? ⟨w.heap.size+1,9,none⟩=some (.int .i64 r.m):=by rw [cell_of_row U _ 9 _ _ _ iN];rfl
 have c10:U.cell? ⟨w.heap.size+1,10,none⟩=some (.int .i64 r.d):=by rw [cell_of_row U _ 10 _ _ _ iN];rfl
 have c11:U.cell? ⟨w.heap.size+1,11,none⟩=some (.slice r.lines.ao r.lines.n r.lines.cap):=by rw [cell_of_row U _ 11 _ _ _ iN];rfl
 have HA:=Lh hA;have HF:=Lh hF;have gV:=Lh iN;have iB:Hid (w.heap.size+1+1+1 < U.heap.size):=Lh hF.rp.lt;obtain ⟨x0,x1,x2,x3,x4,x5⟩:=hA.cells;clear hL hI hS hR hA hF iN;unfold Bl.Sv.val Bl.sl Ca.nX;unfold Ca.nY at hU;go_enter Tryz.func90,Tryz.ntmps90;go_wp2_with fail;clear hU;refine Calls.mono (R:=Tt.UU U (Iv.dK s.tab c.y c.m c.d c.lines) (Iv.jM s.tab c.y c.m c.d c.lines)) ?_ ?_
 ·
  rw [HI.out.y,HI.out.m,HI.out.d];exact Oj s.tab c.lines h.tab.ao r.lines.ao h.tab.n h.tab.cap r.lines.n r.lines.cap c.y c.m c.d U (HL.out.tab.below HF.out.dx) (HI.out.lines.below HF.out.dx) (HI.out.y▸bT.out.2.2.2.2.2.2.2.2.2.2.1) (HI.out.m▸bT.out.2.2.2.2.2.2.2.2.2.2.2.1) (HI.out.d▸bT.out.2.2.2.2.2.2.2.2.2.2.2.2.1)
 rintro e w1 ⟨v,rfl,o1,b1⟩;have HTf:=Lh (GL s.tab c.y c.m c.d c.lines);have HTs:=Lh (JU (rs:=s.tab) (y:=c.y) (m:=c.m) (d:=c.d) (ls:=c.lines) HL.out.tab.short HI.out.lines.short);have XZ:=Lh (V7 (rs:=s.tab) (y:=c.y) (m:=c.m) (d:=c.d) (ls:=c.lines));have HTr:=Lh (Bl.Br (rs:=s.tab) (y:=c.y) (m:=c.m) (d:=c.d) (ls:=c.lines));obtain ⟨P,hP⟩:∃ P,Bl.GN s c=P:=⟨_,rfl⟩;have HP:Hid (P=⟨c.av,0,c.y,c.m,c.d,Iv.jM s.tab c.y c.m c.d c.lines,.empty,0,false⟩):=Lh hP.symm;have HBS:Hid (Bl.Al s c=if Iv.dK s.tab c.y c.m c.d c.lines=0 then Bl.xS s P else s):=Lh (by rw [<- hP];rfl);have HBR:Hid (Bl.xM s c=if Iv.dK s.tab c.y c.m c.d c.lines=0 then Bl.sN s P else ⟨Iv.dK s.tab c.y c.m c.d c.lines,0,0⟩):=Lh (by rw [<- hP];rfl);obtain ⟨T,hT⟩:∃ T,Iv.jM s.tab c.y c.m c.d c.lines=T:=⟨_,rfl⟩;obtain ⟨E,hE⟩:∃ E,Iv.dK s.tab c.y c.m c.d c.lines=E:=⟨_,rfl⟩;rw [hT] at o1 HTf HTs XZ HTr HP ⊢;rw [hE] at HTr HBS HBR ⊢;clear hP hT hE;obtain ⟨po,pc,rfl,l1,i1⟩:=Pt.aX o1 HTs.out;obtain ⟨pn,hpn⟩:∃ pn,T.parts.length=pn:=⟨_,rfl⟩;rw [hpn] at l1 XZ ⊢;clear hpn;have vX:=Lh l1;have HIl:=Lh (dZ (n:=pn) i1);have hA1:=HA.out.below b1;have HA1:=Lh hA1;have jB:=Lh (HF.out.below b1);have Oo:=(b1.block _ (by have:=iB.out;omega)).trans gV.out;have Ei:=Lh Oo;have HB1:=Lh (aj HF.out.dx b1);have b2:=Tt.aC w1 T.net T.aP T.au (.slice po pn pc);obtain ⟨w2,hw2⟩:∃ w2,Tt.box w1 T.net T.aP T.au (.slice po pn pc)=w2:=⟨_,rfl⟩;have X4:=Tt.dY w1 T.net T.aP T.au (.slice po pn pc);rw [hw2] at b2 X4;have hA2:=hA1.below b2;have HA2:=Lh hA2;have ko:=Lh (jB.out.below b2);have nZ:=(b2.block _ (by have:=iB.out;have:=b1.size;omega)).trans Oo;have HB2:=Lh b2;have uM:Hid (U.heap.size<=w2.heap.size):=Lh (by have:=b1.size;have:=b2.size;omega);have GQ:=Lh (aj HB1.out b2);have d1:w2.cell? ⟨w.heap.size+1,1,none⟩=some (.string r.av):=by rw [cell_of_row w2 _ 1 _ _ _ nZ];rfl
 have d8:w2.cell? ⟨w.heap.size+1,8,none⟩=some (.int .i64 r.y):=by rw [cell_of_row w2 _ 8 _ _ _ nZ];rfl
 have d9:w2.cell? ⟨w.heap.size+1,9,none⟩=some (.int .i64 r.m):=by rw [cell_of_row w2 _ 9 _ _ _ nZ];rfl
 have Z6:w2.cell? ⟨w.heap.size+1,10,none⟩=some (.int .i64 r.d):=by rw [cell_of_row w2 _ 10 _ _ _ nZ];rfl
 clear o1 l1 i1 b1 b2 Oo nZ hA1 x0 x1 x2 x3 x4 x5 c1 c8 c9 c10 c11;by_cases hE0:E=0
 ·
  subst hE0;go_wp2_with (first | ((with_reducible apply Tt.oU (N:=T.net) (X:=T.aP) (G:=T.au) (ao:=po) (n:=pn) (c:=pc) (g:=w1.heap.size));rfl;rfl;rfl;rfl;rfl;rfl;rw [hw2])|((with_reducible apply Bl.aI hA2);rfl;rfl;rfl)|((with_reducible apply Tt.aI X4);rfl;rfl;rfl))
  have hIs:Bl.AV w2 ⟨r.av,0,r.y,r.m,r.d,T.net,T.aP,T.au,⟨po,pn,pc⟩,.empty,0,false⟩ P:=by
   rw [HP.out];exact ⟨HI.out.av,rfl,HI.out.y,HI.out.m,HI.out.d,rfl,rfl,rfl,vX.out.below HB2.out,rfl,rfl,rfl⟩
  have DX:P.tot=T:=by rw [HP.out]
  refine (Cx (nw (fun b=>P0 b/\b < w.heap.size) U) s h ⟨r.av,0,r.y,r.m,r.d,T.net,T.aP,T.au,⟨po,pn,pc⟩,.empty,0,false⟩ P w2 ((HL.out.lt.below GQ.out).wide U) (HIl.out.nw _ (Nat.le_refl _)) hIs ⟨bT.out.2.2.2.1,Bl.eF,bT.out.2.2.2.2.2.2.2.2.2.2.1,bT.out.2.2.2.2.2.2.2.2.2.2.2.1,bT.out.2.2.2.2.2.2.2.2.2.2.2.2.1,HTf.out.1,HTf.out.2.1,HTf.out.2.2,by show (0:Nat)<=_;omega,Bl.eF⟩ (by show pn<=100;have:=XZ.out;omega) (by rw [DX];exact (HTr.out trivial).small) HR.out.few HR.out.Ak).mono ?_;clear hIs DX;rintro e w3 ⟨h',rfl,hL3,b3⟩;have uJ:=Lh hL3;have HB3:=Lh (aj GQ.out b3);have lu:=ko.out.below b3;have lM:=Lh lu;have yI:=lu.st;have wJ:=lu.MZ h';have HBS2:Hid (Bl.Al s c=Bl.xS s P):=Lh (by have:=HBS.out;simpa using this);have HBR2:Hid (Bl.xM s c=Bl.sN s P):=Lh (by have:=HBR.out;simpa using this);obtain ⟨q,hq⟩:∃ q,Bl.sN s P=q:=⟨_,rfl⟩;rw [hq] at HBR2 ⊢;clear hq hL3 b3 lu d1 d8 d9 Z6 X4 hw2 hA2;go_wp2_with (first | ((with_reducible apply Bl.aU (h:=h') yI);rfl;rfl;rfl;rfl)|((with_reducible apply Rp.aU (r:=q) wJ);rfl;rfl;rfl;rfl));refine lM.out.ret Tryz.results90 h' q rfl rfl rfl fun b=>?_
  rw [HBS2.out,HBR2.out];exact ⟨_,rfl,((uJ.out.mono (Xq (by have:=uM.out;omega))).fA (w:=w) (fun b z=>z.2) (by omega) (by have:=iB.out;omega) (by omega) (by have:=iB.out;omega)).mono (fun b z=>z.elim (fun y=>.inl y.1) .inr),b⟩
 ·
  have hq:(E==0)=false:=beq_eq_false_iff_ne.2 hE0;go_wp2_with (first | ((with_reducible apply Tt.oU (N:=T.net) (X:=T.aP) (G:=T.au) (ao:=po) (n:=pn) (c:=pc) (g:=w1.heap.size));rfl;rfl;rfl;rfl;rfl;rfl;rw [hw2]));refine Bl.jI (w.heap.size) (w.heap.size+1+1) (w.heap.size+1+1+1) h Bl.iy ⟨0,0,0⟩ (E) HA2.out ko.out.st ko.out.rp (by omega) rfl rfl rfl rfl rfl rfl rfl rfl rfl rfl rfl rfl ?_ ?_ ?_ ?_ ?_ ?_ ?_ ?_ ?_ ?_ ?_
  · kernel_rfl
  · exact fun _ _ _ h=>h
  · exact fun _ _ _ h=>h
  · rfl
  · rfl
  · rfl
  · rfl
  · rfl
  · rfl
  · rfl
  intro w9 b9;go_wp2_with fail;exact (ko.out.below b9).ret Tryz.results90 h ⟨E,0,0⟩ rfl rfl rfl fun b=>by rw [HBS.out,HBR.out,if_neg hE0,if_neg hE0];exact ⟨_,rfl,(HL.out.below b).wide w,b⟩
theorem Bl.lG {rs:List Nat} {fuel:Nat} {l:List Bool} (hr:Region.ready .any ops l.toArray=rs) (hne:rs≠[])
  (h:∀ i∈rs,∃ oi,ops[i]? =some oi/\∀ K':Act->World->Prop,Shut (∀ a w,S w->(S w->wpAnyH Tryz.prog .any ops Q S fuel (l.set i true).toArray a w)->K' a w)->if Region.wanted oi (yielded ops a.tmps)=true then Oper.wp Tryz.prog oi a w K' Q else K' (a.put oi.dst undef) w) :
  wpAnyH Tryz.prog .any ops Q S (fuel+1) l.toArray a w:=by
 refine wpAnyH_all hr hne fun i hi=>?_
 obtain ⟨oi,ho,hk⟩:=h i hi;refine wpOp_step ho (fun K' hK=>hk K' fun a w hS hW=>hK a w ⟨hS,?_⟩);simpa using hW hS
theorem Bl.GR {K:Act->World->Prop} {E:Prop} (hgd:o.guard=none) (ho:o.op=.alloc 30) (k:K (a.put o.dst (.pointer (some ⟨w.heap.size,0,none⟩))) (Bl.box w Bl.iy)) :
  if Region.wanted o (yielded ops a.tmps)=true then Oper.wp Tryz.prog o a w K Q else E:=by
 have hw:Region.wanted o (yielded ops a.tmps)=true:=by simp [Region.wanted,hgd]
 rw [if_pos hw];unfold Oper.wp;simp only [execOp,ho];simp [go_sem];exact k
theorem Bl.GU {K:Act->World->Prop} {E:Prop} (hgd:o.guard=none) (ho:o.op=.alloc 43) (k:K (a.put o.dst (.pointer (some ⟨w.heap.size,0,none⟩))) (w.alloc (.cells #[.int .i64 0,.int .i64 0,.int .i64 0] 43))) :
  if Region.wanted o (yielded ops a.tmps)=true then Oper.wp Tryz.prog o a w K Q else E:=by
 have hw:Region.wanted o (yielded ops a.tmps)=true:=by simp [Region.wanted,hgd]
 rw [if_pos hw];unfold Oper.wp;simp only [execOp,ho];simp [go_sem];exact k
theorem Bl.Cy {v0 v1:Value} (k:Nat) (hk:k=0\/k=1) (hgd:o.guard=none) (ho:o.op=.extract (.tmp t) k) (hp:a.tmps.toList[t]? =some (.tuple #[v0,v1])):YieldsIf Tryz.prog ops S o (if k=0 then v0 else v1) a:=by
 refine .inl ⟨by simp [Region.wanted,hgd],fun u _=>?_⟩;simp only [execOp,ho,Ca.gY hp];rcases hk with rfl | rfl
 · simp [go_sem]
 · simp [go_sem]
theorem Bl.xb {n m:Nat} (h:∀ x∈X,w.heap.size<=x/\x < n) (k:n<=m):∀ x∈X,w.heap.size<=x/\x < m:=fun x hx=>⟨(h x hx).1,Nat.lt_of_lt_of_le (h x hx).2 k⟩
theorem Bl.Ej {n m:Nat} (h:∀ x∈X,w.heap.size<=x/\x < n) (hn:w.heap.size<=n) (k:n < m):∀ x∈n::X,w.heap.size<=x/\x < m:=by
 intro x hx;rcases List.mem_cons.1 hx with rfl | hx
 · exact ⟨hn,k⟩
 · exact ⟨(h x hx).1,Nat.lt_trans (h x hx).2 k⟩
def Bl.obS:Obj:=.cells #[Bl.sl Bl.iy.tab,Bl.sl Bl.iy.av,Bl.sl Bl.iy.post,Bl.sl Bl.iy.book,Bl.sl Bl.iy.ak,.int .i64 Bl.iy.next] 30
theorem Bl.nextS (XB:∀ x∈X,w.heap.size<=x/\x < u.heap.size) (BL:Below w.heap.size w u):(∀ x∈u.heap.size::X,w.heap.size<=x/\x < (Bl.box u Bl.iy).heap.size)/\Below w.heap.size w (Bl.box u Bl.iy)/\Bl.At (Bl.box u Bl.iy) u.heap.size Bl.iy/\w.heap.size<=u.heap.size/\Below u.heap.size u (Bl.box u Bl.iy) :=
 ⟨Bl.Ej XB BL.size (by simp [Bl.box]),aj BL (Bl.aC u _),Bl.dY u _,BL.size,Bl.aC u _⟩
theorem Bl.nextR (XB:∀ x∈X,w.heap.size<=x/\x < u.heap.size) (BL:Below w.heap.size w u):(∀ x∈u.heap.size::X,w.heap.size<=x/\x < (u.alloc (.cells #[.int .i64 0,.int .i64 0,.int .i64 0] 43)).heap.size)/\Below w.heap.size w (u.alloc (.cells #[.int .i64 0,.int .i64 0,.int .i64 0] 43))/\Rp.Bk (u.alloc (.cells #[.int .i64 0,.int .i64 0,.int .i64 0] 43)) u.heap.size ⟨0,0,0⟩/\w.heap.size<=u.heap.size/\Below u.heap.size u (u.alloc (.cells #[.int .i64 0,.int .i64 0,.int .i64 0] 43)) :=
 ⟨Bl.Ej XB BL.size (by simp),aj BL ((Below.refl _ _).alloc (Nat.le_refl _) _),heap_alloc_new u _,BL.size,(Below.refl _ _).alloc (Nat.le_refl _) _⟩
def Bl.X5 (ops:Array Oper):Bool:=Region.noSelect ops&&Bl.tk ops [false,false,false,false,false,false,false,false,false,false,false,false] 0&&Bl.tk ops [true,false,false,false,false,false,false,false,false,false,false,false] 1&&Bl.tk ops [true,true,false,false,false,false,false,false,false,false,false,false] 3&&(Region.ready .any ops [true,true,false,true,false,false,false,false,false,false,false,false].toArray==[2,8,9])&&(Region.ready .any ops [true,true,false,true,false,false,false,false,false,true,false,false].toArray==[2,8])&&(Region.ready .any ops [true,true,false,true,false,false,false,false,true,false,false,false].toArray==[2,9])&&(Region.ready .any ops [true,true,false,true,false,false,false,false,true,true,false,false].toArray==[2])&&(Region.ready .any ops [true,true,true,true,false,false,false,false,false,false,false,false].toArray==[4,8,9])&&(Region.ready .any ops [true,true,true,true,false,false,false,false,false,true,false,false].toArray==[4,8])&&(Region.ready .any ops [true,true,true,true,false,false,false,false,true,false,false,false].toArray==[4,9])&&(Region.ready .any ops [true,true,true,true,false,false,false,false,true,true,false,false].toArray==[4])&&(Region.ready .any ops [true,true,true,true,true,true,true,true,false,false,false,false].toArray==[8,9])&&(Region.ready .any ops [true,true,true,true,true,true,true,true,false,true,false,false].toArray==[8])&&(Region.ready .any ops [true,true,true,true,true,true,true,true,true,false,false,false].toArray==[9])&&Bl.tk ops [true,true,true,true,true,false,false,false,false,false,false,false] 5&&Bl.tk ops [true,true,true,true,true,true,false,false,false,false,false,false] 6&&Bl.tk ops [true,true,true,true,true,true,true,false,false,false,false,false] 7&&Bl.tk ops [true,true,true,true,true,false,false,false,false,true,false,false] 5&&Bl.tk ops [true,true,true,true,true,true,false,false,false,true,false,false] 6&&Bl.tk ops [true,true,true,true,true,true,true,false,false,true,false,false] 7&&Bl.tk ops [true,true,true,true,true,false,false,false,true,false,false,false] 5&&Bl.tk ops [true,true,true,true,true,true,false,false,true,false,false,false] 6&&Bl.tk ops [true,true,true,true,true,true,true,false,true,false,false,false] 7&&Bl.tk ops [true,true,true,true,true,false,false,false,true,true,false,false] 5&&Bl.tk ops [true,true,true,true,true,true,false,false,true,true,false,false] 6&&Bl.tk ops [true,true,true,true,true,true,true,false,true,true,false,false] 7&&(Region.ready .any ops [true,true,true,true,true,true,true,true,true,true,false,false].toArray==[10])&&(Region.ready .any ops [true,true,true,true,true,true,true,true,true,true,true,false].toArray==[11])&&(Region.ready .any ops [true,true,true,true,true,true,true,true,true,true,true,true].toArray==[])
theorem Bl.V8 (X:Act) (p v:Value):(X.put (some 10) p).put (some 52) v=(X.put (some 52) v).put (some 10) p:=congrArg (fun t=>(⟨t,X.defers⟩:Act)) (Array.setIfInBounds_comm _ _ (by decide))
theorem Bl.V9 (X:Act) (p v:Value):(X.put (some 10) p).put (some 54) v=(X.put (some 54) v).put (some 10) p:=congrArg (fun t=>(⟨t,X.defers⟩:Act)) (Array.setIfInBounds_comm _ _ (by decide))
theorem Bl.Wd (X:Act) (p v:Value):(X.put (some 10) p).put (some 49) v=(X.put (some 49) v).put (some 10) p:=congrArg (fun t=>(⟨t,X.defers⟩:Act)) (Array.setIfInBounds_comm _ _ (by decide))
theorem Bl.Wh (X:Act) (p v:Value):(X.put (some 10) p).put (some 55) v=(X.put (some 55) v).put (some 10) p:=congrArg (fun t=>(⟨t,X.defers⟩:Act)) (Array.setIfInBounds_comm _ _ (by decide))
theorem Bl.Wi (X:Act) (p v:Value):(X.put (some 10) p).put (some 56) v=(X.put (some 56) v).put (some 10) p:=congrArg (fun t=>(⟨t,X.defers⟩:Act)) (Array.setIfInBounds_comm _ _ (by decide))
theorem Bl.Wj (X:Act) (p v:Value):(X.put (some 11) p).put (some 52) v=(X.put (some 52) v).put (some 11) p:=congrArg (fun t=>(⟨t,X.defers⟩:Act)) (Array.setIfInBounds_comm _ _ (by decide))
theorem Bl.Wm (X:Act) (p v:Value):(X.put (some 11) p).put (some 54) v=(X.put (some 54) v).put (some 11) p:=congrArg (fun t=>(⟨t,X.defers⟩:Act)) (Array.setIfInBounds_comm _ _ (by decide))
theorem Bl.Wn (X:Act) (p v:Value):(X.put (some 11) p).put (some 49) v=(X.put (some 49) v).put (some 11) p:=congrArg (fun t=>(⟨t,X.defers⟩:Act)) (Array.setIfInBounds_comm _ _ (by decide))
theorem Bl.Wo (X:Act) (p v:Value):(X.put (some 11) p).put (some 55) v=(X.put (some 55) v).put (some 11) p:=congrArg (fun t=>(⟨t,X.defers⟩:Act)) (Array.setIfInBounds_comm _ _ (by decide))
theorem Bl.Wp (X:Act) (p v:Value):(X.put (some 11) p).put (some 56) v=(X.put (some 56) v).put (some 11) p:=congrArg (fun t=>(⟨t,X.defers⟩:Act)) (Array.setIfInBounds_comm _ _ (by decide))
theorem Bl.Wq (X:Act) (p v:Value):(X.put (some 11) p).put (some 10) v=(X.put (some 10) v).put (some 11) p:=congrArg (fun t=>(⟨t,X.defers⟩:Act)) (Array.setIfInBounds_comm _ _ (by decide))
theorem Bl.SV {o8 o9 eU mK:Oper} {J0:List Nat->World->Prop} {J1:List Nat->Bl.Sv->World->Prop} {J2:List Nat->Bl.Sv->Rp.T->World->Prop} (v0 v1 v3:Value) {f1 f2:FuncId} {Zy fn2:Func} {c1 c2:Code} {ty1 ty2:Array TypeId}
  (hsz:a.tmps.size=64) (vV:∀ u,Below w.heap.size w u->S u) (SX:∀ u b vs,w.heap.size<=b->S u->S (World.setRow u b vs)) (hJ:J0 [] w.drew) (hc:Bl.X5 #[o0,o1,o2,o3,o4,o5,o6,o7,o8,o9,eU,mK]=true)
  (hd0:o0.dst=some 50) (hd1:o1.dst=some 51) (hd2:o2.dst=some 52) (hd3:o3.dst=some 53) (hd4:o4.dst=some 54) (hd5:o5.dst=some 49) (hd6:o6.dst=some 55) (hd7:o7.dst=some 56) (XU:o8.dst=some 10) (XV:o9.dst=some 11) (hg2:o2.guard=none) (hg4:o4.guard=none) (hg5:o5.guard=none) (Zz:o6.guard=none) (XR:o7.guard=none) (hg8:o8.guard=none) (hg9:o9.guard=none) (Oq:eU.guard=none) (Ws:mK.guard=none)
  (y0:YieldsIf Tryz.prog #[o0,o1,o2,o3,o4,o5,o6,o7,o8,o9,eU,mK] S o0 v0 a) (y1:YieldsIf Tryz.prog #[o0,o1,o2,o3,o4,o5,o6,o7,o8,o9,eU,mK] S o1 v1 (a.put (some 50) v0)) (y3:YieldsIf Tryz.prog #[o0,o1,o2,o3,o4,o5,o6,o7,o8,o9,eU,mK] S o3 v3 ((a.put (some 50) v0).put (some 51) v1))
  (hQ:∀ c a d v w,Q (.panic c) (Act.put a (some d) v) w->Q (.panic c) a w)
  (ho2 : o2.op = .call { callee := .value (.func f1), args := #[.tmp 50, .tmp 51], argTypes := ty1 }) (U8 : o4.op = .call { callee := .value (.func f2), args := #[.tmp 52, .tmp 53], argTypes := ty2 }) (hf1 : Tryz.prog.funcs[f1]? = some Zy) (hn1 : (Zy.name == "runtime.NumGoroutine") = false) (hb1 : Zy.body = some c1) (hf2 : Tryz.prog.funcs[f2]? = some fn2) (hn2 : (fn2.name == "runtime.NumGoroutine") = false) (hb2 : fn2.body = some c2)
  (ho5:o5.op=.move (.tmp 54)) (ho6:o6.op=.extract (.tmp 49) 0) (XT:o7.op=.extract (.tmp 49) 1) (ho8:o8.op=.alloc 30) (ho9:o9.op=.alloc 43) (Ot:eU.op=.store 30 (.tmp 10) (.tmp 55)) (Wt:mK.op=.store 43 (.tmp 11) (.tmp 56)) (AP:eU.dst=none) (Wu:mK.dst=none)
  (m1:∀ X u,Below w.heap.size w u->(∀ x∈X,w.heap.size<=x/\x < u.heap.size)->J0 X u->Calls Tryz.prog f1 #[v0,v1] u fun e u'=>∃ hm:Bl.Sv,e=.returned hm.val/\J1 X hm u'/\Below u.heap.size u u')
  (m2:∀ X hm u,Below w.heap.size w u->(∀ x∈X,w.heap.size<=x/\x < u.heap.size)->J1 X hm u->Calls Tryz.prog f2 #[Bl.Sv.val hm,v3] u fun e u'=>∃ (h':Bl.Sv) (q:Rp.T),e=.returned (.tuple #[h'.val,Rp.val q])/\J2 X h' q u'/\Below u.heap.size u u')
  (a0:∀ X u o,J0 X u->J0 (u.heap.size::X) (World.alloc u o)) (a1:∀ X hm u o,J1 X hm u->J1 (u.heap.size::X) hm (World.alloc u o)) (a2:∀ X h' q u o,J2 X h' q u->J2 (u.heap.size::X) h' q (World.alloc u o))
  (k:∀ X (hm h':Bl.Sv) q u g10 g11,Below w.heap.size w u->J2 X h' q u->g10∈X->g11∈X->g10≠g11->w.heap.size<=g10->w.heap.size<=g11->Bl.At u g10 Bl.iy->Rp.Bk u g11 ⟨0,0,0⟩->Q .normal ((((((((((a.put (some 50) v0).put (some 51) v1).put (some 53) v3).put (some 52) hm.val).put (some 54) (.tuple #[h'.val,Rp.val q])).put (some 49) (.tuple #[h'.val,Rp.val q])).put (some 55) h'.val).put (some 56) (Rp.val q)).put (some 10) (.pointer (some ⟨g10,0,none⟩))).put (some 11) (.pointer (some ⟨g11,0,none⟩))) (Bl.fA u g10 g11 h' q)) :
  (Code.region id #[o0,o1,o2,o3,o4,o5,o6,o7,o8,o9,eU,mK] true).wp Tryz.prog Q a w:=by
 unfold Bl.X5 at hc;simp only [Bool.and_eq_true,beq_iff_eq] at hc;obtain ⟨⟨⟨⟨⟨⟨⟨⟨⟨⟨⟨⟨⟨⟨⟨⟨⟨⟨⟨⟨⟨⟨⟨⟨⟨⟨⟨⟨⟨c0,c1⟩,c2⟩,c3⟩,c4⟩,c5⟩,c6⟩,c7⟩,c8⟩,c9⟩,c10⟩,c11⟩,c12⟩,c13⟩,c14⟩,c15⟩,c16⟩,c17⟩,c18⟩,c19⟩,c20⟩,c21⟩,c22⟩,c23⟩,c24⟩,c25⟩,c26⟩,c27⟩,c28⟩,c29⟩:=hc;have hw0:Below w.heap.size w w.drew:=(Below.refl _ _).drew;refine wp_region_held_drew (S:=S) (by kernel_rfl) (vV _ hw0) (fun hH=>?_);refine Bl.aO (i:=0) (oi:=o0) rfl c0 c1 (by rw [hd0];exact fun c a w=>hQ c a _ _ w) y0 hH ?_;rw [hd0];refine Bl.aO (i:=1) (oi:=o1) rfl c0 c2 (by rw [hd1];exact fun c a w=>hQ c a _ _ w) y1 hH ?_;rw [hd1];refine Bl.aO (i:=3) (oi:=o3) rfl c0 c3 (by rw [hd3];exact fun c a w=>hQ c a _ _ w) y3 hH ?_;rw [hd3];show wpAnyH Tryz.prog .any #[o0,o1,o2,o3,o4,o5,o6,o7,o8,o9,eU,mK] Q S 9 [true,true,false,true,false,false,false,false,false,false,false,false].toArray _ w.drew;have J:J0 [] w.drew:=hJ;have BL:=hw0;have XB:∀ x∈([]:List Nat),w.heap.size<=x/\x < w.drew.heap.size:=by simp
 iterate 4 (all_goals (
  (try simp only [List.set_cons_zero,List.set_cons_succ])
  first
   | (with_reducible refine Bl.lG (rs:=[2,8,9]) c4 (List.cons_ne_nil _ _) ?_;intro i hi;simp only [List.mem_cons,List.not_mem_nil,or_false] at hi;rcases hi with rfl | rfl | rfl)
   | (with_reducible refine Bl.lG (rs:=[2,8]) c5 (List.cons_ne_nil _ _) ?_;intro i hi;simp only [List.mem_cons,List.not_mem_nil,or_false] at hi;rcases hi with rfl | rfl)
   | (with_reducible refine Bl.lG (rs:=[2,9]) c6 (List.cons_ne_nil _ _) ?_;intro i hi;simp only [List.mem_cons,List.not_mem_nil,or_false] at hi;rcases hi with rfl | rfl)
   | (with_reducible refine Bl.lG (rs:=[2]) c7 (List.cons_ne_nil _ _) ?_;intro i hi;simp only [List.mem_cons,List.not_mem_nil,or_false] at hi;rcases hi with rfl)
   | (with_reducible refine Bl.lG (rs:=[4,8,9]) c8 (List.cons_ne_nil _ _) ?_;intro i hi;simp only [List.mem_cons,List.not_mem_nil,or_false] at hi;rcases hi with rfl | rfl | rfl)
   | (with_reducible refine Bl.lG (rs:=[4,8]) c9 (List.cons_ne_nil _ _) ?_;intro i hi;simp only [List.mem_cons,List.not_mem_nil,or_false] at hi;rcases hi with rfl | rfl)
   | (with_reducible refine Bl.lG (rs:=[4,9]) c10 (List.cons_ne_nil _ _) ?_;intro i hi;simp only [List.mem_cons,List.not_mem_nil,or_false] at hi;rcases hi with rfl | rfl)
   | (with_reducible refine Bl.lG (rs:=[4]) c11 (List.cons_ne_nil _ _) ?_;intro i hi;simp only [List.mem_cons,List.not_mem_nil,or_false] at hi;rcases hi with rfl)
   | (with_reducible refine Bl.lG (rs:=[8,9]) c12 (List.cons_ne_nil _ _) ?_;intro i hi;simp only [List.mem_cons,List.not_mem_nil,or_false] at hi;rcases hi with rfl | rfl)
   | (with_reducible refine Bl.lG (rs:=[8]) c13 (List.cons_ne_nil _ _) ?_;intro i hi;simp only [List.mem_cons,List.not_mem_nil,or_false] at hi;rcases hi with rfl)
   | (with_reducible refine Bl.lG (rs:=[9]) c14 (List.cons_ne_nil _ _) ?_;intro i hi;simp only [List.mem_cons,List.not_mem_nil,or_false] at hi;rcases hi with rfl)
  all_goals first
   | (refine ⟨o2,rfl,fun K hK=>?_⟩;refine Bl.fB hg2 (Bl.enters ho2 (vs:=#[v0,v1]) (by simp [Act.eval,Act.put,hsz,Array.getD_eq_getD_getElem?]) hf1 hn1 hb1 _) ((m1 _ _ BL XB J).mono ?_);rintro e v ⟨hm,rfl,j1,b⟩;refine ⟨_,rfl,hK.out _ _ (vV _ (aj BL b)) fun _=>?_⟩;clear hK K;rw [hd2];(try have D:=D.below b);(try have E:=E.below b);replace XB:=Bl.xb XB b.size;replace BL:=aj BL b;replace J:=j1;clear j1 b)
   | (refine ⟨o4,rfl,fun K hK=>?_⟩;refine Bl.fB hg4 (Bl.enters U8 (vs:=#[hm.val,v3]) (by simp [Act.eval,Act.put,hsz,Array.getD_eq_getD_getElem?]) hf2 hn2 hb2 _) ((m2 _ hm _ BL XB J).mono ?_);rintro e v ⟨h',q,rfl,j1,b⟩;have hS2:=vV _ (aj BL b);refine ⟨_,rfl,hK.out _ _ hS2 fun _=>?_⟩;clear hK K;rw [hd4];(try simp only [List.set_cons_zero,List.set_cons_succ]);(first | with_reducible refine Bl.aO (i:=5) (oi:=o5) (v:=.tuple #[h'.val,Rp.val q]) rfl c0 c15 ?_ ?_ hS2 ?_ | with_reducible refine Bl.aO (i:=5) (oi:=o5) (v:=.tuple #[h'.val,Rp.val q]) rfl c0 c18 ?_ ?_ hS2 ?_ | with_reducible refine Bl.aO (i:=5) (oi:=o5) (v:=.tuple #[h'.val,Rp.val q]) rfl c0 c21 ?_ ?_ hS2 ?_ | with_reducible refine Bl.aO (i:=5) (oi:=o5) (v:=.tuple #[h'.val,Rp.val q]) rfl c0 c24 ?_ ?_ hS2 ?_);(· rw [hd5];exact fun c a w=>hQ c a _ _ w);(· exact Bl.iJ hg5 ho5 (by simp [Act.put,hsz]));rw [hd5];(try simp only [List.set_cons_zero,List.set_cons_succ]);(first | with_reducible refine Bl.aO (i:=6) (oi:=o6) (v:=h'.val) rfl c0 c16 ?_ ?_ hS2 ?_ | with_reducible refine Bl.aO (i:=6) (oi:=o6) (v:=h'.val) rfl c0 c19 ?_ ?_ hS2 ?_ | with_reducible refine Bl.aO (i:=6) (oi:=o6) (v:=h'.val) rfl c0 c22 ?_ ?_ hS2 ?_ | with_reducible refine Bl.aO (i:=6) (oi:=o6) (v:=h'.val) rfl c0 c25 ?_ ?_ hS2 ?_);(· rw [hd6];exact fun c a w=>hQ c a _ _ w);(· exact Bl.Cy 0 (.inl rfl) Zz ho6 (v0:=h'.val) (v1:=Rp.val q) (by simp [Act.put,hsz]));rw [hd6];(try simp only [List.set_cons_zero,List.set_cons_succ]);(first | with_reducible refine Bl.aO (i:=7) (oi:=o7) (v:=Rp.val q) rfl c0 c17 ?_ ?_ hS2 ?_ | with_reducible refine Bl.aO (i:=7) (oi:=o7) (v:=Rp.val q) rfl c0 c20 ?_ ?_ hS2 ?_ | with_reducible refine Bl.aO (i:=7) (oi:=o7) (v:=Rp.val q) rfl c0 c23 ?_ ?_ hS2 ?_ | with_reducible refine Bl.aO (i:=7) (oi:=o7) (v:=Rp.val q) rfl c0 c26 ?_ ?_ hS2 ?_);(· rw [hd7];exact fun c a w=>hQ c a _ _ w);(· exact Bl.Cy 1 (.inr rfl) XR XT (v0:=h'.val) (v1:=Rp.val q) (by simp [Act.put,hsz]));rw [hd7];(try have D:=D.below b);(try have E:=E.below b);replace XB:=Bl.xb XB b.size;replace BL:=aj BL b;replace J:=j1;clear j1 b hS2)
   | (refine ⟨o8,rfl,fun K hK=>?_⟩;obtain ⟨XB',LD,D,L8,b⟩:=Bl.nextS XB BL;refine Bl.GR hg8 ho8 (hK.out _ _ (vV _ LD) fun _=>?_);clear hK K;rw [XU];(try (have N9:=E.lt;replace E:=E.below b));(first | replace J:=a0 _ _ Bl.obS J | replace J:=a1 _ _ _ Bl.obS J | replace J:=a2 _ _ _ _ Bl.obS J);replace XB:=XB';replace BL:=LD;clear b XB' LD)
   | (refine ⟨o9,rfl,fun K hK=>?_⟩;obtain ⟨XB',LD,E,L9,b⟩:=Bl.nextR XB BL;refine Bl.GU hg9 ho9 (hK.out _ _ (vV _ LD) fun _=>?_);clear hK K;rw [XV];(try (have N8:=D.lt;replace D:=D.below b));(first | replace J:=a0 _ _ (.cells #[.int .i64 0,.int .i64 0,.int .i64 0] 43) J | replace J:=a1 _ _ _ (.cells #[.int .i64 0,.int .i64 0,.int .i64 0] 43) J | replace J:=a2 _ _ _ _ (.cells #[.int .i64 0,.int .i64 0,.int .i64 0] 43) J);replace XB:=XB';replace BL:=LD;clear b XB' LD)))
 all_goals
  try simp only [List.set_cons_zero,List.set_cons_succ]
  refine Bl.eu (i:=10) (oi:=eU) rfl c27 (fun K hK=>?_);refine Bl.dJ Oq Ot AP (h:=h') (by simp [Act.put,hsz]) (by simp [Act.put,hsz]) D (hK.out _ _ (SX _ _ _ L8 (vV _ BL)) fun hS2=>?_);clear hK K;refine Bl.eu (i:=11) (oi:=mK) rfl c28 (fun K hK=>?_);refine Rp.dJ Ws Wt Wu (r:=q) (by simp [Act.put,hsz]) (by simp [Act.put,hsz]) (E.other (by omega) _) (hK.out _ _ (SX _ _ _ L9 hS2) fun yI=>?_);clear hK K;refine wpAnyH_done c29 ?_ _
  try simp only [Bl.V8,Bl.V9,Bl.Wd,Bl.Wh,Bl.Wi,Bl.Wj,Bl.Wm,Bl.Wn,Bl.Wo,Bl.Wp,Bl.Wq]
  exact k _ hm h' q _ _ _ BL J (by simp [Bl.dh]) (by simp [Bl.dh]) (by omega) L8 L9 D E
end Go.Proofs.YtpfdnemaaeolcaaGreat
