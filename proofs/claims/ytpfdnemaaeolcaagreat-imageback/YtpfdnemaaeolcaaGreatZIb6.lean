import Derived.Deep.RegionHeld3
import Derived.Laws.AppendOwnNone
import Derived.Test.YtpfdnemaaeolcaaGreatZIb1
import Derived.Test.YtpfdnemaaeolcaaGreatZIb3
import Derived.Test.YtpfdnemaaeolcaaGreatZIb5
variable {w u v:Go.World} {n g cap b k B:Nat} {ao:Option Go.Addr} {P Q:Nat->Prop} {a:Go.Act} {t p:Go.Tmp} {ops:Array Go.Oper} {fn:Go.Func} {rest:List Go.Oper} {op:Go.Oper} {y m d:Int}
set_option maxHeartbeats 8000000
set_option linter.unusedVariables false
namespace Go.Proofs.YtpfdnemaaeolcaaGreat
open Go.RowKit
open Mem
open Go.Sort (grow)
theorem Bl.Dx (w:World) (c:ByteArray) (m:Int):∃ V,w.alloc (.cells #[.string c,.int .i64 m] 55)=V/\Below w.heap.size w V/\V.cell? ⟨w.heap.size,0,none⟩=some (.string c)/\V.cell? ⟨w.heap.size,1,none⟩=some (.int .i64 m):=by
 refine ⟨_,rfl,(Below.refl _ _).alloc (Nat.le_refl _) _,?_,?_⟩
 ·
  rw [cell_of_row _ w.heap.size 0 _ _ _ (heap_alloc_new w _)];rfl
 ·
  rw [cell_of_row _ w.heap.size 1 _ _ _ (heap_alloc_new w _)];rfl
theorem Bl.QS {c:ByteArray} {n:Int}:∀ {l:List Bl.Ps} {k:Nat} (hk:k < l.length),(∀ p∈l.take k,¬ (p.av=c/\p.num=n))->(l[k].av=c/\l[k].num=n)->Bl.lU c n l=k
 | [],k,hk,_,_=>absurd hk (Nat.not_lt_zero _)
 | p::l,0,_,_,h=>if_pos h
 | p::l,k+1,hk,hn,h=>by
  rw [Bl.lU,if_neg (hn p (by simp)),Bl.QS (l:=l) (k:=k) (by rw [List.length_cons] at hk;omega) (fun q hq=>hn q (by rw [List.take_succ_cons];simp [hq])) h]
theorem Bl.BD {a b:ByteArray} (h: ¬ a=b):(a.toList==b.toList)=false:=beq_eq_false_iff_ne.2 fun k=>h (oz (by rw [<- tl,<- tl,k]))
theorem Bl.FE {a b:ByteArray} (h:a=b):(a.toList==b.toList)=true:=by rw [h];exact beq_self_eq_true _
theorem Bl.MU (A:Nat) (w:World):Bl.lJ A w ⟨⟨none,0,0⟩,⟨none,0,0⟩,⟨none,0,0⟩,⟨none,0,0⟩,⟨none,0,0⟩,1⟩ Bl.new:=by
 have h:=Bl.zu w;exact ⟨h.tab,h.av,⟨[],Pd.dL w,Bl.qR w,fun r hr=>by cases hr⟩,h.book,h.ak,h.next,h.fit,kP _ _,kP _ _,kP _ _,kP _ _,kP _ _⟩
theorem Dy (w0 w:World) (hw:Below w0.heap.size w0 w):Calls Tryz.prog 6 #[] w (Bl.NewE w0 w):=by
 have HW:=Lh hw;clear hw;go_enter Tryz.func6,Tryz.ntmps6;go_wp2_with fail;exact bodyPost_ret (v:=.agg #[.slice none 0 0,.slice none 0 0,.slice none 0 0,.slice none 0 0,.slice none 0 0,.int .i64 1]) (by simp [results,Tryz.results6,go_sem]) rfl ⟨⟨⟨none,0,0⟩,⟨none,0,0⟩,⟨none,0,0⟩,⟨none,0,0⟩,⟨none,0,0⟩,1⟩,rfl,Bl.MU _ _,aL HW.out _⟩
theorem qZ (n:Int) (w0 w:World) (hw:Below w0.heap.size w0 w):Calls Tryz.prog 16 #[.int .i64 n] w fun e w'=>e=.returned (Rp.val ⟨n,0,0⟩)/\Below w0.heap.size w0 w':=by
 have HW:=Lh hw;clear hw;go_enter Tryz.func16,Tryz.ntmps16;go_wp2_with fail;exact bodyPost_ret (v:=Rp.val ⟨n,0,0⟩) (by simp [results,Rp.val,Tryz.results16,go_sem]) rfl ⟨rfl,aL HW.out _⟩
theorem MV (k:Int) (w:World):Calls Tryz.prog 35 #[.int .i64 k] w fun e w'=>e=.returned (.bool (Bl.jd k))/\w'=w:=by
 by_cases h:1<=k/\k<=8
 ·
  have HK:=Lh (Bl.qJ.2 h);have hc:k=1\/k=2\/k=3\/k=4\/k=5\/k=6\/k=7\/k=8:=by omega
  clear h;rcases hc with rfl | rfl | rfl | rfl | rfl | rfl | rfl | rfl
  all_goals
   go_enter Tryz.func35,Tryz.ntmps35;go_wp2_with fail;go_ret;exact ⟨rfl,rfl⟩
 ·
  have HK:Hid (Bl.jd k=false):=Lh (by
   cases q:Bl.jd k
   · rfl
   · exact absurd (Bl.qJ.1 q) h)
  have q1:(k==1)=false:=beq_eq_false_iff_ne.2 (by omega);have q2:(k==2)=false:=beq_eq_false_iff_ne.2 (by omega);have q3:(k==3)=false:=beq_eq_false_iff_ne.2 (by omega);have q4:(k==4)=false:=beq_eq_false_iff_ne.2 (by omega);have q5:(k==5)=false:=beq_eq_false_iff_ne.2 (by omega);have q6:(k==6)=false:=beq_eq_false_iff_ne.2 (by omega);have q7:(k==7)=false:=beq_eq_false_iff_ne.2 (by omega);have q8:(k==8)=false:=beq_eq_false_iff_ne.2 (by omega);clear h;go_enter Tryz.func35,Tryz.ntmps35;go_wp2_with fail;go_ret;exact ⟨by rw [HK.out];rfl,rfl⟩
theorem BF (ps:List Bl.Ps) (rs:List Pd.T) (c:ByteArray) (m:Int) (ao:Option Addr) (n cap:Nat) (w0 w:World) (hw:Below w0.heap.size w0 w) (hL:Pd.Ls w ao n cap rs) (hE:Bl.Each w rs ps) :
  Calls Tryz.prog 119 #[.slice ao n cap,.agg #[.string c,.int .i64 m]] w fun e w'=>e=.returned (.int .i64 (Bl.lU c m ps:Nat))/\Below w0.heap.size w0 w':=by
 have HW:=Lh hw;have HL:=Lh hL;have HN:=Lh hL.len;have HE:=Lh hE;have hcap:=hL.reach;have hfit:=hL.fits;clear hL hw hE;obtain ⟨V,hV,MW,v0,v1⟩:=Bl.Dx w c m;have HV:=Lh MW;have HC:=Lh (And.intro v0 v1);clear MW v0 v1;go_enter Tryz.func119,Tryz.ntmps119;go_wp2_with fail;clear hV
 go_loopw [5,6,9] (fun _ _ j wr=>∃ k:Nat,k<=n/\j=.int .i64 k/\Hid (∀ p∈ps.take k,¬ (p.av=c/\p.num=m))/\Hid (Below V.heap.size V wr)) (fun _ _ j _=>n - (intOf j).toNat)
 case atStart=>exact ⟨0,by omega,rfl,Lh (fun _ h=>by cases h),Lh (Below.refl _ _)⟩
 case round =>
  obtain ⟨k,hk,rfl,HT,HB⟩:=hrel;by_cases hlt:k < n
  ·
   obtain ⟨b,off,rfl⟩:=HL.out.at (by omega);have hkl:k < rs.length:=HN.out▸hlt;have hkp:k < ps.length:=HE.out.len▸hkl;have hrow:=(HL.out.row k hkl).below (aj HV.out HB.out);have hI:=HE.out.each k hkl;obtain ⟨r,hr⟩:∃ r,rs[k]=r:=⟨_,rfl⟩;obtain ⟨p,hp⟩:∃ p,ps[k]=p:=⟨_,rfl⟩;rw [hr] at hrow hI;rw [hp] at hI;have e1:=hI.av;have e2:=hI.num;clear hr hI;have hA:=Pd.dO wr r;have dz:=Lh (aj HB.out (Pd.aC wr r));have x0:=(aD (aj HB.out (Pd.aC wr r))).1 _ 0 (aH HC.out.1) |>.trans HC.out.1
   have x1:=(aD (aj HB.out (Pd.aC wr r))).1 _ 1 (aH HC.out.1) |>.trans HC.out.2
   have hA':=hA;unfold Pd.C at hA';obtain ⟨a0,a1,_⟩:=hA';have HS:=Lh (List.take_succ_eq_append_getElem hkp);rw [hp] at HS;by_cases he:r.av=c
   ·
    have q0:=Bl.FE he;by_cases hm:r.num=m
    ·
     have HF:=Lh (Bl.QS hkp HT.out (by rw [hp];exact ⟨e1▸he,e2▸hm⟩));have q1:(r.num==m)=true:=beq_iff_eq.2 hm;clear he hm e1 e2;go_wp2_with (first | ((with_reducible apply Pd.aI hrow);rfl;rfl;rfl)|((with_reducible apply Pd.aQ (r:=r) (g:=wr.heap.size));rfl;rfl;rfl;rfl;rfl;rfl));go_ret;exact ⟨by rw [HF.out];rfl,aj HW.out (aj HV.out dz.out)⟩
    ·
     have cK:Hid (¬ (p.av=c/\p.num=m)):=Lh fun h=>hm (e2.trans h.2)
     have q1:(r.num==m)=false:=beq_eq_false_iff_ne.2 hm;clear he hm e1 e2;go_wp2_with (first | ((with_reducible apply Pd.aI hrow);rfl;rfl;rfl)|((with_reducible apply Pd.aQ (r:=r) (g:=wr.heap.size));rfl;rfl;rfl;rfl;rfl;rfl));go_roundw
     case rel =>
      refine ⟨k+1,by omega,by go_num,Lh ?_,dz⟩;rw [HS.out];intro x hx;rcases List.mem_append.1 hx with h | h
      · exact HT.out x h
      ·
       rw [List.mem_singleton.1 h];exact cK.out
     case measure=>simp [intOf];omega
   ·
    have q0:=Bl.BD he;have cK:Hid (¬ (p.av=c/\p.num=m)):=Lh fun h=>he (e1.trans h.1)
    clear he e1 e2;go_wp2_with (first | ((with_reducible apply Pd.aI hrow);rfl;rfl;rfl)|((with_reducible apply Pd.aQ (r:=r) (g:=wr.heap.size));rfl;rfl;rfl;rfl;rfl;rfl));go_roundw
    case rel =>
     refine ⟨k+1,by omega,by go_num,Lh ?_,dz⟩;rw [HS.out];intro x hx;rcases List.mem_append.1 hx with h | h
     · exact HT.out x h
     ·
      rw [List.mem_singleton.1 h];exact cK.out
    case measure=>simp [intOf];omega
  ·
   obtain rfl:k=n:=by omega
   have HF:Hid (Bl.lU c m ps=k):=Lh (by
    rw [Bl.ER,<- HE.out.len,HN.out];intro p hp;exact HT.out p (by rw [List.take_of_length_le (by rw [<- HE.out.len,HN.out];exact Nat.le_refl _)];exact hp))
   go_wp2_with fail;go_ret;exact ⟨by rw [HF.out];rfl,aj HW.out (aj HV.out HB.out)⟩
theorem jH (ps:List Bl.Ps) (rs:List Pd.T) (c:ByteArray) (m:Int) (ao:Option Addr) (n cap:Nat) (w0 w:World) (hw:Below w0.heap.size w0 w) (hL:Pd.Ls w ao n cap rs) (hE:Bl.Each w rs ps) :
  Calls Tryz.prog 79 #[.slice ao n cap,.agg #[.string c,.int .i64 m]] w fun e w'=>e=.returned (.int .i64 (Bl.mZ c m ps:Nat))/\Below w0.heap.size w0 w':=by
 have HW:=Lh hw;have HL:=Lh hL;have HN:=Lh hL.len;have HE:=Lh hE;have hcap:=hL.reach;have hfit:=hL.fits;clear hL hw hE;obtain ⟨V,hV,MW,v0,v1⟩:=Bl.Dx w c m;have HV:=Lh MW;have HC:=Lh (And.intro v0 v1);clear MW v0 v1;go_enter Tryz.func79,Tryz.ntmps79;go_wp2_with fail;clear hV
 go_loopw [5,7,10] (fun a _ j wr=>∃ k t:Nat,k<=n/\t<=k/\j=.int .i64 k/\a=.int .i64 t/\Hid (Bl.mZ c m (ps.take k)=t)/\Hid (Below V.heap.size V wr)) (fun _ _ j _=>n - (intOf j).toNat)
 case atStart=>exact ⟨0,0,by omega,by omega,rfl,rfl,Lh rfl,Lh (Below.refl _ _)⟩
 case round =>
  obtain ⟨k,t,hk,htk,rfl,rfl,HT,HB⟩:=hrel;by_cases hlt:k < n
  ·
   obtain ⟨b,off,rfl⟩:=HL.out.at (by omega);have hkl:k < rs.length:=HN.out▸hlt;have hkp:k < ps.length:=HE.out.len▸hkl;have hrow:=(HL.out.row k hkl).below (aj HV.out HB.out);have hI:=HE.out.each k hkl;obtain ⟨r,hr⟩:∃ r,rs[k]=r:=⟨_,rfl⟩;have HS:=Lh (Bl.P6 c m ps k hkp);obtain ⟨p,hp⟩:∃ p,ps[k]=p:=⟨_,rfl⟩;rw [hr] at hrow hI;rw [hp] at hI HS;have e1:=hI.bf;have e2:=hI.aY;clear hr hI hp;have hA:=Pd.dO wr r;have dz:=Lh (aj HB.out (Pd.aC wr r));have x0:=(aD (aj HB.out (Pd.aC wr r))).1 _ 0 (aH HC.out.1) |>.trans HC.out.1
   have x1:=(aD (aj HB.out (Pd.aC wr r))).1 _ 1 (aH HC.out.1) |>.trans HC.out.2
   have hA':=hA;unfold Pd.C at hA';obtain ⟨_,_,_,_,_,_,_,_,_,a9,uh,_⟩:=hA';by_cases he:r.bf=c
   ·
    have q0:=Bl.FE he;by_cases hm:r.aY=m
    ·
     have HF:Hid (Bl.mZ c m (ps.take (k+1))=t+1):=Lh (by rw [HS.out,HT.out,if_pos ⟨e1▸he,e2▸hm⟩]);have q1:(r.aY==m)=true:=beq_iff_eq.2 hm;clear he hm e1 e2;go_wp2_with (first | ((with_reducible apply Pd.aI hrow);rfl;rfl;rfl)|((with_reducible apply Pd.aQ (r:=r) (g:=wr.heap.size));rfl;rfl;rfl;rfl;rfl;rfl));go_roundw
     case rel=>exact ⟨k+1,t+1,by omega,by omega,by go_num,by go_num,HF,dz⟩
     case measure=>simp [intOf];omega
    ·
     have HF:Hid (Bl.mZ c m (ps.take (k+1))=t):=Lh (by rw [HS.out,HT.out,if_neg (fun h=>hm (e2.trans h.2)),Nat.add_zero]);have q1:(r.aY==m)=false:=beq_eq_false_iff_ne.2 hm;clear he hm e1 e2;go_wp2_with (first | ((with_reducible apply Pd.aI hrow);rfl;rfl;rfl)|((with_reducible apply Pd.aQ (r:=r) (g:=wr.heap.size));rfl;rfl;rfl;rfl;rfl;rfl));go_roundw
     case rel=>exact ⟨k+1,t,by omega,by omega,by go_num,rfl,HF,dz⟩
     case measure=>simp [intOf];omega
   ·
    have q0:=Bl.BD he;have HF:Hid (Bl.mZ c m (ps.take (k+1))=t):=Lh (by rw [HS.out,HT.out,if_neg (fun h=>he (e1.trans h.1)),Nat.add_zero]);clear he e1 e2;go_wp2_with (first | ((with_reducible apply Pd.aI hrow);rfl;rfl;rfl)|((with_reducible apply Pd.aQ (r:=r) (g:=wr.heap.size));rfl;rfl;rfl;rfl;rfl;rfl));go_roundw
    case rel=>exact ⟨k+1,t,by omega,by omega,by go_num,rfl,HF,dz⟩
    case measure=>simp [intOf];omega
  ·
   obtain rfl:k=n:=by omega
   have HF:Hid (Bl.mZ c m ps=t):=Lh (by
    rw [<- HT.out,List.take_of_length_le (by rw [<- HE.out.len,HN.out];exact Nat.le_refl _)])
   go_wp2_with fail;go_ret;exact ⟨by rw [HF.out];rfl,aj HW.out (aj HV.out HB.out)⟩
def Bl.YG (w0:World) (c:ByteArray) (ps:List Bl.Ps) (e:Ending) (w':World):Prop:=(Bl.sW c ps/\e=.returned (.tuple #[.int .i64 (Bl.cnt c ps:Nat),.bool true])\/ ¬ Bl.sW c ps/\e=.returned (.tuple #[.int .i64 0,.bool false]))/\Below w0.heap.size w0 w'
theorem Bl.I4 {c:ByteArray} {l:List Bl.Ps} (hk:k < l.length) (h:Bl.sW c (l.take k)) (hn:l[k].av=c->l[k].num=(Bl.cnt c (l.take k):Int)+1):Bl.sW c (l.take (k+1)):=by
 intro i hi e;rw [List.length_take] at hi;rw [List.getElem_take] at e;rw [List.getElem_take];have ht:((l.take (k+1)).take i)=l.take i:=by rw [List.take_take,Nat.min_eq_left (by omega)]
 rw [ht];by_cases q:i=k
 ·
  subst q;exact hn e
 ·
  have:=h i (by rw [List.length_take];omega) (by rw [List.getElem_take];exact e);have hm:min i k=i:=by omega
  simp only [List.getElem_take,List.take_take,hm] at this;exact this
theorem MX (ps:List Bl.Ps) (rs:List Pd.T) (c:ByteArray) (ao:Option Addr) (n cap:Nat) (w0 w:World) (hw:Below w0.heap.size w0 w) (hL:Pd.Ls w ao n cap rs) (hE:Bl.Each w rs ps) :
  Calls Tryz.prog 74 #[.slice ao n cap,.string c] w (Bl.YG w0 c ps):=by
 have HW:=Lh hw;have HL:=Lh hL;have HN:=Lh hL.len;have HE:=Lh hE;have hcap:=hL.reach;have hfit:=hL.fits;clear hL hw hE;go_enter Tryz.func74,Tryz.ntmps74;go_wp2_with fail
 go_loopw [6,8,11] (fun a _ j wr=>∃ k t:Nat,k<=n/\t<=k/\j=.int .i64 k/\a=.int .i64 t/\Hid (Bl.cnt c (ps.take k)=t/\Bl.sW c (ps.take k))/\Hid (Below w.heap.size w wr)) (fun _ _ j _=>n - (intOf j).toNat)
 case atStart=>exact ⟨0,0,by omega,by omega,rfl,rfl,Lh ⟨rfl,fun i hi=>absurd hi (Nat.not_lt_zero _)⟩,Lh (Below.refl _ _)⟩
 case round =>
  obtain ⟨k,t,hk,htk,rfl,rfl,HT,HB⟩:=hrel;by_cases hlt:k < n
  ·
   obtain ⟨b,off,rfl⟩:=HL.out.at (by omega);have hkl:k < rs.length:=HN.out▸hlt;have hkp:k < ps.length:=HE.out.len▸hkl;have hrow:=(HL.out.row k hkl).below HB.out;have hI:=HE.out.each k hkl;obtain ⟨r,hr⟩:∃ r,rs[k]=r:=⟨_,rfl⟩;have HS:=Lh (Bl.yZ c ps k hkp);have bX:=Lh (Bl.I4 hkp HT.out.2);have cK:Hid (ps[k].av=c-> ¬ ps[k].num=(t:Int)+1-> ¬ Bl.sW c ps):=Lh fun e q h=>q (by have:=h k hkp e;rw [HT.out.1] at this;exact this)
   obtain ⟨p,hp⟩:∃ p,ps[k]=p:=⟨_,rfl⟩;rw [hr] at hrow hI;rw [hp] at hI HS bX cK;have e1:=hI.av;have e2:=hI.num;clear hr hI hp;have hA:=Pd.dO wr r;have dz:=Lh (aj HB.out (Pd.aC wr r));have hA':=hA;unfold Pd.C at hA';obtain ⟨a0,a1,_⟩:=hA';by_cases he:r.av=c
   ·
    have q0:=Bl.FE he;have HF:Hid (Bl.cnt c (ps.take (k+1))=t+1):=Lh (by rw [HS.out,HT.out.1,if_pos (e1▸he)]);by_cases hm:r.num=(t:Int)+1
    ·
     have HG:=Lh (bX.out fun _=>by rw [HT.out.1,<- e2];exact hm);have q1:(r.num==(t:Int)+1)=true:=beq_iff_eq.2 hm;clear he hm e1 e2;go_wp2_with (first | ((with_reducible apply Pd.aI hrow);rfl;rfl;rfl)|((with_reducible apply Pd.aQ (r:=r) (g:=wr.heap.size));rfl;rfl;rfl;rfl;rfl;rfl));go_roundw
     case rel=>exact ⟨k+1,t+1,by omega,by omega,by go_num,by go_num,Lh ⟨HF.out,HG.out⟩,dz⟩
     case measure=>simp [intOf];omega
    ·
     have HG:=Lh (cK.out (e1▸he) (e2▸hm));have q1:(r.num==(t:Int)+1)=false:=beq_eq_false_iff_ne.2 hm;clear he hm e1 e2;go_wp2_with (first | ((with_reducible apply Pd.aI hrow);rfl;rfl;rfl)|((with_reducible apply Pd.aQ (r:=r) (g:=wr.heap.size));rfl;rfl;rfl;rfl;rfl;rfl));go_ret2;exact ⟨.inr ⟨HG.out,rfl⟩,aj HW.out dz.out⟩
   ·
    have q0:=Bl.BD he;have HF:Hid (Bl.cnt c (ps.take (k+1))=t):=Lh (by rw [HS.out,HT.out.1,if_neg (fun h=>he (e1.trans h)),Nat.add_zero]);have HG:=Lh (bX.out fun h=>absurd (e1.trans h) he);clear he e1 e2;go_wp2_with (first | ((with_reducible apply Pd.aI hrow);rfl;rfl;rfl)|((with_reducible apply Pd.aQ (r:=r) (g:=wr.heap.size));rfl;rfl;rfl;rfl;rfl;rfl));go_roundw
    case rel=>exact ⟨k+1,t,by omega,by omega,by go_num,rfl,Lh ⟨HF.out,HG.out⟩,dz⟩
    case measure=>simp [intOf];omega
  ·
   obtain rfl:k=n:=by omega
   have HF:Hid (Bl.cnt c ps=t/\Bl.sW c ps):=Lh (by
    have h:=HT.out;rw [List.take_of_length_le (by rw [<- HE.out.len,HN.out];exact Nat.le_refl _)] at h;exact h)
   go_wp2_with fail;go_ret2;exact ⟨.inl ⟨HF.out.2,by rw [HF.out.1];rfl⟩,aj HW.out HB.out⟩
theorem I5 (bs:List Ba.T) (c:ByteArray) (ao:Option Addr) (n cap:Nat) (w0 w:World) (hw:Below w0.heap.size w0 w) (hL:Ba.Ls w ao n cap bs) (hS:Po.Sorted bs) :
  Calls Tryz.prog 140 #[.slice ao n cap,.string c] w fun e w'=>e=.returned (.int .i64 (Po.val c bs))/\Below w0.heap.size w0 w':=by
 have HW:=Lh hw;have HL:=Lh hL;have HN:=Lh hL.len;have Z7:=Lh hS;have hcap:=hL.reach;have hfit:=hL.fits;clear hL hw hS;go_enter Tryz.func140,Tryz.ntmps140;go_wp2_with fail
 go_loopw [6,9] (fun _ j wr=>∃ k:Nat,k<=n/\j=.int .i64 k/\Hid (∀ x∈bs.take k,x.aF≠c)/\Hid (Below w.heap.size w wr)) (fun _ j _=>n - (intOf j).toNat)
 case atStart=>exact ⟨0,by omega,rfl,Lh (fun _ h=>by cases h),Lh (Below.refl _ _)⟩
 case round =>
  obtain ⟨k,hk,rfl,HT,HB⟩:=hrel;by_cases hlt:k < n
  ·
   obtain ⟨b,off,rfl⟩:=HL.out.at (by omega);have hkl:k < bs.length:=HN.out▸hlt;have hrow:=(HL.out.row k hkl).below HB.out;have HS:=Lh (List.take_succ_eq_append_getElem hkl);have HM:=Lh (List.getElem_mem hkl);obtain ⟨r,hr⟩:∃ r,bs[k]=r:=⟨_,rfl⟩;rw [hr] at hrow HS HM;clear hr;obtain ⟨g0,g1⟩:=hrow;obtain ⟨W,hW,hbW,hA⟩:=Ba.bZ wr r;have dz:=Lh (aj HB.out hbW);clear hbW;unfold Ba.C at hA;obtain ⟨a0,a1⟩:=hA;by_cases he:r.aF=c
   ·
    have q0:=Bl.FE he
    have HF:Hid (Po.val c bs=r.dG):=Lh (by
     unfold Po.val;rw [(Po.look Z7.out HM.out he).1])
    clear he;go_wp2_with fail;go_ret;exact ⟨by rw [HF.out];rfl,aj HW.out dz.out⟩
   ·
    have q0:=Bl.BD he;have HE:=Lh he;clear he;go_wp2_with fail;go_roundw
    case rel =>
     refine ⟨k+1,by omega,by go_num,Lh ?_,dz⟩;rw [HS.out];intro x hx;rcases List.mem_append.1 hx with h | h
     · exact HT.out x h
     ·
      rw [List.mem_singleton.1 h];exact HE.out
    case measure=>simp [intOf];omega
  ·
   obtain rfl:k=n:=by omega
   have HF:Hid (Po.val c bs=0):=Lh (by
    refine Po.yU ?_;cases q:Po.has c bs
    · rfl
    ·
     obtain ⟨x,hx,e⟩:=Po.yg q;exact absurd e (HT.out x (by rw [List.take_of_length_le (by rw [HN.out];exact Nat.le_refl _)];exact hx)))
   go_wp2_with fail;go_ret;exact ⟨by rw [HF.out];rfl,aj HW.out HB.out⟩
theorem wH {e:Nat} {v:Value} {xs:List Value} (h:w.ownsRow B e k v n xs) (hb:∀ g,v.ownBlock=some g->u.heap[g]? =w.heap[g]?):u.ownsRow B e k v n xs:=by
 obtain ⟨h1,h2⟩:=h;refine ⟨h1,?_⟩;rcases h2 with h2 | ⟨g,cap,cur,h',hB,hg,h3⟩
 · exact .inl h2
 · exact .inr ⟨g,cap,cur,h',hB,(hb g (by rw [h'];rfl)).trans hg,h3⟩
structure bI (Q:Nat->Prop) (u v:World):Prop where
 size:u.heap.size<=v.heap.size
 block:∀ b,b < u.heap.size-> ¬ Q b->v.heap[b]? =u.heap[b]?
 below:∀ w0,Below w0.heap.size w0 u->(∀ b,Q b->w0.heap.size<=b)->Below w0.heap.size w0 v
theorem bI.of (h:Below u.heap.size u v):bI Q u v:=⟨h.size,fun b hb _=>h.block b hb,fun _ k _=>aj k h⟩
theorem bI.refl (Q:Nat->Prop) (u:World):bI Q u u:=bI.of (Below.refl _ _)
theorem bI.trans {Q:Nat->Prop} {u v w:World} (h:bI Q u v) (k:bI Q v w):bI Q u w :=
 ⟨Nat.le_trans h.size k.size,fun b hb hq=>(k.block b (Nat.lt_of_lt_of_le hb h.size) hq).trans (h.block b hb hq),fun w0 a c=>k.below w0 (h.below w0 a c) c⟩
theorem bI.mono {R:Nat->Prop} (h:bI Q u v) (k:∀ b,Q b->R b):bI R u v:=⟨h.size,fun b hb hr=>h.block b hb fun q=>hr (k b q),fun w0 a c=>h.below w0 a fun b q=>c b (k b q)⟩
theorem bI.set (u:World) (hg:Q g) (o:Nat) (x:Value):bI Q u (u.setCell ⟨g,o,none⟩ x) :=
 ⟨by simp,fun b _ hq=>heap_setCell_other u ⟨g,o,none⟩ b x (fun e=>hq (by rw [show b=g from e];exact hg)),fun w0 a c=>a.setCell (c g hg) x⟩
theorem bI.ru (h:bI Q u v) (k:Below v.heap.size v w):bI Q u w:=h.trans (bI.of k)
theorem bI.rows {e:Nat} {x:Value} {xs:List Value} (f:bI Q u v) (h:u.ownsRow B e k x n xs) (hQ:∀ g,x.ownBlock=some g-> ¬ Q g):v.ownsRow B e k x n xs :=
 wH h fun g hg=>f.block g (World.ownsRow.lt h g hg).2 (hQ g hg)
def nw (P:Nat->Prop) (w:World) (b:Nat):Prop:=P b\/w.heap.size<=b
theorem Xq (h:u.heap.size<=w.heap.size) (b:Nat) (k:nw (nw P u) w b):nw P u b:=k.elim id fun q=>.inr (Nat.le_trans h q)
structure jN (P:Nat->Prop) (w v:World):Prop where
 cell:∀ b o,P b->b < w.heap.size->v.cell? ⟨b,o,none⟩=w.cell? ⟨b,o,none⟩
 size:w.heap.size<=v.heap.size
theorem jN.of (h:Below w.heap.size w v):jN P w v:=⟨fun b o _ hb=>(aD h).1 b o hb,h.size⟩
theorem jN.trans {P:Nat->Prop} {u v w:World} (h:jN P u v) (k:jN P v w):jN P u w:=⟨fun b o ha hb=>(k.cell b o ha (Nat.lt_of_lt_of_le hb h.size)).trans (h.cell b o ha hb),Nat.le_trans h.size k.size⟩
theorem jN.set (w:World) (hg: ¬ P g) (o:Nat) (x:Value):jN P w (w.setCell ⟨g,o,none⟩ x) :=
 ⟨fun b o' ha _=>World.cell?_setCell_other _ _ _ _ (by intro k;simp only [Addr.mk.injEq] at k;exact hg (k.1▸ha)),by simp⟩
theorem jN.row (w:World) (hg: ¬ P g) (vs:Array Value):jN P w (w.setRow g vs):=by
 refine ⟨fun b o ha hb=>?_,by simp [World.setRow]⟩;have e:(w.setRow g vs).heap[b]? =w.heap[b]? :=setRow_other w g b _ (by intro k;exact hg (k▸ha));unfold World.cell?;simp only [e]
def kQ (P:Nat->Prop) (ao:Option Addr) (n:Nat):Prop:=0 < n->∀ b off,ao=some ⟨b,off,none⟩->P b
theorem kQ.mono (h:kQ P ao n) (k:∀ b,P b->Q b):kQ Q ao n:=fun hn b off e=>k b (h hn b off e)
theorem vF (P:Nat->Prop) (ao:Option Addr):kQ P ao 0:=fun h=>absurd h (Nat.lt_irrefl _)
theorem sJ.nw {A:Nat} {ao:Option Addr} {n:Nat} (h:sJ A ao n) (P:Nat->Prop) {w:World} (k:w.heap.size<=A):kQ (Go.Proofs.YtpfdnemaaeolcaaGreat.nw P w) ao n:=fun hn b off e=>.inr (Nat.le_trans k (h hn b off e))
theorem Sr.Ls.kR {rs:List Sr.T} (h:Sr.Ls w ao n cap rs) (hi:kQ P ao n) (k:jN P w v):Sr.Ls v ao n cap rs:=by
 refine ⟨h.len,h.fits,h.reach,h.nil,?_,h.short⟩;rcases h.seg with e | ⟨b,off,e,hc⟩
 · exact .inl e
 ·
  refine .inr ⟨b,off,e,fun i hr=>?_⟩;have hA:=hi (by rw [h.len];omega) b off e;have hl:=aH (hc i hr).c0;exact ⟨(k.cell b _ hA hl).trans (hc i hr).c0,(k.cell b _ hA hl).trans (hc i hr).c1,(k.cell b _ hA hl).trans (hc i hr).c2,(k.cell b _ hA hl).trans (hc i hr).c3⟩
theorem Ba.Ls.kR {rs:List Ba.T} (h:Ba.Ls w ao n cap rs) (hi:kQ P ao n) (k:jN P w v):Ba.Ls v ao n cap rs:=by
 refine ⟨h.len,h.fits,h.reach,h.nil,?_,h.short⟩;rcases h.seg with e | ⟨b,off,e,hc⟩
 · exact .inl e
 ·
  refine .inr ⟨b,off,e,fun i hr=>?_⟩;have hA:=hi (by rw [h.len];omega) b off e;have hl:=aH (hc i hr).c0;exact ⟨(k.cell b _ hA hl).trans (hc i hr).c0,(k.cell b _ hA hl).trans (hc i hr).c1⟩
theorem Sn.Ls.kR {rs:List Sn.T} (h:Sn.Ls w ao n cap rs) (hi:kQ P ao n) (k:jN P w v):Sn.Ls v ao n cap rs:=by
 refine ⟨h.len,h.fits,h.reach,h.nil,?_,h.short⟩;rcases h.seg with e | ⟨b,off,e,hc⟩
 · exact .inl e
 ·
  refine .inr ⟨b,off,e,fun i hr=>?_⟩;have hA:=hi (by rw [h.len];omega) b off e;have hl:=aH (hc i hr).c0;exact ⟨(k.cell b _ hA hl).trans (hc i hr).c0,(k.cell b _ hA hl).trans (hc i hr).c1,(k.cell b _ hA hl).trans (hc i hr).c2,(k.cell b _ hA hl).trans (hc i hr).c3,(k.cell b _ hA hl).trans (hc i hr).c4⟩
theorem Pt.Ls.kR {rs:List Pt.T} (h:Pt.Ls w ao n cap rs) (hi:kQ P ao n) (k:jN P w v):Pt.Ls v ao n cap rs:=by
 refine ⟨h.len,h.fits,h.reach,h.nil,?_,h.short⟩;rcases h.seg with e | ⟨b,off,e,hc⟩
 · exact .inl e
 ·
  refine .inr ⟨b,off,e,fun i hr=>?_⟩;have hA:=hi (by rw [h.len];omega) b off e;have hl:=aH (hc i hr).c0;exact ⟨(k.cell b _ hA hl).trans (hc i hr).c0,(k.cell b _ hA hl).trans (hc i hr).c1,(k.cell b _ hA hl).trans (hc i hr).c2,(k.cell b _ hA hl).trans (hc i hr).c3⟩
theorem Pd.Ls.kR {rs:List Pd.T} (h:Pd.Ls w ao n cap rs) (hi:kQ P ao n) (k:jN P w v):Pd.Ls v ao n cap rs:=by
 refine ⟨h.len,h.fits,h.reach,h.nil,?_,h.short⟩;rcases h.seg with e | ⟨b,off,e,hc⟩
 · exact .inl e
 ·
  refine .inr ⟨b,off,e,fun i hr=>?_⟩;have hA:=hi (by rw [h.len];omega) b off e;have hl:=aH (hc i hr).c0;exact ⟨(k.cell b _ hA hl).trans (hc i hr).c0,(k.cell b _ hA hl).trans (hc i hr).c1,(k.cell b _ hA hl).trans (hc i hr).c2,(k.cell b _ hA hl).trans (hc i hr).c3,(k.cell b _ hA hl).trans (hc i hr).c4,(k.cell b _ hA hl).trans (hc i hr).c5,(k.cell b _ hA hl).trans (hc i hr).c6,(k.cell b _ hA hl).trans (hc i hr).c7,(k.cell b _ hA hl).trans (hc i hr).c8,(k.cell b _ hA hl).trans (hc i hr).c9,(k.cell b _ hA hl).trans (hc i hr).c10,(k.cell b _ hA hl).trans (hc i hr).c11⟩
theorem om.kR {rs:List Vt.Rt} (h:om w ao n cap rs) (hi:kQ P ao n) (k:jN P w v):om v ao n cap rs:=by
 refine ⟨h.len,h.fits,h.reach,h.nil,?_,h.short⟩;rcases h.seg with e | ⟨b,off,e,hc⟩
 · exact .inl e
 ·
  refine .inr ⟨b,off,e,fun i hr=>?_⟩;have hA:=hi (by rw [h.len];omega) b off e;have hl:=aH (hc i hr).c0;exact ⟨(k.cell b _ hA hl).trans (hc i hr).c0,(k.cell b _ hA hl).trans (hc i hr).c1,(k.cell b _ hA hl).trans (hc i hr).c2,(k.cell b _ hA hl).trans (hc i hr).c3,(k.cell b _ hA hl).trans (hc i hr).c4⟩
theorem Sr.Ls.inp {rs:List Sr.T} (h:Sr.Ls w ao n cap rs):kQ (· < w.heap.size) ao n:=fun hn b off e=>by
 rcases h.seg with z | ⟨b',off',e',hc⟩
 ·
  rw [h.len,z] at hn;exact absurd hn (Nat.lt_irrefl _)
 ·
  rw [e'] at e;cases e
  exact aH (hc 0 (by rw [<- h.len];exact hn)).c0
theorem Ba.Ls.inp {rs:List Ba.T} (h:Ba.Ls w ao n cap rs):kQ (· < w.heap.size) ao n:=fun hn b off e=>by
 rcases h.seg with z | ⟨b',off',e',hc⟩
 ·
  rw [h.len,z] at hn;exact absurd hn (Nat.lt_irrefl _)
 ·
  rw [e'] at e;cases e
  exact aH (hc 0 (by rw [<- h.len];exact hn)).c0
theorem Sn.Ls.inp {rs:List Sn.T} (h:Sn.Ls w ao n cap rs):kQ (· < w.heap.size) ao n:=fun hn b off e=>by
 rcases h.seg with z | ⟨b',off',e',hc⟩
 ·
  rw [h.len,z] at hn;exact absurd hn (Nat.lt_irrefl _)
 ·
  rw [e'] at e;cases e
  exact aH (hc 0 (by rw [<- h.len];exact hn)).c0
theorem Pt.Ls.inp {rs:List Pt.T} (h:Pt.Ls w ao n cap rs):kQ (· < w.heap.size) ao n:=fun hn b off e=>by
 rcases h.seg with z | ⟨b',off',e',hc⟩
 ·
  rw [h.len,z] at hn;exact absurd hn (Nat.lt_irrefl _)
 ·
  rw [e'] at e;cases e
  exact aH (hc 0 (by rw [<- h.len];exact hn)).c0
theorem Pd.Ls.inp {rs:List Pd.T} (h:Pd.Ls w ao n cap rs):kQ (· < w.heap.size) ao n:=fun hn b off e=>by
 rcases h.seg with z | ⟨b',off',e',hc⟩
 ·
  rw [h.len,z] at hn;exact absurd hn (Nat.lt_irrefl _)
 ·
  rw [e'] at e;cases e
  exact aH (hc 0 (by rw [<- h.len];exact hn)).c0
theorem om.inp {rs:List Vt.Rt} (h:om w ao n cap rs):kQ (· < w.heap.size) ao n:=fun hn b off e=>by
 rcases h.seg with z | ⟨b',off',e',hc⟩
 ·
  rw [h.len,z] at hn;exact absurd hn (Nat.lt_irrefl _)
 ·
  rw [e'] at e;cases e
  exact aH (hc 0 (by rw [<- h.len];exact hn)).c0
namespace Bl
structure Lp (P:Nat->Prop) (w:World) (h:Sv) (s:St):Prop where
 tab:om w h.tab.ao h.tab.n h.tab.cap s.tab
 av:Sr.Ls w h.av.ao h.av.n h.av.cap s.av
 post:∃ rs,Pd.Ls w h.post.ao h.post.n h.post.cap rs/\Each w rs s.post/\∀ r∈rs,kQ P r.parts.ao r.parts.n
 book:Ba.Ls w h.book.ao h.book.n h.book.cap s.book
 ak:Sn.Ls w h.ak.ao h.ak.n h.ak.cap s.ak
 next:h.next=s.next
 fit:Fit s.next
 jf:kQ P h.tab.ao h.tab.n
 pY:kQ P h.av.ao h.av.n
 jW:kQ P h.post.ao h.post.n
 jg:kQ P h.book.ao h.book.n
 eY:kQ P h.ak.ao h.ak.n
variable {P Q:Nat->Prop} {w v:World} {h:Sv} {s:St}
theorem Lp.lies (l:Lp P w h s):kW w h s:=by
 obtain ⟨rs,h1,h2,_⟩:=l.post;exact ⟨l.tab,l.av,⟨rs,h1,h2⟩,l.book,l.ak,l.next,l.fit⟩
theorem Lp.mono (l:Lp P w h s) (k:∀ b,P b->Q b):Lp Q w h s:=by
 obtain ⟨rs,h1,h2,h3⟩:=l.post;exact ⟨l.tab,l.av,⟨rs,h1,h2,fun r hr=>(h3 r hr).mono k⟩,l.book,l.ak,l.next,l.fit,l.jf.mono k,l.pY.mono k,l.jW.mono k,l.jg.mono k,l.eY.mono k⟩
theorem Lp.wide (l:Lp P v h s) (w:World):Lp (Go.Proofs.YtpfdnemaaeolcaaGreat.nw P w) v h s:=l.mono fun _ h=>.inl h
theorem kW.lp (l:kW w h s):Lp (· < w.heap.size) w h s:=by
 obtain ⟨rs,h1,h2⟩:=l.post;refine ⟨l.tab,l.av,⟨rs,h1,h2,fun r hr=>?_⟩,l.book,l.ak,l.next,l.fit,l.tab.inp,l.av.inp,h1.inp,l.book.inp,l.ak.inp⟩;obtain ⟨i,hi,rfl⟩:=List.getElem_of_mem hr;exact (h2.each i hi).parts.inp
theorem kQ.both (h:kQ P ao n) (k:kQ Q ao n):kQ (fun b=>P b/\Q b) ao n:=fun hn b off e=>⟨h hn b off e,k hn b off e⟩
theorem Lp.lt (l:Lp P w h s):Lp (fun b=>P b/\b < w.heap.size) w h s:=by
 obtain ⟨rs,h1,h2,h3⟩:=l.post;refine ⟨l.tab,l.av,⟨rs,h1,h2,fun r hr=>?_⟩,l.book,l.ak,l.next,l.fit,kQ.both l.jf l.tab.inp,kQ.both l.pY l.av.inp,kQ.both l.jW h1.inp,kQ.both l.jg l.book.inp,kQ.both l.eY l.ak.inp⟩;refine kQ.both (h3 r hr) ?_;obtain ⟨i,hi,rfl⟩:=List.getElem_of_mem hr;exact (h2.each i hi).parts.inp
theorem AV.kR {r:Pd.T} {p:Ps} (h:AV w r p) (hi:kQ P r.parts.ao r.parts.n) (k:jN P w v):AV v r p :=
 ⟨h.av,h.num,h.y,h.m,h.d,h.net,h.aP,h.au,h.parts.kR hi k,h.bf,h.aY,h.back⟩
theorem Lp.kp (l:Lp P w h s) (k:jN P w v):Lp P v h s:=by
 obtain ⟨rs,h1,h2,h3⟩:=l.post;exact ⟨l.tab.kR l.jf k,l.av.kR l.pY k,⟨rs,h1.kR l.jW k,⟨h2.len,fun i hi=>(h2.each i hi).kR (h3 _ (List.getElem_mem hi)) k⟩,h3⟩,l.book.kR l.jg k,l.ak.kR l.eY k,l.next,l.fit,l.jf,l.pY,l.jW,l.jg,l.eY⟩
theorem Lp.below (l:Lp P w h s) (k:Below w.heap.size w v):Lp P v h s:=l.kp (jN.of k)
theorem Lp.liesA {A:Nat} (l:Lp (fun b=>A<=b) w h s):lJ A w h s:=by
 obtain ⟨rs,h1,h2,h3⟩:=l.post;exact ⟨l.tab,l.av,⟨rs,h1,h2,h3⟩,l.book,l.ak,l.next,l.fit,l.jf,l.pY,l.jW,l.jg,l.eY⟩
end Bl
end Go.Proofs.YtpfdnemaaeolcaaGreat
set_option maxRecDepth 100000
namespace Go.Proofs.YtpfdnemaaeolcaaGreat
open Go.RowKit
open Mem
open Go.Sort (grow)
def Bl.iy:Bl.Sv:=⟨⟨none,0,0⟩,⟨none,0,0⟩,⟨none,0,0⟩,⟨none,0,0⟩,⟨none,0,0⟩,0⟩
def Rp.Bk (u:World) (g:Nat) (r:Rp.T):Prop:=u.heap[g]? =some (.cells #[.int .i64 r.why,.int .i64 r.num,.int .i64 r.au] 43 (0,0))
variable {r:Rp.T}
theorem Rp.Bk.lt (h:Rp.Bk u g r):g < u.heap.size:=by
 obtain ⟨hl,_⟩:=Array.getElem?_eq_some_iff.1 h;exact hl
theorem Rp.Bk.below (h:Rp.Bk u g r) (b:Below u.heap.size u v):Rp.Bk v g r:=(b.block g h.lt).trans h
structure Bl.Fr (w wr:World) (gs gr:Nat):Prop where
 dx:Below w.heap.size w wr
 lo:w.heap.size<=gs
 nxt:gr=gs+1
 st:Bl.At wr gs Bl.iy
 rp:Rp.Bk wr gr ⟨0,0,0⟩
theorem Bl.Fr.below {w wr v:World} {gs gr:Nat} (h:Bl.Fr w wr gs gr) (k:Below wr.heap.size wr v):Bl.Fr w v gs gr:=⟨aj h.dx k,h.lo,h.nxt,h.st.below k,h.rp.below k⟩
theorem Bl.Fr.set {wr:World} {gs gr:Nat} (h:Bl.Fr w wr gs gr) (hl:w.heap.size<=g) (hn:g≠gs/\g≠gr) (o:Nat) (x:Value):Bl.Fr w (wr.setCell ⟨g,o,none⟩ x) gs gr:=by
 refine ⟨bU h.dx hl _ _,h.lo,h.nxt,?_,?_⟩
 ·
  unfold Bl.At;rw [heap_setCell_other wr ⟨g,o,none⟩ gs x (Ne.symm hn.1)];exact h.st
 ·
  unfold Rp.Bk;rw [heap_setCell_other wr ⟨g,o,none⟩ gr x (Ne.symm hn.2)];exact h.rp
theorem Bl.fr3 (w:World) (h:Bl.Sv):∃ U,((w.alloc (.cells #[.slice h.tab.ao h.tab.n h.tab.cap,.slice h.av.ao h.av.n h.av.cap,.slice h.post.ao h.post.n h.post.cap,.slice h.book.ao h.book.n h.book.cap,.slice h.ak.ao h.ak.n h.ak.cap,.int .i64 h.next] 30)).alloc (.cells #[.slice none 0 0,.slice none 0 0,.slice none 0 0,.slice none 0 0,.slice none 0 0,.int .i64 0] 30)).alloc (.cells #[.int .i64 0,.int .i64 0,.int .i64 0] 43)=U/\Bl.At U w.heap.size h/\Bl.Fr w U (w.heap.size+1) (w.heap.size+1+1):=by
 have b1:=Bl.aC w h;have b2:=Bl.aC (Bl.box w h) Bl.iy;have b3:Below (Bl.box (Bl.box w h) Bl.iy).heap.size (Bl.box (Bl.box w h) Bl.iy) ((Bl.box (Bl.box w h) Bl.iy).alloc (.cells #[.int .i64 0,.int .i64 0,.int .i64 0] 43)):=(Below.refl _ _).alloc (Nat.le_refl _) _;refine ⟨_,rfl,((Bl.dY w h).below b2).below b3,⟨aj (aj b1 b2) b3,Nat.le_succ _,rfl,?_,?_⟩⟩
 ·
  have:=(Bl.dY (Bl.box w h) Bl.iy).below b3;rw [Bl.dh] at this;exact this
 ·
  have:=heap_alloc_new (Bl.box (Bl.box w h) Bl.iy) (.cells #[.int .i64 0,.int .i64 0,.int .i64 0] 43);rw [Bl.dh,Bl.dh] at this;exact this
theorem Bl.OV (w:World) (h:Bl.Sv) (o:Obj):∃ U,(((w.alloc (.cells #[.slice h.tab.ao h.tab.n h.tab.cap,.slice h.av.ao h.av.n h.av.cap,.slice h.post.ao h.post.n h.post.cap,.slice h.book.ao h.book.n h.book.cap,.slice h.ak.ao h.ak.n h.ak.cap,.int .i64 h.next] 30)).alloc o).alloc (.cells #[.slice none 0 0,.slice none 0 0,.slice none 0 0,.slice none 0 0,.slice none 0 0,.int .i64 0] 30)).alloc (.cells #[.int .i64 0,.int .i64 0,.int .i64 0] 43)=U/\Bl.At U w.heap.size h/\Bl.Fr w U (w.heap.size+1+1) (w.heap.size+1+1+1)/\U.heap[w.heap.size+1]? =some o:=by
 have b1:=Bl.aC w h;have s1:(Bl.box w h).heap.size=w.heap.size+1:=Bl.dh w h;have b2:Below (Bl.box w h).heap.size (Bl.box w h) ((Bl.box w h).alloc o):=(Below.refl _ _).alloc (Nat.le_refl _) _;have s2:((Bl.box w h).alloc o).heap.size=w.heap.size+1+1:=by rw [<- s1];simp
 obtain ⟨W,hW⟩:∃ W,(Bl.box w h).alloc o=W:=⟨_,rfl⟩;have hO:W.heap[w.heap.size+1]? =some o:=by rw [<- hW,<- s1];exact heap_alloc_new _ _
 rw [hW] at b2 s2;have b3:=Bl.aC W Bl.iy;have s3:(Bl.box W Bl.iy).heap.size=W.heap.size+1:=Bl.dh _ _;have b4:Below (Bl.box W Bl.iy).heap.size (Bl.box W Bl.iy) ((Bl.box W Bl.iy).alloc (.cells #[.int .i64 0,.int .i64 0,.int .i64 0] 43)):=(Below.refl _ _).alloc (Nat.le_refl _) _;refine ⟨_,rfl,?_⟩;change Bl.At ((Bl.box ((Bl.box w h).alloc o) Bl.iy).alloc (.cells #[.int .i64 0,.int .i64 0,.int .i64 0] 43)) w.heap.size h/\Bl.Fr w ((Bl.box ((Bl.box w h).alloc o) Bl.iy).alloc (.cells #[.int .i64 0,.int .i64 0,.int .i64 0] 43)) _ _/\((Bl.box ((Bl.box w h).alloc o) Bl.iy).alloc (.cells #[.int .i64 0,.int .i64 0,.int .i64 0] 43)).heap[w.heap.size+1]? =_;rw [hW];refine ⟨(((Bl.dY w h).below b2).below b3).below b4,⟨aj (aj (aj b1 b2) b3) b4,by omega,rfl,?_,?_⟩,?_⟩
 ·
  have:=(Bl.dY W Bl.iy).below b4;rw [s2] at this;exact this
 ·
  have:=heap_alloc_new (Bl.box W Bl.iy) (.cells #[.int .i64 0,.int .i64 0,.int .i64 0] 43);rw [s3,s2] at this;exact this
 ·
  rw [b4.block _ (by omega),b3.block _ (by omega)];exact hO
theorem Bl.Ua (w:World) (o:Obj):Below w.heap.size w (w.alloc o)/\(w.alloc o).heap[w.heap.size]? =some o/\(w.alloc o).heap.size=w.heap.size+1:=⟨(Below.refl _ _).alloc (Nat.le_refl _) _,heap_alloc_new w o,by simp⟩
theorem Bl.U7 (w:World) (o0 o1:Obj):∃ U,(w.alloc o0).alloc o1=U/\Below w.heap.size w U/\U.heap[w.heap.size]? =some o0/\U.heap[w.heap.size+1]? =some o1/\U.heap.size=w.heap.size+1+1:=by
 obtain ⟨b1,h1,s1⟩:=Bl.Ua w o0;obtain ⟨b2,h2,s2⟩:=Bl.Ua (w.alloc o0) o1;rw [s1] at h2 s2;exact ⟨_,rfl,aj b1 b2,(b2.block _ (by omega)).trans h1,h2,s2⟩
theorem Bl.al3 (w:World) (o0 o1 o2:Obj):∃ U,((w.alloc o0).alloc o1).alloc o2=U/\Below w.heap.size w U/\U.heap[w.heap.size]? =some o0/\U.heap[w.heap.size+1]? =some o1/\U.heap[w.heap.size+1+1]? =some o2/\U.heap.size=w.heap.size+1+1+1:=by
 obtain ⟨V,rfl,b1,h0,h1,s1⟩:=Bl.U7 w o0 o1;obtain ⟨b2,h2,s2⟩:=Bl.Ua ((w.alloc o0).alloc o1) o2;rw [s1] at h2 s2;exact ⟨_,rfl,aj b1 b2,(b2.block _ (by omega)).trans h0,(b2.block _ (by omega)).trans h1,h2,s2⟩
theorem Bl.al4 (w:World) (o0 o1 o2 o3:Obj):∃ U,(((w.alloc o0).alloc o1).alloc o2).alloc o3=U/\Below w.heap.size w U/\U.heap[w.heap.size]? =some o0/\U.heap[w.heap.size+1]? =some o1/\U.heap[w.heap.size+1+1]? =some o2/\U.heap[w.heap.size+1+1+1]? =some o3/\U.heap.size=w.heap.size+1+1+1+1:=by
 obtain ⟨V,rfl,b1,h0,h1,h2,s1⟩:=Bl.al3 w o0 o1 o2;obtain ⟨b2,h3,s2⟩:=Bl.Ua (((w.alloc o0).alloc o1).alloc o2) o3;rw [s1] at h3 s2;exact ⟨_,rfl,aj b1 b2,(b2.block _ (by omega)).trans h0,(b2.block _ (by omega)).trans h1,(b2.block _ (by omega)).trans h2,h3,s2⟩
def Rp.rw' (r:Rp.T):List Value:=[.int .i64 r.why,.int .i64 r.num,.int .i64 r.au]
def Rp.lay (w:World) (g:Nat) (r:Rp.T):World:=w.setRow g (Rp.rw' r).toArray
theorem Rp.vC:(Tryz.prog.info? 43).map (·.size)=some 3:=by kernel_rfl
theorem Rp.wI (r:Rp.T):∀ v∈Rp.rw' r,v.oneCell'=true:=by
 intro v hv;unfold Rp.rw' at hv;simp only [List.mem_cons,List.not_mem_nil,or_false] at hv;rcases hv with rfl | rfl | rfl <;> rfl
theorem Rp.Bk.lay {w:World} {g:Nat} {r0:Rp.T} (hA:Rp.Bk w g r0) (r:Rp.T):Rp.Bk (Rp.lay w g r) g r:=setRow_heap w g _ _ 43 _ hA
theorem Rp.dM {w0:World} (hb:Below B w0 w) (hg:B<=g) (r:Rp.T):Below B w0 (Rp.lay w g r):=below_setRow hb hg _
theorem Rp.aI {Q:Exit->Act->World->Prop} (hA:Rp.Bk w g r) (ho:op.op=.load 43 (.tmp t)) (hgd:op.guard=none)
  (hx:a.tmps.toList[t]? =some (.pointer (some ⟨g,0,none⟩))) (k:wpList Tryz.prog ops Q rest (a.put op.dst (Rp.val r)) w):wpList Tryz.prog ops Q (op::rest) a w :=
 wpList_load_row hgd 43 (.tmp t) ho g (Ca.gY hx) 43 (Rp.rw' r).toArray (0,0) _ hA Tryz.underlying43 rfl (by rw [Rp.vC];rfl) k
theorem Rp.aU {Q:Exit->Act->World->Prop} {s:Tmp} {r0:Rp.T} (hA:Rp.Bk w g r0) (ho:op.op=.store 43 (.tmp t) (.tmp s)) (hgd:op.guard=none)
  (hx:a.tmps.toList[t]? =some (.pointer (some ⟨g,0,none⟩))) (hy:a.tmps.toList[s]? =some (Rp.val r))
  (k:wpList Tryz.prog ops Q rest (a.put op.dst undef) (Rp.lay w g r)):wpList Tryz.prog ops Q (op::rest) a w :=
 wpList_store_row hgd 43 (.tmp t) (.tmp s) ho g (Rp.rw' r).toArray (Ca.gY hx) (Ca.gY hy) 43 (Rp.rw' r0).toArray hA (by rw [Rp.vC];rfl) rfl (all_oneCell_toArray (Rp.wI r)) k
theorem Rp.oU {Q:Exit->Act->World->Prop} {s:Tmp} {old:Array Value} (ho:op.op=.store 43 (.tmp t) (.tmp s)) (hgd:op.guard=none)
  (hx:a.tmps.toList[t]? =some (.pointer (some ⟨g,0,none⟩))) (hg:g=w.heap.size) (hy:a.tmps.toList[s]? =some (Rp.val r)) (hold:old.size=3)
  (k:wpList Tryz.prog ops Q rest (a.put op.dst undef) (w.alloc (.cells (Rp.rw' r).toArray 43))):wpList Tryz.prog ops Q (op::rest) a (w.alloc (.cells old 43)):=by
 subst hg;refine wpList_store_row hgd 43 (.tmp t) (.tmp s) ho w.heap.size (Rp.rw' r).toArray (Ca.gY hx) (Ca.gY hy) 43 old (heap_alloc_new w _) (by rw [Rp.vC];rfl) (by rw [hold];rfl) (all_oneCell_toArray (Rp.wI r)) ?_;rw [Ca.nR];exact k
theorem Bl.QT {q:Tmp} (hf:fn.results=#[.cell p 30,.cell q 43]) {tmps:Array Value} {w:World} {gS gR:Nat} {h:Bl.Sv} {r:Rp.T} (hp:tmps.getD p undef=.pointer (some ⟨gS,0,none⟩)) (hq:tmps.getD q undef=.pointer (some ⟨gR,0,none⟩))
  (hS:Bl.At w gS h) (hR:Rp.Bk w gR r):(results fn tmps).run Tryz.prog w=.ok (.tuple #[h.val,Rp.val r]) w:=by
 have hp':tmps[p]?.getD undef=.pointer (some ⟨gS,0,none⟩):=by simpa using hp
 have hq':tmps[q]?.getD undef=.pointer (some ⟨gR,0,none⟩):=by simpa using hq
 have e1:=run_loadVar_row (P:=Tryz.prog) w gS 30 30 (Bl.rv h).toArray (0,0) _ hS Tryz.underlying30 rfl (by rw [Bl.info];rfl);have e2:=run_loadVar_row (P:=Tryz.prog) w gR 43 43 (Rp.rw' r).toArray (0,0) _ hR Tryz.underlying43 rfl (by rw [Rp.vC];rfl);simp [results,hf,hp',hq',asAddr,e1,e2];exact ⟨rfl,rfl⟩
theorem Bl.kZ (hf:fn.results=#[.cell p 30]) {tmps:Array Value} {w:World} {gS:Nat} {h:Bl.Sv} (hp:tmps.getD p undef=.pointer (some ⟨gS,0,none⟩)) (hS:Bl.At w gS h):(results fn tmps).run Tryz.prog w=.ok h.val w :=
 results_cell_row hf tmps w gS 30 (Bl.rv h).toArray (0,0) _ hp hS Tryz.underlying30 rfl (by rw [Bl.info];rfl)
theorem Rp.kZ (hf:fn.results=#[.cell p 43]) {tmps:Array Value} {w:World} {g:Nat} {r:Rp.T} (hp:tmps.getD p undef=.pointer (some ⟨g,0,none⟩)) (hS:Rp.Bk w g r):(results fn tmps).run Tryz.prog w=.ok (Rp.val r) w :=
 results_cell_row hf tmps w g 43 (Rp.rw' r).toArray (0,0) _ hp hS Tryz.underlying43 rfl (by rw [Rp.vC];rfl)
theorem Bl.At.away {h:Bl.Sv} (a:Bl.At u g h) {b:Nat} (hne:g≠b) (o:Nat) (x:Value):Bl.At (u.setCell ⟨b,o,none⟩ x) g h:=by
 unfold Bl.At;rw [heap_setCell_other u ⟨b,o,none⟩ g x hne];exact a
theorem Rp.Bk.away (a:Rp.Bk u g r) {b:Nat} (hne:g≠b) (o:Nat) (x:Value):Rp.Bk (u.setCell ⟨b,o,none⟩ x) g r:=by
 unfold Rp.Bk;rw [heap_setCell_other u ⟨b,o,none⟩ g x hne];exact a
theorem Bl.At.other {h:Bl.Sv} (hA:Bl.At w g h) (hne:g≠b) (vs:Array Value):Bl.At (w.setRow b vs) g h:=(setRow_other w b g vs hne).trans hA
theorem Rp.Bk.other (hA:Rp.Bk w g r) (hne:g≠b) (vs:Array Value):Rp.Bk (w.setRow b vs) g r:=(setRow_other w b g vs hne).trans hA
theorem Bl.Fr.MZ {wr:World} {gS gR:Nat} (f:Bl.Fr w wr gS gR) (h:Bl.Sv):Rp.Bk (Bl.lay wr gS h) gR ⟨0,0,0⟩:=f.rp.other (by have:=f.nxt;omega) _
def Bl.fA (w:World) (gS gR:Nat) (h:Bl.Sv) (r:Rp.T):World:=Rp.lay (Bl.lay w gS h) gR r
theorem Bl.yx {A gS gR:Nat} (w:World) (h1:gS < A) (h2:gR < A) (h:Bl.Sv) (r:Rp.T):Kp A w (Bl.fA w gS gR h r):=by
 refine (Bl.Dv w h1 h).trans ⟨fun b o ha hb=>?_,by simp [Bl.fA,Rp.lay,World.setRow]⟩;have e:(Rp.lay (Bl.lay w gS h) gR r).heap[b]? =(Bl.lay w gS h).heap[b]? :=setRow_other _ gR b _ (by omega);unfold Bl.fA World.cell?;simp only [e]
theorem Bl.Fr.fA {w wr:World} {gS gR:Nat} (f:Bl.Fr w wr gS gR) (h:Bl.Sv) (r:Rp.T):Below w.heap.size w (Bl.fA wr gS gR h r)/\Bl.At (Bl.fA wr gS gR h r) gS h/\Rp.Bk (Bl.fA wr gS gR h r) gR r:=by
 have hl:=f.lo;have hn:=f.nxt;exact ⟨Rp.dM (Bl.dM f.dx hl h) (by omega) r,(f.st.lay h).other (by omega) _,(f.rp.other (by omega) _).lay r⟩
theorem Bl.Fr.ret {w wr:World} {gS gR:Nat} (f:Bl.Fr w wr gS gR) {fn:Func} {p q:Tmp} (hf:fn.results=#[.cell p 30,.cell q 43]) {a:Act} {R:Ending->World->Prop} (h:Bl.Sv) (r:Rp.T)
  (hp:a.tmps.getD p undef=.pointer (some ⟨gS,0,none⟩)) (hq:a.tmps.getD q undef=.pointer (some ⟨gR,0,none⟩)) (hd:a.defers=[]) (k:Below w.heap.size w (Bl.fA wr gS gR h r)->R (.returned (.tuple #[h.val,Rp.val r])) (Bl.fA wr gS gR h r)) :
  bodyPost Tryz.prog fn R .ret a (Bl.fA wr gS gR h r):=by
 obtain ⟨h1,h2,h3⟩:=f.fA h r;exact bodyPost_ret (Bl.QT hf hp hq h2 h3) hd (k h1)
theorem Bl.Lp.fA {P:Nat->Prop} {w u v:World} {gS gR:Nat} {h h':Bl.Sv} {s':Bl.St} {r:Rp.T} (l:Bl.Lp (nw P u) v h' s') (hP:∀ b,P b->b < w.heap.size) (h1:w.heap.size<=gS) (h2:gS < u.heap.size) (h3:w.heap.size<=gR) (h4:gR < u.heap.size):Bl.Lp (nw P w) (Bl.fA v gS gR h r) h' s':=by
 have n1: ¬ nw P u gS:=fun q=>q.elim (fun z=>by have:=hP _ z;omega) (fun z=>by omega)
 have n2: ¬ nw P u gR:=fun q=>q.elim (fun z=>by have:=hP _ z;omega) (fun z=>by omega)
 have hk:jN (nw P u) v (Bl.fA v gS gR h r):=(jN.row v n1 _).trans (jN.row _ n2 _);exact (l.kp hk).mono fun b q=>q.elim .inl fun z=>.inr (by omega)
section
variable {ops:Array Oper} {o:Oper} {a:Act} {w:World} {K:Act->World->Prop} {Q:Exit->Act->World->Prop} {E:Prop} {S:World->Prop}
theorem Bl.iJ {v:Value} (hgd:o.guard=none) (ho:o.op=.move (.tmp t)) (hp:a.tmps.toList[t]? =some v):YieldsIf Tryz.prog ops S o v a:=by
 refine .inl ⟨by simp [Region.wanted,hgd],fun u _=>?_⟩;simp only [execOp,ho,Ca.gY hp];simp [go_sem]
theorem Bl.iq {h:Bl.Sv} (hgd:o.guard=none) (ho:o.op=.load 30 (.tmp t)) (hp:a.tmps.toList[t]? =some (.pointer (some ⟨g,0,none⟩))) (hS:∀ u,S u->Bl.At u g h):YieldsIf Tryz.prog ops S o h.val a:=by
 refine .inl ⟨by simp [Region.wanted,hgd],fun u hu=>?_⟩;have e:=Bl.run_load (hS u hu);simp only [execOp,ho,Ca.gY hp,Sem.run_bind,e,Result.andThen_ok];rfl
theorem Rp.iq {r:Rp.T} (hgd:o.guard=none) (ho:o.op=.load 43 (.tmp t)) (hp:a.tmps.toList[t]? =some (.pointer (some ⟨g,0,none⟩))) (hS:∀ u,S u->Rp.Bk u g r):YieldsIf Tryz.prog ops S o (Rp.val r) a:=by
 refine .inl ⟨by simp [Region.wanted,hgd],fun u hu=>?_⟩;have e:=run_loadVar_row (P:=Tryz.prog) u g 43 43 (Rp.rw' r).toArray (0,0) _ (hS u hu) Tryz.underlying43 rfl (by rw [Rp.vC];rfl);simp only [execOp,ho,Ca.gY hp,Instr.loadAt,Instr.sureAddr,Sem.run_bind,Sem.run_pure,Result.andThen_ok,e];rfl
theorem Bl.dJ {x y:Tmp} {h0 h:Bl.Sv} (hgd:o.guard=none) (ho:o.op=.store 30 (.tmp x) (.tmp y)) (hd:o.dst=none) (hx:a.tmps.toList[x]? =some (.pointer (some ⟨g,0,none⟩))) (hy:a.tmps.toList[y]? =some h.val) (hA:Bl.At w g h0)
  (k:K a (Bl.lay w g h)):if Region.wanted o (yielded ops a.tmps)=true then Oper.wp Tryz.prog o a w K Q else E:=by
 have hw:Region.wanted o (yielded ops a.tmps)=true:=by simp [Region.wanted,hgd]
 rw [if_pos hw];refine wp_store_row 30 (.tmp x) (.tmp y) ho g (Bl.rv h).toArray (Ca.gY hx) (Ca.gY hy) 30 (Bl.rv h0).toArray hA (by rw [Bl.info];rfl) rfl (all_oneCell_toArray (Bl.wF h)) ?_;rw [hd];exact k
theorem Rp.dJ {x y:Tmp} {r0 r:Rp.T} (hgd:o.guard=none) (ho:o.op=.store 43 (.tmp x) (.tmp y)) (hd:o.dst=none) (hx:a.tmps.toList[x]? =some (.pointer (some ⟨g,0,none⟩))) (hy:a.tmps.toList[y]? =some (Rp.val r)) (hA:Rp.Bk w g r0)
  (k:K a (Rp.lay w g r)):if Region.wanted o (yielded ops a.tmps)=true then Oper.wp Tryz.prog o a w K Q else E:=by
 have hw:Region.wanted o (yielded ops a.tmps)=true:=by simp [Region.wanted,hgd]
 rw [if_pos hw];refine wp_store_row 43 (.tmp x) (.tmp y) ho g (Rp.rw' r).toArray (Ca.gY hx) (Ca.gY hy) 43 (Rp.rw' r0).toArray hA (by rw [Rp.vC];rfl) rfl (all_oneCell_toArray (Rp.wI r)) ?_;rw [hd];exact k
theorem Bl.fB {f:FuncId} {args:Array Value} (hgd:o.guard=none) (hrun:(execOp a.eval o).run Tryz.prog w=.ok (.enter f args) w) (k:Calls Tryz.prog f args w fun e w'=>∃ v,e=.returned v/\K (a.put o.dst v) w') :
  if Region.wanted o (yielded ops a.tmps)=true then Oper.wp Tryz.prog o a w K Q else E:=by
 have hw:Region.wanted o (yielded ops a.tmps)=true:=by simp [Region.wanted,hgd]
 rw [if_pos hw];unfold Oper.wp;rw [hrun,Oper.upon_enter];refine k.mono fun e w' hh=>?_
 obtain ⟨v,rfl,hk⟩:=hh;exact hk
end
theorem Bl.enters {f : FuncId} {c : Code} {o: Oper} {xs : Array Operand} {ty : Array TypeId} {vs: Array Value} (ho : o.op = .call { callee := .value (.func f), args := xs, argTypes := ty }) (hx : xs.map a.eval = vs) (hf : Tryz.prog.funcs[f]? = some fn) (hname : (fn.name == "runtime.NumGoroutine") = false) (hb : fn.body = some c) (u : World) :
  (execOp a.eval o).run Tryz.prog u=.ok (.enter f vs) u:=by
 have h1 : fn.name ≠ "runtime.NumGoroutine" := by simpa using hname
 simp only [execOp,ho];simp [resolve,invoke,callFunc,hf,h1,hb,hx,go_sem]
def Bl.tk (ops:Array Oper) (l:List Bool) (i:Nat):Bool:=Region.free .any ops l.toArray i&&(Region.ready .any ops l.toArray).contains i
theorem Bl.aO {Q:Exit->Act->World->Prop} {S:World->Prop} {i:Nat} {oi:Oper} {v:Value} {fuel:Nat} {l:List Bool} (hi:ops[i]? =some oi) (hs:Region.noSelect ops=true) (ht:Bl.tk ops l i=true)
  (hQ:∀ c a w,Q (.panic c) (Act.put a oi.dst v) w->Q (.panic c) a w) (hy:YieldsIf Tryz.prog ops S oi v a) (hS:S w)
  (h:wpAnyH Tryz.prog .any ops Q S fuel (l.set i true).toArray (a.put oi.dst v) w):wpAnyH Tryz.prog .any ops Q S (fuel+1) l.toArray a w:=by
 unfold Bl.tk at ht;rw [Bool.and_eq_true] at ht;refine wpAnyH_take hi hs ht.1 ht.2 hQ hy hS ?_;simpa using h
theorem Bl.eu {Q:Exit->Act->World->Prop} {S:World->Prop} {i:Nat} {oi:Oper} {fuel:Nat} {l:List Bool} (hi:ops[i]? =some oi) (hr:Region.ready .any ops l.toArray=[i])
  (h:∀ K':Act->World->Prop,Shut (∀ a w,S w->(S w->wpAnyH Tryz.prog .any ops Q S fuel (l.set i true).toArray a w)->K' a w)->if Region.wanted oi (yielded ops a.tmps)=true then Oper.wp Tryz.prog oi a w K' Q else K' (a.put oi.dst undef) w) :
  wpAnyH Tryz.prog .any ops Q S (fuel+1) l.toArray a w:=by
 refine wpAnyH_ready (rs:=[i]) hr (by simp) (AllReadyH.cons hi (fun K' hK=>h K' ?_) AllReadyH.nil);intro a w hS hW;exact hK.out a w hS fun hS=>by simpa using hW hS
section
variable {id:Nat} {o0 o1 o2 o3 o4:Oper} {a:Act} {w:World} {Q:Exit->Act->World->Prop}
def Bl.chk5 (ops:Array Oper):Bool:=Region.noSelect ops&&Bl.tk ops [false,false,false,false,false] 0&&Bl.tk ops [true,false,false,false,false] 1&&(Region.ready .any ops #[true,true,false,false,false]==[2])&&(Region.ready .any ops #[true,true,true,false,false]==[3])&&(Region.ready .any ops #[true,true,true,true,false]==[4])&&(Region.ready .any ops #[true,true,true,true,true]==[])
theorem Bl.jI (g gS gR:Nat) (h h0:Bl.Sv) (r0:Rp.T) (n:Int) {x0 x1 x3 x4 y3 y4:Tmp} (hA:Bl.At w g h) (hS:Bl.At w gS h0) (hR:Rp.Bk w gR r0) (hn:gS≠gR/\g≠gS/\g≠gR)
  (ho0:o0.op=.load 30 (.tmp x0)) (hg0:o0.guard=none) (ho1:o1.op=.move (.tmp x1)) (hg1:o1.guard=none) {x2:Operand} {ty:Array TypeId} (ho2:o2.op=.call { callee:=.value (.func 16),args:=#[x2],argTypes:=ty }) (hg2:o2.guard=none)
  (ho3:o3.op=.store 30 (.tmp x3) (.tmp y3)) (hg3:o3.guard=none) (hd3:o3.dst=none) (U8:o4.op=.store 43 (.tmp x4) (.tmp y4)) (hg4:o4.guard=none) (hd4:o4.dst=none)
  (hc:Bl.chk5 #[o0,o1,o2,o3,o4]=true) (hQ0:∀ c a w,Q (.panic c) (Act.put a o0.dst h.val) w->Q (.panic c) a w) (hQ1:∀ c a w,Q (.panic c) (Act.put a o1.dst (.int .i64 n)) w->Q (.panic c) a w)
  (e0:a.tmps.toList[x0]? =some (.pointer (some ⟨g,0,none⟩))) (e1:(a.put o0.dst h.val).tmps.toList[x1]? =some (.int .i64 n))
  (e2:((a.put o0.dst h.val).put o1.dst (.int .i64 n)).eval x2=.int .i64 n)
  (e3:(((a.put o0.dst h.val).put o1.dst (.int .i64 n)).put o2.dst (Rp.val ⟨n,0,0⟩)).tmps.toList[x3]? =some (.pointer (some ⟨gS,0,none⟩)))
  (f3:(((a.put o0.dst h.val).put o1.dst (.int .i64 n)).put o2.dst (Rp.val ⟨n,0,0⟩)).tmps.toList[y3]? =some h.val)
  (e4:(((a.put o0.dst h.val).put o1.dst (.int .i64 n)).put o2.dst (Rp.val ⟨n,0,0⟩)).tmps.toList[x4]? =some (.pointer (some ⟨gR,0,none⟩)))
  (f4:(((a.put o0.dst h.val).put o1.dst (.int .i64 n)).put o2.dst (Rp.val ⟨n,0,0⟩)).tmps.toList[y4]? =some (Rp.val ⟨n,0,0⟩))
  (k:∀ w',Below w.heap.size w w'->Q .normal (((a.put o0.dst h.val).put o1.dst (.int .i64 n)).put o2.dst (Rp.val ⟨n,0,0⟩)) (Bl.fA w' gS gR h ⟨n,0,0⟩)) :
  (Code.region id #[o0,o1,o2,o3,o4] true).wp Tryz.prog Q a w:=by
 unfold Bl.chk5 at hc;simp only [Bool.and_eq_true,beq_iff_eq] at hc;obtain ⟨⟨⟨⟨⟨⟨c0,c1⟩,c2⟩,c3⟩,c4⟩,c5⟩,c6⟩:=hc;refine wp_region_held_drew (S:=fun u=>Bl.At u g h) (by kernel_rfl) hA (fun hH=>?_);show wpAnyH Tryz.prog .any #[o0,o1,o2,o3,o4] Q _ 5 [false,false,false,false,false].toArray a w.drew;refine Bl.aO (i:=0) (oi:=o0) rfl c0 c1 hQ0 (Bl.iq hg0 ho0 e0 fun u hu=>hu) hH ?_;refine Bl.aO (i:=1) (oi:=o1) rfl c0 c2 hQ1 (Bl.iJ hg1 ho1 e1) hH ?_;refine Bl.eu (i:=2) (oi:=o2) rfl c3 (fun K hK=>?_);refine Bl.fB hg2 (Bl.enters ho2 (by simp [e2]) Tryz.func16 (by kernel_rfl) rfl _) ((qZ n w w.drew (Below.refl _ _).drew).mono ?_);rintro e w' ⟨rfl,b⟩;refine ⟨_,rfl,hK.out _ _ (hA.below b) fun hH'=>?_⟩;clear hK K;refine Bl.eu (i:=3) (oi:=o3) rfl c4 (fun K hK=>?_);refine Bl.dJ hg3 ho3 hd3 e3 f3 (hS.below b) (hK.out _ _ (hH'.other hn.2.1 _) fun hH2=>?_);clear hK K;refine Bl.eu (i:=4) (oi:=o4) rfl c5 (fun K hK=>?_);refine Rp.dJ hg4 U8 hd4 e4 f4 ((hR.below b).other (Ne.symm hn.1) _) (hK.out _ _ (hH2.other hn.2.2 _) fun hH3=>?_);clear hK K;exact wpAnyH_done c6 (k w' b) _
def Bl.chk4 (ops:Array Oper):Bool:=Region.noSelect ops&&Bl.tk ops [false,false,false,false] 0&&(Region.ready .any ops #[true,false,false,false]==[1])&&(Region.ready .any ops #[true,true,false,false]==[2])&&(Region.ready .any ops #[true,true,true,false]==[3])&&(Region.ready .any ops #[true,true,true,true]==[])
theorem Bl.mg (g gS gR:Nat) (h h0:Bl.Sv) (r0:Rp.T) (n:Int) {x0 x3 x4 y3 y4:Tmp} (hA:Bl.At w g h) (hS:Bl.At w gS h0) (hR:Rp.Bk w gR r0) (hn:gS≠gR/\g≠gS/\g≠gR)
  (ho0:o0.op=.load 30 (.tmp x0)) (hg0:o0.guard=none) {x2:Operand} {ty:Array TypeId} (ho2:o2.op=.call { callee:=.value (.func 16),args:=#[x2],argTypes:=ty }) (hg2:o2.guard=none)
  (ho3:o3.op=.store 30 (.tmp x3) (.tmp y3)) (hg3:o3.guard=none) (hd3:o3.dst=none) (U8:o4.op=.store 43 (.tmp x4) (.tmp y4)) (hg4:o4.guard=none) (hd4:o4.dst=none)
  (hc:Bl.chk4 #[o0,o2,o3,o4]=true) (hQ0:∀ c a w,Q (.panic c) (Act.put a o0.dst h.val) w->Q (.panic c) a w)
  (e0:a.tmps.toList[x0]? =some (.pointer (some ⟨g,0,none⟩)))
  (e2:(a.put o0.dst h.val).eval x2=.int .i64 n)
  (e3:((a.put o0.dst h.val).put o2.dst (Rp.val ⟨n,0,0⟩)).tmps.toList[x3]? =some (.pointer (some ⟨gS,0,none⟩)))
  (f3:((a.put o0.dst h.val).put o2.dst (Rp.val ⟨n,0,0⟩)).tmps.toList[y3]? =some h.val)
  (e4:((a.put o0.dst h.val).put o2.dst (Rp.val ⟨n,0,0⟩)).tmps.toList[x4]? =some (.pointer (some ⟨gR,0,none⟩)))
  (f4:((a.put o0.dst h.val).put o2.dst (Rp.val ⟨n,0,0⟩)).tmps.toList[y4]? =some (Rp.val ⟨n,0,0⟩))
  (k:∀ w',Below w.heap.size w w'->Q .normal ((a.put o0.dst h.val).put o2.dst (Rp.val ⟨n,0,0⟩)) (Bl.fA w' gS gR h ⟨n,0,0⟩)) :
  (Code.region id #[o0,o2,o3,o4] true).wp Tryz.prog Q a w:=by
 unfold Bl.chk4 at hc;simp only [Bool.and_eq_true,beq_iff_eq] at hc;obtain ⟨⟨⟨⟨⟨c0,c1⟩,c3⟩,c4⟩,c5⟩,c6⟩:=hc;refine wp_region_held_drew (S:=fun u=>Bl.At u g h) (by kernel_rfl) hA (fun hH=>?_);show wpAnyH Tryz.prog .any #[o0,o2,o3,o4] Q _ 4 [false,false,false,false].toArray a w.drew;refine Bl.aO (i:=0) (oi:=o0) rfl c0 c1 hQ0 (Bl.iq hg0 ho0 e0 fun u hu=>hu) hH ?_;refine Bl.eu (i:=1) (oi:=o2) rfl c3 (fun K hK=>?_);refine Bl.fB hg2 (Bl.enters ho2 (by simp [e2]) Tryz.func16 (by kernel_rfl) rfl _) ((qZ n w w.drew (Below.refl _ _).drew).mono ?_);rintro e w' ⟨rfl,b⟩;refine ⟨_,rfl,hK.out _ _ (hA.below b) fun hH'=>?_⟩;clear hK K;refine Bl.eu (i:=2) (oi:=o3) rfl c4 (fun K hK=>?_);refine Bl.dJ hg3 ho3 hd3 e3 f3 (hS.below b) (hK.out _ _ (hH'.other hn.2.1 _) fun hH2=>?_);clear hK K;refine Bl.eu (i:=3) (oi:=o4) rfl c5 (fun K hK=>?_);refine Rp.dJ hg4 U8 hd4 e4 f4 ((hR.below b).other (Ne.symm hn.1) _) (hK.out _ _ (hH2.other hn.2.2 _) fun hH3=>?_);clear hK K;exact wpAnyH_done c6 (k w' b) _
def Bl.chkP (ops:Array Oper):Bool:=Region.noSelect ops&&Bl.tk ops [false,false,false,false] 0&&Bl.tk ops [true,false,false,false] 1&&(Region.ready .any ops #[true,true,false,false]==[2])&&(Region.ready .any ops #[true,true,true,false]==[3])&&(Region.ready .any ops #[true,true,true,true]==[])
theorem Bl.yA (g gr gS gR:Nat) (h h0:Bl.Sv) (r r0:Rp.T) {x0 x1 x3 x4 y3 y4:Tmp} (hA:Bl.At w g h) (hB:Rp.Bk w gr r) (hS:Bl.At w gS h0) (hR:Rp.Bk w gR r0) (hn:gS≠gR/\g≠gS/\g≠gR/\gr≠gS/\gr≠gR)
  (ho0:o0.op=.load 30 (.tmp x0)) (hg0:o0.guard=none) (ho1:o1.op=.load 43 (.tmp x1)) (hg1:o1.guard=none)
  (ho3:o3.op=.store 30 (.tmp x3) (.tmp y3)) (hg3:o3.guard=none) (hd3:o3.dst=none) (U8:o4.op=.store 43 (.tmp x4) (.tmp y4)) (hg4:o4.guard=none) (hd4:o4.dst=none)
  (hc:Bl.chkP #[o0,o1,o3,o4]=true) (hQ0:∀ c a w,Q (.panic c) (Act.put a o0.dst h.val) w->Q (.panic c) a w) (hQ1:∀ c a w,Q (.panic c) (Act.put a o1.dst (Rp.val r)) w->Q (.panic c) a w)
  (e0:a.tmps.toList[x0]? =some (.pointer (some ⟨g,0,none⟩))) (e1:(a.put o0.dst h.val).tmps.toList[x1]? =some (.pointer (some ⟨gr,0,none⟩)))
  (e3:((a.put o0.dst h.val).put o1.dst (Rp.val r)).tmps.toList[x3]? =some (.pointer (some ⟨gS,0,none⟩)))
  (f3:((a.put o0.dst h.val).put o1.dst (Rp.val r)).tmps.toList[y3]? =some h.val)
  (e4:((a.put o0.dst h.val).put o1.dst (Rp.val r)).tmps.toList[x4]? =some (.pointer (some ⟨gR,0,none⟩)))
  (f4:((a.put o0.dst h.val).put o1.dst (Rp.val r)).tmps.toList[y4]? =some (Rp.val r))
  (k:Q .normal ((a.put o0.dst h.val).put o1.dst (Rp.val r)) (Bl.fA w.drew gS gR h r)) :
  (Code.region id #[o0,o1,o3,o4] true).wp Tryz.prog Q a w:=by
 unfold Bl.chkP at hc;simp only [Bool.and_eq_true,beq_iff_eq] at hc;obtain ⟨⟨⟨⟨⟨c0,c1⟩,c2⟩,c4⟩,c5⟩,c6⟩:=hc;refine wp_region_held_drew (S:=fun u=>Bl.At u g h/\Rp.Bk u gr r) (by kernel_rfl) ⟨hA,hB⟩ (fun hH=>?_);show wpAnyH Tryz.prog .any #[o0,o1,o3,o4] Q _ 4 [false,false,false,false].toArray a w.drew;refine Bl.aO (i:=0) (oi:=o0) rfl c0 c1 hQ0 (Bl.iq hg0 ho0 e0 fun u hu=>hu.1) hH ?_;refine Bl.aO (i:=1) (oi:=o1) rfl c0 c2 hQ1 (Rp.iq hg1 ho1 e1 fun u hu=>hu.2) hH ?_;refine Bl.eu (i:=2) (oi:=o3) rfl c4 (fun K hK=>?_);refine Bl.dJ hg3 ho3 hd3 e3 f3 hS (hK.out _ _ ⟨hH.1.other hn.2.1 _,hH.2.other hn.2.2.2.1 _⟩ fun hH2=>?_);clear hK K;refine Bl.eu (i:=3) (oi:=o4) rfl c5 (fun K hK=>?_);refine Rp.dJ hg4 U8 hd4 e4 f4 (Rp.Bk.other (w:=w.drew) hR (Ne.symm hn.1) _) (hK.out _ _ ⟨hH2.1.other hn.2.2.1 _,hH2.2.other hn.2.2.2.2 _⟩ fun hH3=>?_);clear hK K;exact wpAnyH_done c6 k _
end
open Mem Pk Cm
theorem By.Ls.updN {w':World} {p:Nat} {rs:List UInt8} (h:By.Ls w ao n cap rs) (k:gF w p w') (hp:0 < n->∀ b off,ao=some ⟨b,off,none⟩->b≠p):By.Ls w' ao n cap rs:=by
 by_cases h0:0 < n
 · exact h.upd k (hp h0)
 ·
  have e:rs=[]:=List.length_eq_zero_iff.1 (by rw [<- h.len];omega);exact ⟨h.len,h.fits,h.reach,h.nil,.inl e⟩
structure Off (p q n:Nat) (ao:Option Addr):Prop where
 ne:q≠p
 bytes:0 < n->∀ b off,ao=some ⟨b,off,none⟩->b≠q
theorem Rd.off {w:World} {p:Nat} {ao:Option Addr} {n cap:Nat} {bs:List UInt8} {s:St} (h:Rd w p ao n cap bs s) {q:Nat} (hq:w.heap.size<=q):Off p q n ao:=by
 have hl:=aH h.c0;refine ⟨by omega,fun h0 b off e=>?_⟩;subst e;have:=aH (h.ls.row 0 (by rw [<- h.ls.len];exact h0));omega
theorem Rd.other {p q o:Nat} {bs:List UInt8} {s:St} (h:Rd u p ao n cap bs s) (k:Off p q n ao) (x:Value):Rd (u.setCell ⟨q,o,none⟩ x) p ao n cap bs s:=by
 have U:gF u q (u.setCell ⟨q,o,none⟩ x):=gF.set x;have hl:=aH h.c0;have hp:p≠q:=fun e=>k.ne e.symm
 exact ⟨by rw [U.cell _ _ hl hp];exact h.c0,by rw [U.cell _ _ hl hp];exact h.c1,by rw [U.cell _ _ hl hp];exact h.c2,fun o=>by rw [U.frozen _ _ hl];exact h.fz o,h.ls.updN U k.bytes,h.apart,h.place⟩
structure D3 (u:World) (b:Nat) (y m d:Int):Prop where
 c0:u.cell? ⟨b,0,none⟩=some (.int .i64 y)
 c1:u.cell? ⟨b,1,none⟩=some (.int .i64 m)
 c2:u.cell? ⟨b,2,none⟩=some (.int .i64 d)
 fz:∀ o,u.frozen? ⟨b,o,none⟩=false
theorem D3.upd {p:Nat} (h:D3 u b y m d) (k:gF u p v) (hp:b≠p):D3 v b y m d:=by
 have hl:=aH h.c0;exact ⟨by rw [k.cell _ _ hl hp];exact h.c0,by rw [k.cell _ _ hl hp];exact h.c1,by rw [k.cell _ _ hl hp];exact h.c2,fun o=>by rw [k.frozen _ _ hl];exact h.fz o⟩
theorem D3.s0 (h:D3 u b y m d) (x:Int):D3 (u.setCell ⟨b,0,none⟩ (.int .i64 x)) b x m d :=
 ⟨by simp [go_sem,h.c0],by simp [go_sem,h.c1],by simp [go_sem,h.c2],fun o=>by simp [go_sem,h.fz]⟩
theorem D3.s1 (h:D3 u b y m d) (x:Int):D3 (u.setCell ⟨b,1,none⟩ (.int .i64 x)) b y x d :=
 ⟨by simp [go_sem,h.c0],by simp [go_sem,h.c1],by simp [go_sem,h.c2],fun o=>by simp [go_sem,h.fz]⟩
theorem rz (p:Nat) (ao:Option Addr) (n cap:Nat) (bs:List UInt8) (s:St) (w:World) (hR:Rd w p ao n cap bs s) :
  Calls Tryz.prog 96 #[.pointer (some ⟨p,0,none⟩)] w fun e w'=>e=.returned (.string (fC bs 64 s).1)/\Rd w' p ao n cap bs (fC bs 64 s).2/\gF w p w':=by
 have HR:=Lh hR;clear hR;go_enter Tryz.func96,Tryz.ntmps96;go_wp2_with fail;refine (Uk p ao n cap bs 64 s w HR.out).mono ?_;rintro e w1 ⟨rfl,lD,uT⟩;have HR1:=Lh lD;have mQ:=Lh uT;clear lD uT;go_wp2_with fail;go_ret;exact ⟨rfl,HR1.out,mQ.out⟩
theorem KU (p:Nat) (ao:Option Addr) (n cap:Nat) (bs:List UInt8) (s:St) (w:World) (hR:Rd w p ao n cap bs s) :
  Calls Tryz.prog 97 #[.pointer (some ⟨p,0,none⟩)] w fun e w'=>e=.returned (.agg #[.int .i64 (qo bs s).1.1,.int .i64 (qo bs s).1.2.1,.int .i64 (qo bs s).1.2.2])/\Rd w' p ao n cap bs (qo bs s).2/\gF w p w':=by
 have hlt:=aH hR.c0;have I6:=Lh (hR.off (Nat.le_refl _));have lY:=Lh (hR.off (Nat.le_succ _));have hb0:Below w.heap.size w ((w.alloc (.cells #[.int .i64 0,.int .i64 0,.int .i64 0] 50)).alloc (.cells #[.int .i64 0,.int .i64 0,.int .i64 0] 50)):=aL (aL (Below.refl _ _) _) _;have HB0:=Lh hb0;have HR:=Lh (hR.below hb0);have HA:Hid (D3 ((w.alloc (.cells #[.int .i64 0,.int .i64 0,.int .i64 0] 50)).alloc (.cells #[.int .i64 0,.int .i64 0,.int .i64 0] 50)) w.heap.size 0 0 0):=Lh ⟨by simp [go_sem],by simp [go_sem],by simp [go_sem],fun o=>by simp [go_sem]⟩;have HD:Hid (D3 ((w.alloc (.cells #[.int .i64 0,.int .i64 0,.int .i64 0] 50)).alloc (.cells #[.int .i64 0,.int .i64 0,.int .i64 0] 50)) (w.heap.size+1) 0 0 0):=Lh ⟨by simp [go_sem],by simp [go_sem],by simp [go_sem],fun o=>by simp [go_sem]⟩;have hnp:w.heap.size≠p:=by omega
 have Dz:w.heap.size+1≠p:=by omega
 have hn01:w.heap.size≠w.heap.size+1:=by omega
 clear hR hb0;go_enter Tryz.func97,Tryz.ntmps97;go_wp2_with fail;refine (iW p ao n cap bs s _ HR.out).mono ?_;rintro e w1 ⟨rfl,lD,uT⟩;obtain ⟨v1,s1,hv1⟩:∃ v1 s1,bH bs s=(v1,s1):=⟨_,_,rfl⟩;rw [hv1] at lD ⊢;dsimp only at lD ⊢;have D1:=HD.out.upd uT Dz;have HD1:=Lh (D1.s0 v1);have HA1:=Lh ((HA.out.upd uT hnp).upd (gF.set (p:=w.heap.size+1) (o:=0) (.int .i64 v1)) hn01);have HR1:=Lh (lD.other (o:=0) lY.out (.int .i64 v1));have mQ:=Lh (((gF.of p HB0.out).trans uT).fresh (q:=w.heap.size+1) (o:=0) (by omega) (.int .i64 v1));obtain ⟨d0,d1,d2,df⟩:=D1;clear lD uT;go_wp2_with fail;refine (iW p ao n cap bs s1 _ HR1.out).mono ?_;rintro e w2 ⟨rfl,hR2,pV⟩;obtain ⟨v2,s2,hv2⟩:∃ v2 s2,bH bs s1=(v2,s2):=⟨_,_,rfl⟩;rw [hv2] at hR2 ⊢;dsimp only at hR2 ⊢;have D2:=HD1.out.upd pV Dz;have HD2:=Lh (D2.s1 v2);have HA2:=Lh ((HA1.out.upd pV hnp).upd (gF.set (p:=w.heap.size+1) (o:=1) (.int .i64 v2)) hn01);have HR2:=Lh (hR2.other (o:=1) lY.out (.int .i64 v2));have uM:=Lh ((mQ.out.trans pV).fresh (q:=w.heap.size+1) (o:=1) (by omega) (.int .i64 v2));clear hR2 pV d0 d1 d2 df;obtain ⟨d0,d1,d2,df⟩:=D2;go_wp2_with fail;refine (iW p ao n cap bs s2 _ HR2.out).mono ?_;rintro e w3 ⟨rfl,wJ,QU⟩;obtain ⟨v3,s3,hv3⟩:∃ v3 s3,bH bs s2=(v3,s3):=⟨_,_,rfl⟩;rw [hv3] at wJ ⊢;dsimp only at wJ ⊢
 have HV:Hid (qo bs s=((v1,v2,v3),s3)):=Lh (by
  unfold qo;rw [hv1];dsimp only;rw [hv2];dsimp only;rw [hv3])
 have D3':=HD2.out.upd QU Dz;have A3:=HA2.out.upd QU hnp;have HR3:=Lh wJ;have FH:=Lh (uM.out.trans QU);clear wJ QU d0 d1 d2 df;obtain ⟨d0,d1,d2,df⟩:=D3';obtain ⟨a0,a1,a2,af⟩:=A3;go_wp2_with fail;refine bodyPost_ret (v:=.agg #[.int .i64 v1,.int .i64 v2,.int .i64 v3]) (by simp [results,Tryz.results97,go_sem,a0,a1,a2]) rfl ⟨by rw [HV.out],?_,?_⟩
 ·
  rw [HV.out];exact (((HR3.out.other lY.out _).other I6.out _).other I6.out _).other I6.out _
 · exact (((FH.out.fresh (Nat.le_succ _) _).fresh (Nat.le_refl _) _).fresh (Nat.le_refl _) _).fresh (Nat.le_refl _) _
theorem U9 (p:Nat) (ao:Option Addr) (n cap:Nat) (bs:List UInt8) (s:St) (w:World) (hR:Rd w p ao n cap bs s) :
  Calls Tryz.prog 98 #[.pointer (some ⟨p,0,none⟩)] w fun e w'=>e=.returned (.bool (Im.kV bs s).1)/\Rd w' p ao n cap bs (Im.kV bs s).2/\gF w p w':=by
 have HR:=Lh hR;have hpl:=hR.place;have c1:=hR.c1;clear hR;go_enter Tryz.func98,Tryz.ntmps98;go_wp2_with fail;refine (iW p ao n cap bs s w HR.out).mono ?_;rintro e w1 ⟨rfl,lD,uT⟩;have HR1:=Lh lD;have mQ:=Lh uT;clear lD uT c1;obtain ⟨v,s1,hv⟩:∃ v s1,bH bs s=(v,s1):=⟨_,_,rfl⟩;have HV:=Lh hv;rw [hv] at HR1;rw [hv];dsimp only at HR1 ⊢;clear hv;by_cases h0:v=0
 ·
  subst h0;have HN:Hid (Im.kV bs s=(false,s1)):=Lh (by unfold Im.kV;rw [HV.out];rfl);go_wp2_with fail;go_ret;exact ⟨by rw [HN.out];rfl,by rw [HN.out];exact HR1.out,mQ.out⟩
 ·
  by_cases h1:v=1
  ·
   subst h1;have HN:Hid (Im.kV bs s=(true,s1)):=Lh (by unfold Im.kV;rw [HV.out];rfl);go_wp2_with fail;go_ret;exact ⟨by rw [HN.out];rfl,by rw [HN.out];exact HR1.out,mQ.out⟩
  ·
   have HN:Hid (Im.kV bs s=(false,⟨s.at',4⟩)):=Lh (by unfold Im.kV;rw [HV.out];exact if_pos ⟨h0,h1⟩);have q0:(v != 0)=true:=bne_iff_ne.2 h0;have q1:(v != 1)=true:=bne_iff_ne.2 h1;clear h0 h1;go_wp2_with fail;refine (nJ p ao n cap bs s1 s.at' 4 w1 HR1.out hpl).mono ?_;rintro e w2 ⟨rfl,hR2,pV⟩;have HR2:=Lh hR2;have uM:=Lh (mQ.out.trans pV);clear hR2 pV;go_wp2_with fail;go_ret;exact ⟨by rw [HN.out];rfl,by rw [HN.out];exact HR2.out,uM.out⟩
structure Rx (w u:World) (p:Nat) (ao:Option Addr) (n cap:Nat) (bs:List UInt8) (s:St) (T:TypeId) (zs cs:Array Value):Prop where
 rd:Rd u p ao n cap bs s
 upd:gF w p u
 res:u.heap[w.heap.size]? =some (.cells zs T (0,0))
 var:u.heap[w.heap.size+1]? =some (.cells cs T (0,0))
 off:Off p (w.heap.size+1) n ao
 mh:Off p w.heap.size n ao
section
variable {w u v:World} {p:Nat} {ao:Option Addr} {n cap:Nat} {bs:List UInt8} {s s':St} {T:TypeId} {zs cs:Array Value}
theorem Rx.start (hR:Rd w p ao n cap bs s) (zs:Array Value) (T:TypeId):Rx w ((w.alloc (.cells zs T)).alloc (.cells zs T)) p ao n cap bs s T zs zs:=by
 obtain ⟨U,hU,hb,h0,h1,hs⟩:=Bl.U7 w (.cells zs T) (.cells zs T);rw [hU];exact ⟨hR.below hb,gF.of p hb,h0,h1,hR.off (Nat.le_succ _),hR.off (Nat.le_refl _)⟩
theorem Rx.call (h:Rx w u p ao n cap bs s T zs cs) (k:gF u p v) (r:Rd v p ao n cap bs s'):Rx w v p ao n cap bs s' T zs cs:=by
 have l1:=(Array.getElem?_eq_some_iff.1 h.var).1;have l0:=(Array.getElem?_eq_some_iff.1 h.res).1;exact ⟨r,h.upd.trans k,(k.block _ l0 h.mh.ne).trans h.res,(k.block _ l1 h.off.ne).trans h.var,h.off,h.mh⟩
theorem Rx.set (h:Rx w u p ao n cap bs s T zs cs) (i:Nat) (x:Value):Rx w (u.setCell ⟨w.heap.size+1,i,none⟩ x) p ao n cap bs s T zs (cs.setIfInBounds i x) :=
 ⟨h.rd.other h.off x,h.upd.fresh (Nat.le_succ _) x,by rw [heap_setCell_other u ⟨w.heap.size+1,i,none⟩ w.heap.size x (by show w.heap.size≠w.heap.size+1;omega)];exact h.res,heap_setCell_same u _ i _ _ x h.var,h.off,h.mh⟩
theorem Rx.cell (h:Rx w u p ao n cap bs s T zs cs) (i:Nat):u.cell? ⟨w.heap.size+1,i,none⟩=cs[i]? :=cell_of_row u _ i _ _ _ h.var
theorem Rx.cell0 (h:Rx w u p ao n cap bs s T zs cs) (i:Nat):u.cell? ⟨w.heap.size,i,none⟩=zs[i]? :=cell_of_row u _ i _ _ _ h.res
theorem Rx.fz (h:Rx w u p ao n cap bs s T zs cs) (o:Nat):u.frozen? ⟨w.heap.size+1,o,none⟩=false:=frozen_of_row u _ o _ _ h.var
theorem Rx.Er (h:Rx w u p ao n cap bs s T zs cs) (o:Nat):u.frozen? ⟨w.heap.size,o,none⟩=false:=frozen_of_row u _ o _ _ h.res
end
theorem QV (p:Nat) (ao:Option Addr) (n cap:Nat) (bs:List UInt8) (s:St) (w:World) (hR:Rd w p ao n cap bs s) :
  Calls Tryz.prog 47 #[.pointer (some ⟨p,0,none⟩)] w fun e w'=>e=.returned (.agg #[.string (Im.gI bs s).1.cat,.int .i64 (Im.gI bs s).1.y,.int .i64 (Im.gI bs s).1.m,.int .i64 (Im.gI bs s).1.d,.int .i64 (Im.gI bs s).1.bp])/\Rd w' p ao n cap bs (Im.gI bs s).2/\gF w p w':=by
 have HX0:=Lh (Rx.start hR #[.string ⟨#[]⟩,.int .i64 0,.int .i64 0,.int .i64 0,.int .i64 0] 52);have hlt:=aH hR.c0;have hnp:w.heap.size≠p:=by omega
 have Dz:w.heap.size+1≠p:=by omega
 obtain ⟨U,hU⟩:∃ U,(w.alloc (.cells #[.string ⟨#[]⟩,.int .i64 0,.int .i64 0,.int .i64 0,.int .i64 0] 52)).alloc (.cells #[.string ⟨#[]⟩,.int .i64 0,.int .i64 0,.int .i64 0,.int .i64 0] 52)=U:=⟨_,rfl⟩;rw [hU] at HX0;clear hR;go_enter Tryz.func47,Tryz.ntmps47;go_wp2_with fail;clear hU;refine (rz p ao n cap bs s U HX0.out.rd).mono ?_;rintro e w1 ⟨rfl,r1,k1⟩;obtain ⟨a1,s1,hv1⟩:∃ a s',fC bs 64 s=(a,s'):=⟨_,_,rfl⟩;rw [hv1] at r1 ⊢;dsimp only at r1 ⊢;have KV:=Lh hv1;have iA:=Lh (HX0.out.call k1 r1);clear r1 k1 hv1;have c0:=iA.out.cell 0;have c1:=iA.out.cell 1;have c2:=iA.out.cell 2;have c3:=iA.out.cell 3;have c4:=iA.out.cell 4;simp only [List.getElem?_toArray,List.getElem?_cons_zero,List.getElem?_cons_succ] at c0 c1 c2 c3 c4;have z0:=iA.out.fz 0;have uN:Hid (Rx w (w1.setCell ⟨w.heap.size+1,0,none⟩ (.string a1)) p ao n cap bs s1 52 #[.string ⟨#[]⟩,.int .i64 0,.int .i64 0,.int .i64 0,.int .i64 0] #[.string a1,.int .i64 0,.int .i64 0,.int .i64 0,.int .i64 0]):=Lh (iA.out.set 0 (.string a1));obtain ⟨u1,hu1⟩:∃ u,(w1.setCell ⟨w.heap.size+1,0,none⟩ (.string a1))=u:=⟨_,rfl⟩;rw [hu1] at uN;go_wp2_with fail;clear hu1 c0 c1 c2 c3 c4 z0;refine (KU p ao n cap bs s1 u1 uN.out.rd).mono ?_;rintro e w2 ⟨rfl,r2,k2⟩;obtain ⟨a2,s2,hv2⟩:∃ a s',qo bs s1=(a,s'):=⟨_,_,rfl⟩;rw [hv2] at r2 ⊢;dsimp only at r2 ⊢;have H9:=Lh hv2;have iK:=Lh (uN.out.call k2 r2);clear r2 k2 hv2;have c0:=iK.out.cell 0;have c1:=iK.out.cell 1;have c2:=iK.out.cell 2;have c3:=iK.out.cell 3;have c4:=iK.out.cell 4;simp only [List.getElem?_toArray,List.getElem?_cons_zero,List.getElem?_cons_succ] at c0 c1 c2 c3 c4;have z1:=iK.out.fz 1;have z2:=iK.out.fz 2;have z3:=iK.out.fz 3;have tC:Hid (Rx w (((w2.setCell ⟨w.heap.size+1,1,none⟩ (.int .i64 a2.1)).setCell ⟨w.heap.size+1,2,none⟩ (.int .i64 a2.2.1)).setCell ⟨w.heap.size+1,3,none⟩ (.int .i64 a2.2.2)) p ao n cap bs s2 52 #[.string ⟨#[]⟩,.int .i64 0,.int .i64 0,.int .i64 0,.int .i64 0] #[.string a1,.int .i64 a2.1,.int .i64 a2.2.1,.int .i64 a2.2.2,.int .i64 0]):=Lh (((iK.out.set 1 (.int .i64 a2.1)).set 2 (.int .i64 a2.2.1)).set 3 (.int .i64 a2.2.2));obtain ⟨u2,hu2⟩:∃ u,(((w2.setCell ⟨w.heap.size+1,1,none⟩ (.int .i64 a2.1)).setCell ⟨w.heap.size+1,2,none⟩ (.int .i64 a2.2.1)).setCell ⟨w.heap.size+1,3,none⟩ (.int .i64 a2.2.2))=u:=⟨_,rfl⟩;rw [hu2] at tC;go_wp2_with fail;clear hu2 c0 c1 c2 c3 c4 z1 z2 z3;refine (iW p ao n cap bs s2 u2 tC.out.rd).mono ?_;rintro e w3 ⟨rfl,r3,k3⟩;obtain ⟨a3,s3,hv3⟩:∃ a s',bH bs s2=(a,s'):=⟨_,_,rfl⟩;rw [hv3] at r3 ⊢;dsimp only at r3 ⊢;have QW:=Lh hv3;have jJ:=Lh (tC.out.call k3 r3);clear r3 k3 hv3;have c0:=jJ.out.cell 0;have c1:=jJ.out.cell 1;have c2:=jJ.out.cell 2;have c3:=jJ.out.cell 3;have c4:=jJ.out.cell 4;simp only [List.getElem?_toArray,List.getElem?_cons_zero,List.getElem?_cons_succ] at c0 c1 c2 c3 c4;have z4:=jJ.out.fz 4;have gD:Hid (Rx w (w3.setCell ⟨w.heap.size+1,4,none⟩ (.int .i64 a3)) p ao n cap bs s3 52 #[.string ⟨#[]⟩,.int .i64 0,.int .i64 0,.int .i64 0,.int .i64 0] #[.string a1,.int .i64 a2.1,.int .i64 a2.2.1,.int .i64 a2.2.2,.int .i64 a3]):=Lh (jJ.out.set 4 (.int .i64 a3));obtain ⟨u3,hu3⟩:∃ u,(w3.setCell ⟨w.heap.size+1,4,none⟩ (.int .i64 a3))=u:=⟨_,rfl⟩;rw [hu3] at gD;have x0:=gD.out.cell 0;have x1:=gD.out.cell 1;have x2:=gD.out.cell 2;have x3:=gD.out.cell 3;have x4:=gD.out.cell 4;have y0:=gD.out.cell0 0;have q0:=gD.out.Er 0;have y1:=gD.out.cell0 1;have q1:=gD.out.Er 1;have y2:=gD.out.cell0 2;have q2:=gD.out.Er 2;have y3:=gD.out.cell0 3;have q3:=gD.out.Er 3;have y4:=gD.out.cell0 4;have q4:=gD.out.Er 4;simp only [List.getElem?_toArray,List.getElem?_cons_zero,List.getElem?_cons_succ] at x0 y0 x1 y1 x2 y2 x3 y3 x4 y4;go_wp2_with fail;clear hu3 c0 c1 c2 c3 c4 z4
 have HV:Hid (Im.gI bs s=((⟨a1,a2.1,a2.2.1,a2.2.2,a3⟩:Vt.Rt),s3)):=Lh (by
  unfold Im.gI;dsimp only;rw [KV.out]
  try dsimp only
  rw [H9.out]
  try dsimp only
  rw [QW.out]
  try dsimp only)
 refine bodyPost_ret (v:=.agg #[.string a1,.int .i64 a2.1,.int .i64 a2.2.1,.int .i64 a2.2.2,.int .i64 a3]) (by simp [results,Tryz.results47,go_sem,y0,y1,y2,y3,y4]) rfl ⟨by rw [HV.out],?_,?_⟩
 ·
  rw [HV.out];exact (((((gD.out.rd.other gD.out.mh _).other gD.out.mh _).other gD.out.mh _).other gD.out.mh _).other gD.out.mh _)
 · exact (((((gD.out.upd.fresh (Nat.le_refl _) _).fresh (Nat.le_refl _) _).fresh (Nat.le_refl _) _).fresh (Nat.le_refl _) _).fresh (Nat.le_refl _) _)
theorem I7 (p:Nat) (ao:Option Addr) (n cap:Nat) (bs:List UInt8) (s:St) (w:World) (hR:Rd w p ao n cap bs s) :
  Calls Tryz.prog 49 #[.pointer (some ⟨p,0,none⟩)] w fun e w'=>e=.returned (.agg #[.string (Im.lF bs s).1.name,.int .i64 (Im.lF bs s).1.next,.int .i64 (Im.lF bs s).1.limit,.bool (Im.lF bs s).1.shut])/\Rd w' p ao n cap bs (Im.lF bs s).2/\gF w p w':=by
 have HX0:=Lh (Rx.start hR #[.string ⟨#[]⟩,.int .i64 0,.int .i64 0,.bool false] 77);have hlt:=aH hR.c0;have hnp:w.heap.size≠p:=by omega
 have Dz:w.heap.size+1≠p:=by omega
 obtain ⟨U,hU⟩:∃ U,(w.alloc (.cells #[.string ⟨#[]⟩,.int .i64 0,.int .i64 0,.bool false] 77)).alloc (.cells #[.string ⟨#[]⟩,.int .i64 0,.int .i64 0,.bool false] 77)=U:=⟨_,rfl⟩;rw [hU] at HX0;clear hR;go_enter Tryz.func49,Tryz.ntmps49;go_wp2_with fail;clear hU;refine (rz p ao n cap bs s U HX0.out.rd).mono ?_;rintro e w1 ⟨rfl,r1,k1⟩;obtain ⟨a1,s1,hv1⟩:∃ a s',fC bs 64 s=(a,s'):=⟨_,_,rfl⟩;rw [hv1] at r1 ⊢;dsimp only at r1 ⊢;have KV:=Lh hv1;have iA:=Lh (HX0.out.call k1 r1);clear r1 k1 hv1;have c0:=iA.out.cell 0;have c1:=iA.out.cell 1;have c2:=iA.out.cell 2;have c3:=iA.out.cell 3;simp only [List.getElem?_toArray,List.getElem?_cons_zero,List.getElem?_cons_succ] at c0 c1 c2 c3;have z0:=iA.out.fz 0;have uN:Hid (Rx w (w1.setCell ⟨w.heap.size+1,0,none⟩ (.string a1)) p ao n cap bs s1 77 #[.string ⟨#[]⟩,.int .i64 0,.int .i64 0,.bool false] #[.string a1,.int .i64 0,.int .i64 0,.bool false]):=Lh (iA.out.set 0 (.string a1));obtain ⟨u1,hu1⟩:∃ u,(w1.setCell ⟨w.heap.size+1,0,none⟩ (.string a1))=u:=⟨_,rfl⟩;rw [hu1] at uN;go_wp2_with fail;clear hu1 c0 c1 c2 c3 z0;refine (iW p ao n cap bs s1 u1 uN.out.rd).mono ?_;rintro e w2 ⟨rfl,r2,k2⟩;obtain ⟨a2,s2,hv2⟩:∃ a s',bH bs s1=(a,s'):=⟨_,_,rfl⟩;rw [hv2] at r2 ⊢;dsimp only at r2 ⊢;have H9:=Lh hv2;have iK:=Lh (uN.out.call k2 r2);clear r2 k2 hv2;have c0:=iK.out.cell 0;have c1:=iK.out.cell 1;have c2:=iK.out.cell 2;have c3:=iK.out.cell 3;simp only [List.getElem?_toArray,List.getElem?_cons_zero,List.getElem?_cons_succ] at c0 c1 c2 c3;have z2:=iK.out.fz 2;have tC:Hid (Rx w (w2.setCell ⟨w.heap.size+1,2,none⟩ (.int .i64 a2)) p ao n cap bs s2 77 #[.string ⟨#[]⟩,.int .i64 0,.int .i64 0,.bool false] #[.string a1,.int .i64 0,.int .i64 a2,.bool false]):=Lh (iK.out.set 2 (.int .i64 a2));obtain ⟨u2,hu2⟩:∃ u,(w2.setCell ⟨w.heap.size+1,2,none⟩ (.int .i64 a2))=u:=⟨_,rfl⟩;rw [hu2] at tC;go_wp2_with fail;clear hu2 c0 c1 c2 c3 z2;refine (U9 p ao n cap bs s2 u2 tC.out.rd).mono ?_;rintro e w3 ⟨rfl,r3,k3⟩;obtain ⟨a3,s3,hv3⟩:∃ a s',Im.kV bs s2=(a,s'):=⟨_,_,rfl⟩;rw [hv3] at r3 ⊢;dsimp only at r3 ⊢;have QW:=Lh hv3;have jJ:=Lh (tC.out.call k3 r3);clear r3 k3 hv3;have c0:=jJ.out.cell 0;have c1:=jJ.out.cell 1;have c2:=jJ.out.cell 2;have c3:=jJ.out.cell 3;simp only [List.getElem?_toArray,List.getElem?_cons_zero,List.getElem?_cons_succ] at c0 c1 c2 c3;have z3:=jJ.out.fz 3;have gD:Hid (Rx w (w3.setCell ⟨w.heap.size+1,3,none⟩ (.bool a3)) p ao n cap bs s3 77 #[.string ⟨#[]⟩,.int .i64 0,.int .i64 0,.bool false] #[.string a1,.int .i64 0,.int .i64 a2,.bool a3]):=Lh (jJ.out.set 3 (.bool a3));obtain ⟨u3,hu3⟩:∃ u,(w3.setCell ⟨w.heap.size+1,3,none⟩ (.bool a3))=u:=⟨_,rfl⟩;rw [hu3] at gD;have x0:=gD.out.cell 0;have x1:=gD.out.cell 1;have x2:=gD.out.cell 2;have x3:=gD.out.cell 3;have y0:=gD.out.cell0 0;have q0:=gD.out.Er 0;have y1:=gD.out.cell0 1;have q1:=gD.out.Er 1;have y2:=gD.out.cell0 2;have q2:=gD.out.Er 2;have y3:=gD.out.cell0 3;have q3:=gD.out.Er 3;simp only [List.getElem?_toArray,List.getElem?_cons_zero,List.getElem?_cons_succ] at x0 y0 x1 y1 x2 y2 x3 y3;go_wp2_with fail;clear hu3 c0 c1 c2 c3 z3
 have HV:Hid (Im.lF bs s=((⟨a1,0,a2,a3⟩:Sr.T),s3)):=Lh (by
  unfold Im.lF;dsimp only;rw [KV.out]
  try dsimp only
  rw [H9.out]
  try dsimp only
  rw [QW.out]
  try dsimp only)
 refine bodyPost_ret (v:=.agg #[.string a1,.int .i64 0,.int .i64 a2,.bool a3]) (by simp [results,Tryz.results49,go_sem,y0,y1,y2,y3]) rfl ⟨by rw [HV.out],?_,?_⟩
 ·
  rw [HV.out];exact ((((gD.out.rd.other gD.out.mh _).other gD.out.mh _).other gD.out.mh _).other gD.out.mh _)
 · exact ((((gD.out.upd.fresh (Nat.le_refl _) _).fresh (Nat.le_refl _) _).fresh (Nat.le_refl _) _).fresh (Nat.le_refl _) _)
theorem QX (p:Nat) (ao:Option Addr) (n cap:Nat) (bs:List UInt8) (s:St) (w:World) (hR:Rd w p ao n cap bs s) :
  Calls Tryz.prog 100 #[.pointer (some ⟨p,0,none⟩)] w fun e w'=>e=.returned (.agg #[.string (Im.gJ bs s).1.cat,.int .i64 (Im.gJ bs s).1.bp,.int .i64 (Im.gJ bs s).1.net,.int .i64 (Im.gJ bs s).1.aP])/\Rd w' p ao n cap bs (Im.gJ bs s).2/\gF w p w':=by
 have HX0:=Lh (Rx.start hR #[.string ⟨#[]⟩,.int .i64 0,.int .i64 0,.int .i64 0] 108);have hlt:=aH hR.c0;have hnp:w.heap.size≠p:=by omega
 have Dz:w.heap.size+1≠p:=by omega
 obtain ⟨U,hU⟩:∃ U,(w.alloc (.cells #[.string ⟨#[]⟩,.int .i64 0,.int .i64 0,.int .i64 0] 108)).alloc (.cells #[.string ⟨#[]⟩,.int .i64 0,.int .i64 0,.int .i64 0] 108)=U:=⟨_,rfl⟩;rw [hU] at HX0;clear hR;go_enter Tryz.func100,Tryz.ntmps100;go_wp2_with fail;clear hU;refine (rz p ao n cap bs s U HX0.out.rd).mono ?_;rintro e w1 ⟨rfl,r1,k1⟩;obtain ⟨a1,s1,hv1⟩:∃ a s',fC bs 64 s=(a,s'):=⟨_,_,rfl⟩;rw [hv1] at r1 ⊢;dsimp only at r1 ⊢;have KV:=Lh hv1;have iA:=Lh (HX0.out.call k1 r1);clear r1 k1 hv1;have c0:=iA.out.cell 0;have c1:=iA.out.cell 1;have c2:=iA.out.cell 2;have c3:=iA.out.cell 3;simp only [List.getElem?_toArray,List.getElem?_cons_zero,List.getElem?_cons_succ] at c0 c1 c2 c3;have z0:=iA.out.fz 0;have uN:Hid (Rx w (w1.setCell ⟨w.heap.size+1,0,none⟩ (.string a1)) p ao n cap bs s1 108 #[.string ⟨#[]⟩,.int .i64 0,.int .i64 0,.int .i64 0] #[.string a1,.int .i64 0,.int .i64 0,.int .i64 0]):=Lh (iA.out.set 0 (.string a1));obtain ⟨u1,hu1⟩:∃ u,(w1.setCell ⟨w.heap.size+1,0,none⟩ (.string a1))=u:=⟨_,rfl⟩;rw [hu1] at uN;go_wp2_with fail;clear hu1 c0 c1 c2 c3 z0;refine (iW p ao n cap bs s1 u1 uN.out.rd).mono ?_;rintro e w2 ⟨rfl,r2,k2⟩;obtain ⟨a2,s2,hv2⟩:∃ a s',bH bs s1=(a,s'):=⟨_,_,rfl⟩;rw [hv2] at r2 ⊢;dsimp only at r2 ⊢;have H9:=Lh hv2;have iK:=Lh (uN.out.call k2 r2);clear r2 k2 hv2;have c0:=iK.out.cell 0;have c1:=iK.out.cell 1;have c2:=iK.out.cell 2;have c3:=iK.out.cell 3;simp only [List.getElem?_toArray,List.getElem?_cons_zero,List.getElem?_cons_succ] at c0 c1 c2 c3;have z1:=iK.out.fz 1;have tC:Hid (Rx w (w2.setCell ⟨w.heap.size+1,1,none⟩ (.int .i64 a2)) p ao n cap bs s2 108 #[.string ⟨#[]⟩,.int .i64 0,.int .i64 0,.int .i64 0] #[.string a1,.int .i64 a2,.int .i64 0,.int .i64 0]):=Lh (iK.out.set 1 (.int .i64 a2));obtain ⟨u2,hu2⟩:∃ u,(w2.setCell ⟨w.heap.size+1,1,none⟩ (.int .i64 a2))=u:=⟨_,rfl⟩;rw [hu2] at tC;go_wp2_with fail;clear hu2 c0 c1 c2 c3 z1;refine (iW p ao n cap bs s2 u2 tC.out.rd).mono ?_;rintro e w3 ⟨rfl,r3,k3⟩;obtain ⟨a3,s3,hv3⟩:∃ a s',bH bs s2=(a,s'):=⟨_,_,rfl⟩;rw [hv3] at r3 ⊢;dsimp only at r3 ⊢;have QW:=Lh hv3;have jJ:=Lh (tC.out.call k3 r3);clear r3 k3 hv3;have c0:=jJ.out.cell 0;have c1:=jJ.out.cell 1;have c2:=jJ.out.cell 2;have c3:=jJ.out.cell 3;simp only [List.getElem?_toArray,List.getElem?_cons_zero,List.getElem?_cons_succ] at c0 c1 c2 c3;have z2:=jJ.out.fz 2;have gD:Hid (Rx w (w3.setCell ⟨w.heap.size+1,2,none⟩ (.int .i64 a3)) p ao n cap bs s3 108 #[.string ⟨#[]⟩,.int .i64 0,.int .i64 0,.int .i64 0] #[.string a1,.int .i64 a2,.int .i64 a3,.int .i64 0]):=Lh (jJ.out.set 2 (.int .i64 a3));obtain ⟨u3,hu3⟩:∃ u,(w3.setCell ⟨w.heap.size+1,2,none⟩ (.int .i64 a3))=u:=⟨_,rfl⟩;rw [hu3] at gD;have x0:=gD.out.cell 0;have x1:=gD.out.cell 1;have x2:=gD.out.cell 2;have x3:=gD.out.cell 3;have y0:=gD.out.cell0 0;have q0:=gD.out.Er 0;have y1:=gD.out.cell0 1;have q1:=gD.out.Er 1;have y2:=gD.out.cell0 2;have q2:=gD.out.Er 2;have y3:=gD.out.cell0 3;have q3:=gD.out.Er 3;simp only [List.getElem?_toArray,List.getElem?_cons_zero,List.getElem?_cons_succ] at x0 y0 x1 y1 x2 y2 x3 y3;go_wp2_with fail;clear hu3 c0 c1 c2 c3 z2
 have HV:Hid (Im.gJ bs s=((⟨a1,a2,a3,0⟩:Pt.T),s3)):=Lh (by
  unfold Im.gJ;dsimp only;rw [KV.out]
  try dsimp only
  rw [H9.out]
  try dsimp only
  rw [QW.out]
  try dsimp only)
 refine bodyPost_ret (v:=.agg #[.string a1,.int .i64 a2,.int .i64 a3,.int .i64 0]) (by simp [results,Tryz.results100,go_sem,y0,y1,y2,y3]) rfl ⟨by rw [HV.out],?_,?_⟩
 ·
  rw [HV.out];exact ((((gD.out.rd.other gD.out.mh _).other gD.out.mh _).other gD.out.mh _).other gD.out.mh _)
 · exact ((((gD.out.upd.fresh (Nat.le_refl _) _).fresh (Nat.le_refl _) _).fresh (Nat.le_refl _) _).fresh (Nat.le_refl _) _)
theorem QY (p:Nat) (ao:Option Addr) (n cap:Nat) (bs:List UInt8) (s:St) (w:World) (hR:Rd w p ao n cap bs s) :
  Calls Tryz.prog 53 #[.pointer (some ⟨p,0,none⟩)] w fun e w'=>e=.returned (.agg #[.int .i64 (Im.gK bs s).1.id,.int .i64 (Im.gK bs s).1.last,.int .i64 (Im.gK bs s).1.why,.int .i64 (Im.gK bs s).1.num,.int .i64 (Im.gK bs s).1.au])/\Rd w' p ao n cap bs (Im.gK bs s).2/\gF w p w':=by
 have HX0:=Lh (Rx.start hR #[.int .i64 0,.int .i64 0,.int .i64 0,.int .i64 0,.int .i64 0] 84);have hlt:=aH hR.c0;have hnp:w.heap.size≠p:=by omega
 have Dz:w.heap.size+1≠p:=by omega
 obtain ⟨U,hU⟩:∃ U,(w.alloc (.cells #[.int .i64 0,.int .i64 0,.int .i64 0,.int .i64 0,.int .i64 0] 84)).alloc (.cells #[.int .i64 0,.int .i64 0,.int .i64 0,.int .i64 0,.int .i64 0] 84)=U:=⟨_,rfl⟩;rw [hU] at HX0;clear hR;go_enter Tryz.func53,Tryz.ntmps53;go_wp2_with fail;clear hU;refine (iW p ao n cap bs s U HX0.out.rd).mono ?_;rintro e w1 ⟨rfl,r1,k1⟩;obtain ⟨a1,s1,hv1⟩:∃ a s',bH bs s=(a,s'):=⟨_,_,rfl⟩;rw [hv1] at r1 ⊢;dsimp only at r1 ⊢;have KV:=Lh hv1;have iA:=Lh (HX0.out.call k1 r1);clear r1 k1 hv1;have c0:=iA.out.cell 0;have c1:=iA.out.cell 1;have c2:=iA.out.cell 2;have c3:=iA.out.cell 3;have c4:=iA.out.cell 4;simp only [List.getElem?_toArray,List.getElem?_cons_zero,List.getElem?_cons_succ] at c0 c1 c2 c3 c4;have z0:=iA.out.fz 0;have uN:Hid (Rx w (w1.setCell ⟨w.heap.size+1,0,none⟩ (.int .i64 a1)) p ao n cap bs s1 84 #[.int .i64 0,.int .i64 0,.int .i64 0,.int .i64 0,.int .i64 0] #[.int .i64 a1,.int .i64 0,.int .i64 0,.int .i64 0,.int .i64 0]):=Lh (iA.out.set 0 (.int .i64 a1));obtain ⟨u1,hu1⟩:∃ u,(w1.setCell ⟨w.heap.size+1,0,none⟩ (.int .i64 a1))=u:=⟨_,rfl⟩;rw [hu1] at uN;go_wp2_with fail;clear hu1 c0 c1 c2 c3 c4 z0;refine (iW p ao n cap bs s1 u1 uN.out.rd).mono ?_;rintro e w2 ⟨rfl,r2,k2⟩;obtain ⟨a2,s2,hv2⟩:∃ a s',bH bs s1=(a,s'):=⟨_,_,rfl⟩;rw [hv2] at r2 ⊢;dsimp only at r2 ⊢;have H9:=Lh hv2;have iK:=Lh (uN.out.call k2 r2);clear r2 k2 hv2;have c0:=iK.out.cell 0;have c1:=iK.out.cell 1;have c2:=iK.out.cell 2;have c3:=iK.out.cell 3;have c4:=iK.out.cell 4;simp only [List.getElem?_toArray,List.getElem?_cons_zero,List.getElem?_cons_succ] at c0 c1 c2 c3 c4;have z1:=iK.out.fz 1;have tC:Hid (Rx w (w2.setCell ⟨w.heap.size+1,1,none⟩ (.int .i64 a2)) p ao n cap bs s2 84 #[.int .i64 0,.int .i64 0,.int .i64 0,.int .i64 0,.int .i64 0] #[.int .i64 a1,.int .i64 a2,.int .i64 0,.int .i64 0,.int .i64 0]):=Lh (iK.out.set 1 (.int .i64 a2));obtain ⟨u2,hu2⟩:∃ u,(w2.setCell ⟨w.heap.size+1,1,none⟩ (.int .i64 a2))=u:=⟨_,rfl⟩;rw [hu2] at tC;go_wp2_with fail;clear hu2 c0 c1 c2 c3 c4 z1;refine (iW p ao n cap bs s2 u2 tC.out.rd).mono ?_;rintro e w3 ⟨rfl,r3,k3⟩;obtain ⟨a3,s3,hv3⟩:∃ a s',bH bs s2=(a,s'):=⟨_,_,rfl⟩;rw [hv3] at r3 ⊢;dsimp only at r3 ⊢;have QW:=Lh hv3;have jJ:=Lh (tC.out.call k3 r3);clear r3 k3 hv3;have c0:=jJ.out.cell 0;have c1:=jJ.out.cell 1;have c2:=jJ.out.cell 2;have c3:=jJ.out.cell 3;have c4:=jJ.out.cell 4;simp only [List.getElem?_toArray,List.getElem?_cons_zero,List.getElem?_cons_succ] at c0 c1 c2 c3 c4;have z2:=jJ.out.fz 2;have gD:Hid (Rx w (w3.setCell ⟨w.heap.size+1,2,none⟩ (.int .i64 a3)) p ao n cap bs s3 84 #[.int .i64 0,.int .i64 0,.int .i64 0,.int .i64 0,.int .i64 0] #[.int .i64 a1,.int .i64 a2,.int .i64 a3,.int .i64 0,.int .i64 0]):=Lh (jJ.out.set 2 (.int .i64 a3));obtain ⟨u3,hu3⟩:∃ u,(w3.setCell ⟨w.heap.size+1,2,none⟩ (.int .i64 a3))=u:=⟨_,rfl⟩;rw [hu3] at gD;go_wp2_with fail;clear hu3 c0 c1 c2 c3 c4 z2;refine (iW p ao n cap bs s3 u3 gD.out.rd).mono ?_;rintro e w4 ⟨rfl,r4,k4⟩;obtain ⟨a4,s4,hv4⟩:∃ a s',bH bs s3=(a,s'):=⟨_,_,rfl⟩;rw [hv4] at r4 ⊢;dsimp only at r4 ⊢;have HV4:=Lh hv4;have uj:=Lh (gD.out.call k4 r4);clear r4 k4 hv4;have c0:=uj.out.cell 0;have c1:=uj.out.cell 1;have c2:=uj.out.cell 2;have c3:=uj.out.cell 3;have c4:=uj.out.cell 4;simp only [List.getElem?_toArray,List.getElem?_cons_zero,List.getElem?_cons_succ] at c0 c1 c2 c3 c4;have z3:=uj.out.fz 3;have OW:Hid (Rx w (w4.setCell ⟨w.heap.size+1,3,none⟩ (.int .i64 a4)) p ao n cap bs s4 84 #[.int .i64 0,.int .i64 0,.int .i64 0,.int .i64 0,.int .i64 0] #[.int .i64 a1,.int .i64 a2,.int .i64 a3,.int .i64 a4,.int .i64 0]):=Lh (uj.out.set 3 (.int .i64 a4));obtain ⟨u4,Va⟩:∃ u,(w4.setCell ⟨w.heap.size+1,3,none⟩ (.int .i64 a4))=u:=⟨_,rfl⟩;rw [Va] at OW;go_wp2_with fail;clear Va c0 c1 c2 c3 c4 z3;refine (iW p ao n cap bs s4 u4 OW.out.rd).mono ?_
 rintro e w5 ⟨rfl,r5,k5⟩;obtain ⟨a5,s5,hv5⟩:∃ a s',bH bs s4=(a,s'):=⟨_,_,rfl⟩;rw [hv5] at r5 ⊢;dsimp only at r5 ⊢;have HV5:=Lh hv5;have oq:=Lh (OW.out.call k5 r5);clear r5 k5 hv5;have c0:=oq.out.cell 0;have c1:=oq.out.cell 1;have c2:=oq.out.cell 2;have c3:=oq.out.cell 3;have c4:=oq.out.cell 4;simp only [List.getElem?_toArray,List.getElem?_cons_zero,List.getElem?_cons_succ] at c0 c1 c2 c3 c4;have z4:=oq.out.fz 4;have p8:Hid (Rx w (w5.setCell ⟨w.heap.size+1,4,none⟩ (.int .i64 a5)) p ao n cap bs s5 84 #[.int .i64 0,.int .i64 0,.int .i64 0,.int .i64 0,.int .i64 0] #[.int .i64 a1,.int .i64 a2,.int .i64 a3,.int .i64 a4,.int .i64 a5]):=Lh (oq.out.set 4 (.int .i64 a5));obtain ⟨u5,OX⟩:∃ u,(w5.setCell ⟨w.heap.size+1,4,none⟩ (.int .i64 a5))=u:=⟨_,rfl⟩;rw [OX] at p8;have x0:=p8.out.cell 0;have x1:=p8.out.cell 1;have x2:=p8.out.cell 2;have x3:=p8.out.cell 3;have x4:=p8.out.cell 4;have y0:=p8.out.cell0 0;have q0:=p8.out.Er 0;have y1:=p8.out.cell0 1;have q1:=p8.out.Er 1;have y2:=p8.out.cell0 2;have q2:=p8.out.Er 2;have y3:=p8.out.cell0 3;have q3:=p8.out.Er 3;have y4:=p8.out.cell0 4;have q4:=p8.out.Er 4;simp only [List.getElem?_toArray,List.getElem?_cons_zero,List.getElem?_cons_succ] at x0 y0 x1 y1 x2 y2 x3 y3 x4 y4;go_wp2_with fail;clear OX c0 c1 c2 c3 c4 z4
 have HV:Hid (Im.gK bs s=((⟨a1,a2,a3,a4,a5⟩:Sn.T),s5)):=Lh (by
  unfold Im.gK;dsimp only;rw [KV.out]
  try dsimp only
  rw [H9.out]
  try dsimp only
  rw [QW.out]
  try dsimp only
  rw [HV4.out]
  try dsimp only
  rw [HV5.out]
  try dsimp only)
 refine bodyPost_ret (v:=.agg #[.int .i64 a1,.int .i64 a2,.int .i64 a3,.int .i64 a4,.int .i64 a5]) (by simp [results,Tryz.results53,go_sem,y0,y1,y2,y3,y4]) rfl ⟨by rw [HV.out],?_,?_⟩
 ·
  rw [HV.out];exact (((((p8.out.rd.other p8.out.mh _).other p8.out.mh _).other p8.out.mh _).other p8.out.mh _).other p8.out.mh _)
 · exact (((((p8.out.upd.fresh (Nat.le_refl _) _).fresh (Nat.le_refl _) _).fresh (Nat.le_refl _) _).fresh (Nat.le_refl _) _).fresh (Nat.le_refl _) _)
end Go.Proofs.YtpfdnemaaeolcaaGreat
