import Derived.Maps.AppendAt
import Derived.Laws.AppendOwnNone
import Derived.Laws.Rows
import Derived.Laws.CopyOwn
import Derived.Laws.MakeOwn
import Derived.RegionTactic
import Derived.Test.YtpfdnemaaeolcaaGreatZIb3
import Derived.Test.YtpfdnemaaeolcaaGreatZIb4
import Derived.Test.YtpfdnemaaeolcaaGreatZIb5
import Derived.Test.YtpfdnemaaeolcaaGreatZIb8
import Derived.Test.YtpfdnemaaeolcaaGreatZIb9
import Derived.Test.YtpfdnemaaeolcaaGreatZIb14
import Derived.Test.YtpfdnemaaeolcaaGreatZIb15
variable {w:Go.World} {g:Nat} {a:Go.Act} {Q:Go.Exit->Go.Act->Go.World->Prop} {S:Go.World->Prop}
set_option maxHeartbeats 8000000
set_option maxRecDepth 100000
set_option linter.unusedVariables false
namespace Go.Proofs.YtpfdnemaaeolcaaGreat
open Go.RowKit
open Mem Pk Cm
theorem G8 (s:ByteArray) (hs:s.size<=64):(tx s).length<=74:=by
 unfold tx;rw [ag];have:=bG (s.size:Int);have e:(txt s).length=s.size:=by unfold txt;rw [Array.length_toList];rfl
 omega
theorem LJ (y m d:Int):(Cm.pW y m d).length<=30:=by
 unfold Cm.pW;rw [ag,ag];have:=bG y;have:=bG m;have:=bG d;omega
def Im.zL (x:Pt.T):Prop:=x.cat.size<=64/\Fit x.bp/\Fit x.net
structure Im.PsO (p:Bl.Ps):Prop where
 av:p.av.size<=64
 day:Fit p.y/\Fit p.m/\Fit p.d
 bf:p.bf.size<=64
 aY:Fit p.aY
 few:p.tot.parts.length<=12
 parts:∀ x∈p.tot.parts,Im.zL x
theorem Im.WJ (x:Pt.T) (h:Im.zL x):(Im.gH x).length<=94:=by
 unfold Im.gH;simp only [ag];have:=G8 x.cat h.1;have:=bG x.bp;have:=bG x.net;omega
theorem Im.CG (l:List Pt.T) (hl:l.length<=12) (h:∀ x∈l,Im.zL x):(Im.bR Im.gH l).length<=1138:=by
 unfold Im.bR;rw [ag];have h1:=bG (l.length:Int);have h2:=Im.jL (B:=Im.gH) (M:=94) (l:=l) fun a ha=>Im.WJ a (h a ha)
 have h3:l.length*94<=12*94:=Nat.mul_le_mul_right _ hl;omega
theorem Im.G9 (p:Bl.Ps) (h:Im.PsO p):(Im.dS p).length<=1400:=by
 unfold Im.dS;simp only [ag];have:=G8 p.av h.av;have:=LJ p.y p.m p.d;have:=G8 p.bf h.bf;have:=bG p.aY;have:=Im.CG p.tot.parts h.few h.parts;omega
theorem OC (r:Pd.T) (p:Bl.Ps) (BS:List UInt8) (w0 w:World) (hE:Bl.AV w0 r p) (hO:Im.PsO p) (hW:iU w0 w BS) (hm:BS.length<=790000) :
  Calls Tryz.prog 65 #[.pointer (some ⟨w0.heap.size,0,none⟩),Pd.val r] w fun e w'=>e=.returned (.tuple #[])/\iU w0 w' (BS++Im.dS p)/\nC w0 w w':=by
 have HW:=Lh hW;have HM:=Lh hm;have HE:=Lh hE;have HO:=Lh hO;clear hW hm hE hO;unfold Pd.val;obtain ⟨hI,hF⟩:=HW.out.boxed (.cells #[.string r.av,.int .i64 r.num,.int .i64 r.y,.int .i64 r.m,.int .i64 r.d,.int .i64 r.net,.int .i64 r.aP,.int .i64 r.au,.slice r.parts.ao r.parts.n r.parts.cap,.string r.bf,.int .i64 r.aY,.bool r.back] 104);obtain ⟨U,hU⟩:∃ U,w.alloc (.cells #[.string r.av,.int .i64 r.num,.int .i64 r.y,.int .i64 r.m,.int .i64 r.d,.int .i64 r.net,.int .i64 r.aP,.int .i64 r.au,.slice r.parts.ao r.parts.n r.parts.cap,.string r.bf,.int .i64 r.aY,.bool r.back] 104)=U:=⟨_,rfl⟩;rw [hU] at hI hF;have HI0:=Lh hI;have Ow:=Lh hF;obtain ⟨g,hg⟩:∃ g,w.heap.size=g:=⟨_,rfl⟩;rw [hg] at HI0;have c0:=HI0.out.cell 0;have c1:=HI0.out.cell 1;have c2:=HI0.out.cell 2;have c3:=HI0.out.cell 3;have c4:=HI0.out.cell 4;have c5:=HI0.out.cell 5;have c6:=HI0.out.cell 6;have c7:=HI0.out.cell 7;have c8:=HI0.out.cell 8;have c9:=HI0.out.cell 9;have c10:=HI0.out.cell 10;have c11:=HI0.out.cell 11;simp only [List.getElem?_toArray,List.getElem?_cons_zero,List.getElem?_cons_succ] at c0 c1 c2 c3 c4 c5 c6 c7 c8 c9 c10 c11;clear hI hF;go_enter Tryz.func65,Tryz.ntmps65;go_wp2_with fail
 try rw [hU]
 try rw [hg]
 clear hU hg;refine (vT r.av (by have:=HO.out.av;rw [HE.out.av];omega) BS w0 U (HI0.out.wr) (by have:=HM.out;first | omega | (simp only [ag];omega))).mono ?_;rintro e w1 ⟨rfl,i1,f1⟩;have HI1:=Lh (HI0.out.next i1 f1);have jB:=Lh (Ow.out.trans f1);have lK:Hid ((tx r.av).length<=74):=Lh (G8 _ (by rw [HE.out.av];exact HO.out.av));clear c0 c1 c2 c3 c4 c5 c6 c7 c8 c9 c10 c11 i1 f1;have c0:=HI1.out.cell 0;have c1:=HI1.out.cell 1;have c2:=HI1.out.cell 2;have c3:=HI1.out.cell 3;have c4:=HI1.out.cell 4;have c5:=HI1.out.cell 5;have c6:=HI1.out.cell 6;have c7:=HI1.out.cell 7;have c8:=HI1.out.cell 8;have c9:=HI1.out.cell 9;have c10:=HI1.out.cell 10;have c11:=HI1.out.cell 11;simp only [List.getElem?_toArray,List.getElem?_cons_zero,List.getElem?_cons_succ] at c0 c1 c2 c3 c4 c5 c6 c7 c8 c9 c10 c11;go_wp2_with fail;refine (Ti r.y r.m r.d (by rw [HE.out.y,HE.out.m,HE.out.d];exact HO.out.day) (BS++tx r.av) w0 w1 (HI1.out.wr) (by have:=HM.out;have:=lK.out;first | omega | (simp only [ag];omega))).mono ?_;rintro e w2 ⟨rfl,i2,f2⟩;have HI2:=Lh (HI1.out.next i2 f2);have ko:=Lh (jB.out.trans f2);have HL2:Hid ((Cm.pW r.y r.m r.d).length<=30):=Lh (LJ _ _ _);clear c0 c1 c2 c3 c4 c5 c6 c7 c8 c9 c10 c11 i2 f2;have c0:=HI2.out.cell 0;have c1:=HI2.out.cell 1;have c2:=HI2.out.cell 2;have c3:=HI2.out.cell 3;have c4:=HI2.out.cell 4;have c5:=HI2.out.cell 5;have c6:=HI2.out.cell 6;have c7:=HI2.out.cell 7;have c8:=HI2.out.cell 8;have c9:=HI2.out.cell 9;have c10:=HI2.out.cell 10;have c11:=HI2.out.cell 11;simp only [List.getElem?_toArray,List.getElem?_cons_zero,List.getElem?_cons_succ] at c0 c1 c2 c3 c4 c5 c6 c7 c8 c9 c10 c11;go_wp2_with fail;refine (vT r.bf (by have:=HO.out.bf;rw [HE.out.bf];omega) ((BS++tx r.av)++Cm.pW r.y r.m r.d) w0 w2 (HI2.out.wr) (by have:=HM.out;have:=lK.out;have:=HL2.out;first | omega | (simp only [ag];omega))).mono ?_;rintro e w3 ⟨rfl,i3,f3⟩;have HI3:=Lh (HI2.out.next i3 f3);have lM:=Lh (ko.out.trans f3);have uJ:Hid ((tx r.bf).length<=74):=Lh (G8 _ (by rw [HE.out.bf];exact HO.out.bf));clear c0 c1 c2 c3 c4 c5 c6 c7 c8 c9 c10 c11 i3 f3;have c0:=HI3.out.cell 0;have c1:=HI3.out.cell 1;have c2:=HI3.out.cell 2;have c3:=HI3.out.cell 3;have c4:=HI3.out.cell 4;have c5:=HI3.out.cell 5;have c6:=HI3.out.cell 6;have c7:=HI3.out.cell 7;have c8:=HI3.out.cell 8;have c9:=HI3.out.cell 9;have c10:=HI3.out.cell 10;have c11:=HI3.out.cell 11;simp only [List.getElem?_toArray,List.getElem?_cons_zero,List.getElem?_cons_succ] at c0 c1 c2 c3 c4 c5 c6 c7 c8 c9 c10 c11;go_wp2_with fail;refine (gQ r.aY (by rw [HE.out.aY];exact HO.out.aY) (((BS++tx r.av)++Cm.pW r.y r.m r.d)++tx r.bf) w0 w3 (HI3.out.wr) (by have:=HM.out;have:=lK.out;have:=HL2.out;have:=uJ.out;first | omega | (simp only [ag];omega))).mono ?_;rintro e w4 ⟨rfl,i4,f4⟩;have HI4:=Lh (HI3.out.next i4 f4);have Hu:=Lh (lM.out.trans f4);have AJ:Hid ((nm r.aY).length<=10):=Lh (bG _);clear c0 c1 c2 c3 c4 c5 c6 c7 c8 c9 c10 c11 i4 f4;have c0:=HI4.out.cell 0;have c1:=HI4.out.cell 1;have c2:=HI4.out.cell 2;have c3:=HI4.out.cell 3;have c4:=HI4.out.cell 4;have c5:=HI4.out.cell 5;have c6:=HI4.out.cell 6;have c7:=HI4.out.cell 7;have c8:=HI4.out.cell 8;have c9:=HI4.out.cell 9;have c10:=HI4.out.cell 10;have c11:=HI4.out.cell 11;simp only [List.getElem?_toArray,List.getElem?_cons_zero,List.getElem?_cons_succ] at c0 c1 c2 c3 c4 c5 c6 c7 c8 c9 c10 c11;go_wp2_with fail;refine (OA p.tot.parts r.parts.ao r.parts.n r.parts.cap ((((BS++tx r.av)++Cm.pW r.y r.m r.d)++tx r.bf)++nm r.aY) w0 w4 (HI4.out.wr) HE.out.parts (fun x hx=>⟨by have:=(HO.out.parts x hx).1;omega,(HO.out.parts x hx).2⟩) (by have:=HE.out.parts.len;have:=HO.out.few;omega) (by have:=HM.out;have:=lK.out;have:=HL2.out;have:=uJ.out;have:=AJ.out;first | omega | (simp only [ag];omega))).mono ?_
 rintro e w5 ⟨rfl,i5,f5⟩;have HI5:=Lh (HI4.out.next i5 f5);have WG:=Lh (Hu.out.trans f5);have OY:Hid ((Im.bR Im.gH p.tot.parts).length<=1138):=Lh (Im.CG _ HO.out.few HO.out.parts);clear c0 c1 c2 c3 c4 c5 c6 c7 c8 c9 c10 c11 i5 f5;go_wp2_with fail;go_end0;refine ⟨rfl,?_,WG.out⟩;have h:=HI5.out.wr;rw [HE.out.av,HE.out.y,HE.out.m,HE.out.d,HE.out.bf,HE.out.aY] at h;unfold Im.dS;simpa only [List.append_assoc] using h
theorem OD (ps:List Bl.Ps) (rs:List Pd.T) (ao:Option Addr) (n cap:Nat) (bs:List UInt8) (w0 w:World) (hW:iU w0 w bs) (hL:Pd.Ls w0 ao n cap rs) (hE:Bl.Each w0 rs ps) (hk:∀ p∈ps,Im.PsO p) (hn:n<=40) (hm:bs.length<=700000) :
  Calls Tryz.prog 64 #[.pointer (some ⟨w0.heap.size,0,none⟩),.slice ao n cap,.func (.func 65) #[.pointer (some ⟨w0.heap.size,0,none⟩)] #[]] w fun e w'=>e=.returned (.tuple #[])/\iU w0 w' (bs++Im.bR Im.dS ps)/\nC w0 w w':=by
 have HL:=Lh hL;have HN:=Lh hL.len;have HE:=Lh hE;have HK:=Lh hk;have HM:=Lh hm;have HW:=Lh hW;have hcap:=hL.reach;have hfit:=hL.fits;obtain ⟨p0,hp⟩:∃ p0,w0.heap.size=p0:=⟨_,rfl⟩;have HP:=Lh hp
 have WH:Hid (∀ u bs',iU w0 u bs'->bs'.length<=1000000->Calls Tryz.prog 68 #[.pointer (some ⟨p0,0,none⟩),.int .i64 (n:Int)] u fun e w'=>e=.returned (.tuple #[])/\iU w0 w' (bs'++nm (n:Int))/\nC w0 u w'):=Lh fun u bs' h1 h2=>by
  rw [<- HP.out];exact gQ (n:Int) ⟨by omega,by omega⟩ bs' w0 u h1 h2
 have JG:Hid (∀ (r:Pd.T) (p:Bl.Ps),p∈ps->Bl.AV w0 r p->∀ u bs',iU w0 u bs'->bs'.length<=790000->Calls Tryz.prog 65 #[.pointer (some ⟨p0,0,none⟩),Pd.val r] u fun e w'=>e=.returned (.tuple #[])/\iU w0 w' (bs'++Im.dS p)/\nC w0 u w'):=Lh fun r p hr hi u bs' h1 h2=>by
  rw [<- HP.out];exact OC r p bs' w0 u hi (HK.out p hr) h1 h2
 rw [hp];clear hL hk hm hW hp hE;go_enter Tryz.func64,Tryz.ntmps64;go_wp2_with fail;refine (WH.out w bs HW.out (by have:=HM.out;omega)).mono ?_;rintro e w1 ⟨rfl,i1,f1⟩;have HI1:=Lh i1;have jB:=Lh f1;clear i1 f1;go_wp2_with fail
 go_loopw [7,14] (fun _ j wr=>∃ k:Nat,k<=n/\j=.int .i64 k/\Hid (iU w0 wr (bs++nm (n:Int)++Im.bP Im.dS (ps.take k)))/\Hid (nC w0 w wr)) (fun _ j _=>n - (intOf j).toNat)
 case atStart=>exact ⟨0,by omega,rfl,Lh (by rw [List.take_zero,Im.bP,List.append_nil];exact HI1.out),jB⟩
 case round =>
  clear HI1 jB;rename World=>wz
  obtain ⟨k,hk,rfl,HI,HF⟩:=hrel;by_cases hlt:k < n
  ·
   obtain ⟨b,off,rfl⟩:=HL.out.at (by omega);have hkl:k < rs.length:=HN.out▸hlt;have hkp:k < ps.length:=HE.out.len▸hkl;have hrow:=(HL.out.row k hkl).below HI.out.dx;have HT:=Lh (Im.mM Im.dS hkp);have vK:=Lh (ae hkp);have Xt:=Lh (HE.out.each k hkl)
   have xK:Hid ((bs++nm (n:Int)++Im.bP Im.dS (ps.take k)).length<=790000):=Lh (by
    have h1:=Im.jL (B:=Im.dS) (M:=1400) (l:=ps.take k) fun a ha=>Im.G9 a (HK.out a (List.mem_of_mem_take ha))
    have h2:=bG (n:Int);have h3:=HM.out;rw [List.length_take] at h1;rw [ag,ag];have h4:min k ps.length*1400<=40*1400:=Nat.mul_le_mul_right _ (by omega);omega)
   obtain ⟨r,hr⟩:∃ r,rs[k]=r:=⟨_,rfl⟩;obtain ⟨q,hq⟩:∃ q,ps[k]=q:=⟨_,rfl⟩;rw [hr] at hrow Xt;rw [hq] at HT vK Xt;clear hr hq;obtain ⟨hI,hF⟩:=HI.out.boxed (Pd.block r);have WI:Hid (Ib w0 (Pd.box wz r) (bs++nm (n:Int)++Im.bP Im.dS (ps.take k)) wz.heap.size (Pd.block r)):=Lh hI;have Ol:Hid (nC w0 wz (Pd.box wz r)):=Lh hF;have hC:=Pd.dO wz r;clear hI hF;go_wp2_with (first | ((with_reducible apply Pd.aI hrow);rfl;rfl;rfl)|((with_reducible apply Pd.aQ (r:=r) (g:=wz.heap.size));rfl;rfl;rfl;rfl;rfl;rfl)|((with_reducible apply Pd.kE hC);rfl;rfl;rfl));refine (JG.out r q vK.out Xt.out _ _ WI.out.wr xK.out).mono ?_;rintro e w3 ⟨rfl,i3,f3⟩;have HI3:=Lh i3;have lM:=Lh ((HF.out.trans Ol.out).trans f3);clear i3 f3 hrow hC;go_wp2_with fail;go_roundw
   case rel =>
    refine ⟨k+1,by omega,by go_num,Lh ?_,lM⟩;rw [HT.out,<- List.append_assoc];exact HI3.out
   case measure=>simp [intOf];omega
  ·
   obtain rfl:k=n:=by omega
   have HR:Hid (iU w0 wz (bs++Im.bR Im.dS ps)):=Lh (by
    have h:=HI.out;have e:k=ps.length:=by have:=HN.out;have:=HE.out.len;omega
    rw [List.take_of_length_le (Nat.le_of_eq e.symm),List.append_assoc,e] at h;exact h)
   go_wp2_with fail;go_end0;exact ⟨rfl,HR.out,HF.out⟩
structure Im.StO (s:Bl.St):Prop where
 tab:s.tab.length<=24/\∀ r∈s.tab,r.cat.size<=64/\Fit r.y/\Fit r.m/\Fit r.d/\Fit r.bp
 av:s.av.length<=8/\∀ r∈s.av,r.name.size<=64/\Fit r.limit
 post:s.post.length<=40/\∀ p∈s.post,Im.PsO p
 ak:s.ak.length<=8/\∀ x∈s.ak,Fit x.id/\Fit x.last/\Fit x.why/\Fit x.num/\Fit x.au
 next:Fit s.next
theorem Im.jY {α :Type} {B: α ->List UInt8} {M N:Nat} {l:List α} (hl:l.length<=N) (h:∀ a∈l,(B a).length<=M):(Im.bR B l).length<=10+N*M:=by
 unfold Im.bR;rw [ag];have h1:=bG (l.length:Int);have h2:=Im.jL h;have h3:l.length*M<=N*M:=Nat.mul_le_mul_right _ hl;omega
theorem Tp (h:Bl.Sv) (s:Bl.St) (BS:List UInt8) (w0 w:World) (hL:Bl.kW w0 h s) (hO:Im.StO s) (hW:iU w0 w BS) (hm:BS.length<=100000) :
  Calls Tryz.prog 22 #[.pointer (some ⟨w0.heap.size,0,none⟩),h.val] w fun e w'=>e=.returned (.tuple #[])/\iU w0 w' (BS++Im.xQ s)/\nC w0 w w':=by
 have HW:=Lh hW;have HM:=Lh hm;have wO:=Lh hL;have HO:=Lh hO;have wT:=Lh hL.post;clear hW hm hL hO;unfold Bl.Sv.val Bl.sl;obtain ⟨hI,hF⟩:=HW.out.boxed (.cells #[.slice h.tab.ao h.tab.n h.tab.cap,.slice h.av.ao h.av.n h.av.cap,.slice h.post.ao h.post.n h.post.cap,.slice h.book.ao h.book.n h.book.cap,.slice h.ak.ao h.ak.n h.ak.cap,.int .i64 h.next] 30);obtain ⟨U,hU⟩:∃ U,w.alloc (.cells #[.slice h.tab.ao h.tab.n h.tab.cap,.slice h.av.ao h.av.n h.av.cap,.slice h.post.ao h.post.n h.post.cap,.slice h.book.ao h.book.n h.book.cap,.slice h.ak.ao h.ak.n h.ak.cap,.int .i64 h.next] 30)=U:=⟨_,rfl⟩;rw [hU] at hI hF;have HI0:=Lh hI;have Ow:=Lh hF;obtain ⟨g,hg⟩:∃ g,w.heap.size=g:=⟨_,rfl⟩;rw [hg] at HI0;have c0:=HI0.out.cell 0;have c1:=HI0.out.cell 1;have c2:=HI0.out.cell 2;have c3:=HI0.out.cell 3;have c4:=HI0.out.cell 4;have c5:=HI0.out.cell 5;simp only [List.getElem?_toArray,List.getElem?_cons_zero,List.getElem?_cons_succ] at c0 c1 c2 c3 c4 c5;clear hI hF;go_enter Tryz.func22,Tryz.ntmps22;go_wp2_with fail
 try rw [hU]
 try rw [hg]
 clear hU hg;refine (Oy s.tab h.tab.ao h.tab.n h.tab.cap BS w0 U (HI0.out.wr) wO.out.tab (fun r hr=>⟨by have:=(HO.out.tab.2 r hr).1;omega,(HO.out.tab.2 r hr).2⟩) (by have:=wO.out.tab.len;have:=HO.out.tab.1;omega) (by have:=HM.out;first | omega | (simp only [ag];omega))).mono ?_;rintro e w1 ⟨rfl,i1,f1⟩;have HI1:=Lh (HI0.out.next i1 f1);have jB:=Lh (Ow.out.trans f1);have lK:Hid ((Im.bR Im.gG s.tab).length<=60000):=Lh (Nat.le_trans (Im.jY (N:=24) (M:=2200) HO.out.tab.1 fun r hr=>Im.Tj r ⟨by have:=(HO.out.tab.2 r hr).1;omega,(HO.out.tab.2 r hr).2⟩) (by omega));clear c0 c1 c2 c3 c4 c5 i1 f1;have c0:=HI1.out.cell 0;have c1:=HI1.out.cell 1;have c2:=HI1.out.cell 2;have c3:=HI1.out.cell 3;have c4:=HI1.out.cell 4;have c5:=HI1.out.cell 5;simp only [List.getElem?_toArray,List.getElem?_cons_zero,List.getElem?_cons_succ] at c0 c1 c2 c3 c4 c5;go_wp2_with fail;refine (Oz s.av h.av.ao h.av.n h.av.cap (BS++Im.bR Im.gG s.tab) w0 w1 (HI1.out.wr) wO.out.av (fun r hr=>⟨by have:=(HO.out.av.2 r hr).1;omega,(HO.out.av.2 r hr).2⟩) (by have:=wO.out.av.len;have:=HO.out.av.1;omega) (by have:=HM.out;have:=lK.out;first | omega | (simp only [ag];omega))).mono ?_;rintro e w2 ⟨rfl,i2,f2⟩;have HI2:=Lh (HI1.out.next i2 f2);have ko:=Lh (jB.out.trans f2);have HL2:Hid ((Im.bR Im.iY s.av).length<=10000):=Lh (Nat.le_trans (Im.jY (N:=8) (M:=1100) HO.out.av.1 fun r hr=>Im.Tk r ⟨by have:=(HO.out.av.2 r hr).1;omega,(HO.out.av.2 r hr).2⟩) (by omega));clear c0 c1 c2 c3 c4 c5 i2 f2;have c0:=HI2.out.cell 0;have c1:=HI2.out.cell 1;have c2:=HI2.out.cell 2;have c3:=HI2.out.cell 3;have c4:=HI2.out.cell 4;have c5:=HI2.out.cell 5;simp only [List.getElem?_toArray,List.getElem?_cons_zero,List.getElem?_cons_succ] at c0 c1 c2 c3 c4 c5;go_wp2_with fail;refine (OD s.post wT.out.choose h.post.ao h.post.n h.post.cap ((BS++Im.bR Im.gG s.tab)++Im.bR Im.iY s.av) w0 w2 (HI2.out.wr) wT.out.choose_spec.1 wT.out.choose_spec.2 HO.out.post.2 (by have:=wT.out.choose_spec.1.len;have:=wT.out.choose_spec.2.len;have:=HO.out.post.1;omega) (by have:=HM.out;have:=lK.out;have:=HL2.out;first | omega | (simp only [ag];omega))).mono ?_;rintro e w3 ⟨rfl,i3,f3⟩;have HI3:=Lh (HI2.out.next i3 f3);have lM:=Lh (ko.out.trans f3);have uJ:Hid ((Im.bR Im.dS s.post).length<=60000):=Lh (Nat.le_trans (Im.jY (N:=40) (M:=1400) HO.out.post.1 fun p hp=>Im.G9 p (HO.out.post.2 p hp)) (by omega));clear c0 c1 c2 c3 c4 c5 i3 f3;have c0:=HI3.out.cell 0;have c1:=HI3.out.cell 1;have c2:=HI3.out.cell 2;have c3:=HI3.out.cell 3;have c4:=HI3.out.cell 4;have c5:=HI3.out.cell 5;simp only [List.getElem?_toArray,List.getElem?_cons_zero,List.getElem?_cons_succ] at c0 c1 c2 c3 c4 c5;go_wp2_with fail;refine (OB s.ak h.ak.ao h.ak.n h.ak.cap (((BS++Im.bR Im.gG s.tab)++Im.bR Im.iY s.av)++Im.bR Im.dS s.post) w0 w3 (HI3.out.wr) wO.out.ak HO.out.ak.2 (by have:=wO.out.ak.len;have:=HO.out.ak.1;omega) (by have:=HM.out;have:=lK.out;have:=HL2.out;have:=uJ.out;first | omega | (simp only [ag];omega))).mono ?_;rintro e w4 ⟨rfl,i4,f4⟩;have HI4:=Lh (HI3.out.next i4 f4);have Hu:=Lh (lM.out.trans f4);have AJ:Hid ((Im.bR Im.iG s.ak).length<=1000):=Lh (Nat.le_trans (Im.jY (N:=8) (M:=60) HO.out.ak.1 fun x hx=>Im.Tn x (HO.out.ak.2 x hx)) (by omega));clear c0 c1 c2 c3 c4 c5 i4 f4;have c0:=HI4.out.cell 0;have c1:=HI4.out.cell 1;have c2:=HI4.out.cell 2;have c3:=HI4.out.cell 3;have c4:=HI4.out.cell 4;have c5:=HI4.out.cell 5;simp only [List.getElem?_toArray,List.getElem?_cons_zero,List.getElem?_cons_succ] at c0 c1 c2 c3 c4 c5;go_wp2_with fail;refine (gQ h.next (by rw [wO.out.next];exact HO.out.next) ((((BS++Im.bR Im.gG s.tab)++Im.bR Im.iY s.av)++Im.bR Im.dS s.post)++Im.bR Im.iG s.ak) w0 w4 (HI4.out.wr) (by have:=HM.out;have:=lK.out;have:=HL2.out;have:=uJ.out;have:=AJ.out;first | omega | (simp only [ag];omega))).mono ?_
 rintro e w5 ⟨rfl,i5,f5⟩;have HI5:=Lh (HI4.out.next i5 f5);have WG:=Lh (Hu.out.trans f5);have OY:Hid ((nm h.next).length<=10):=Lh (bG _);clear c0 c1 c2 c3 c4 c5 i5 f5;go_wp2_with fail;go_end0;refine ⟨rfl,?_,WG.out⟩;have h:=HI5.out.wr;rw [wO.out.next] at h;unfold Im.xQ;simpa only [List.append_assoc] using h
open Mem
open Go.Sort (grow)
theorem nI (s:Bl.St) (h:Bl.Sv) (w0 w:World) (hw:Below w0.heap.size w0 w) (hL:Bl.kW w h s) :
  Calls Tryz.prog 14 #[h.val] w (Bl.Bb w0 (Bl.Right s)):=by
 have HW:=Lh hw;have HL:=Lh hL;have HX:=Lh hL.next;obtain ⟨rs,hP,hE⟩:=hL.post;have HP:=Lh hP;have HE:=Lh hE;have HN:Hid (h.post.n=s.post.length):=Lh (by have:=hP.len;have:=hE.len;omega);have hcap:=hP.reach;have hfit:=hP.fits;obtain ⟨U,hU⟩:∃ U,w.alloc (.cells #[.slice h.tab.ao h.tab.n h.tab.cap,.slice h.av.ao h.av.n h.av.cap,.slice h.post.ao h.post.n h.post.cap,.slice h.book.ao h.book.n h.book.cap,.slice h.ak.ao h.ak.n h.ak.cap,.int .i64 h.next] 30)=U:=⟨_,rfl⟩;obtain ⟨hB,k0,hs⟩:=Bl.Ua w (.cells #[.slice h.tab.ao h.tab.n h.tab.cap,.slice h.av.ao h.av.n h.av.cap,.slice h.post.ao h.post.n h.post.cap,.slice h.book.ao h.book.n h.book.cap,.slice h.ak.ao h.ak.n h.ak.cap,.int .i64 h.next] 30);rw [hU] at hB k0 hs;have hA:Bl.At U w.heap.size h:=k0;have HA0:=Lh hA;have HB0:=Lh hB;obtain ⟨x0,x1,x2,x3,x4,x5⟩:=hA.cells;clear k0 hL hP hE hw hB hs hA;unfold Bl.Sv.val Bl.sl;go_enter Tryz.func14,Tryz.ntmps14;go_wp2_with fail;clear hU;refine (sj s.tab h.tab.ao h.tab.n h.tab.cap U U ah (HL.out.tab.below HB0.out)).mono ?_;rintro e w1 ⟨rfl,b1⟩;have HB1:=Lh (aj HB0.out b1);have HA1:=Lh (HA0.out.below b1);clear b1 x0 x1 x2 x3 x4 x5;cases hq:Vt.bN s.tab
 ·
  have cK:Hid (¬ Bl.Right s):=Lh fun z=>by have l:=((Bl.gP s).2 z).tab;rw [hq] at l;cases l
  clear hq;go_wp2_with fail;go_ret;exact ⟨.inr ⟨cK.out,rfl⟩,aj HW.out HB1.out⟩
 ·
  have HQ1:=Lh hq;clear hq;obtain ⟨x0,x1,x2,x3,x4,x5⟩:=HA1.out.cells;go_wp2_with fail;refine (wN s.av h.av.ao h.av.n h.av.cap w1 w1 ah (HL.out.av.below HB1.out)).mono ?_;rintro e w2 ⟨rfl,b2⟩;have HB2:=Lh (aj HB1.out b2);have HA2:=Lh (HA1.out.below b2);clear b2 x0 x1 x2 x3 x4 x5;cases hq:Se.aA s.av
  ·
   have cK:Hid (¬ Bl.Right s):=Lh fun z=>by have l:=((Bl.gP s).2 z).av;rw [hq] at l;cases l
   clear hq;go_wp2_with fail;go_ret;exact ⟨.inr ⟨cK.out,rfl⟩,aj HW.out HB2.out⟩
  ·
   have HQ2:=Lh hq;clear hq;obtain ⟨x0,x1,x2,x3,x4,x5⟩:=HA2.out.cells;go_wp2_with fail;refine (Ed s.ak h.next h.ak.ao h.ak.n h.ak.cap w2 w2 ah (HL.out.ak.below HB2.out)).mono ?_;rintro e w3 ⟨hcase,b3⟩;have HB3:=Lh (aj HB2.out b3);have JR:=Lh (HA2.out.below b3);clear b3 x0 x1 x2 x3 x4 x5;rcases hcase with ⟨hyes,rfl⟩ | ⟨hno,rfl⟩
   ·
    have HQ3:=Lh hyes;clear hyes;obtain ⟨x0,x1,x2,x3,x4,x5⟩:=JR.out.cells;by_cases Zq:h.post.n<=40
    ·
     have d4:decide ((h.post.n:Int)<=40)=true:=decide_eq_true (by omega);have H40:=Lh Zq;clear Zq;go_wp2_with fail;clear d4;refine (Ee s.post rs s.av h.post.ao h.av.ao h.post.n h.post.cap h.av.n h.av.cap w3 w3 ah (HP.out.below HB3.out) (HE.out.below HB3.out) (HL.out.av.below HB3.out) HQ2.out (by have:=H40.out;omega)).mono ?_;rintro e w4 ⟨hcase,b4⟩;have pR:=Lh (aj HB3.out b4);have JX:=Lh (JR.out.below b4);clear b4 x0 x1 x2 x3 x4 x5;rcases hcase with ⟨hyes,rfl⟩ | ⟨hno,rfl⟩
     ·
      have HQ4:=Lh hyes;clear hyes;obtain ⟨x0,x1,x2,x3,x4,x5⟩:=JX.out.cells;go_wp2_with fail;refine (Ef s.post rs h.post.ao h.post.n h.post.cap w4 w4 ah (HP.out.below pR.out) (HE.out.below pR.out)).mono ?_;rintro e w5 ⟨hcase,b5⟩;have tZ:=Lh (aj pR.out b5);have Wz:=Lh (JX.out.below b5);clear b5 x0 x1 x2 x3 x4 x5;rcases hcase with ⟨hyes,rfl⟩ | ⟨hno,rfl⟩
      ·
       have HQ5:=Lh hyes;clear hyes;obtain ⟨x0,x1,x2,x3,x4,x5⟩:=Wz.out.cells;go_wp2_with fail;refine (El s.post rs h.post.ao h.post.n h.post.cap w5 w5 ah (HP.out.below tZ.out) (HE.out.below tZ.out) HQ5.out).mono ?_;rintro e w6 ⟨hcase,b6⟩;have DU:=Lh (aj tZ.out b6);have HA6:=Lh (Wz.out.below b6);clear b6 x0 x1 x2 x3 x4 x5;rcases hcase with ⟨hyes,rfl⟩ | ⟨hno,rfl⟩
       ·
        have HQ6:=Lh hyes;clear hyes;obtain ⟨x0,x1,x2,x3,x4,x5⟩:=HA6.out.cells;go_wp2_with fail;refine (J4 s.post s.book rs h.post.ao h.book.ao h.post.n h.post.cap h.book.n h.book.cap w6 w6 ah (HP.out.below DU.out) (HE.out.below DU.out) (HL.out.book.below DU.out) HQ5.out H40.out).mono ?_;rintro e w7 ⟨hcase,b7⟩;have ZO:=Lh (aj DU.out b7);have HA7:=Lh (HA6.out.below b7);clear b7 x0 x1 x2 x3 x4 x5;rcases hcase with ⟨hyes,rfl⟩ | ⟨hno,rfl⟩
        ·
         have HQ7:=Lh hyes;clear hyes;have iM:Hid (Bl.Right s):=Lh ((Bl.gP s).1 (by have a3:=HQ3.out;rw [HX.out] at a3;exact ⟨HQ1.out,HQ2.out,a3.1,a3.2.1,a3.2.2,by have:=H40.out;have:=HN.out;omega,HQ4.out,HQ5.out,HQ6.out,HQ7.out⟩));go_wp2_with fail;go_ret;exact ⟨.inl ⟨iM.out,rfl⟩,aj HW.out ZO.out⟩
        ·
         have cK:Hid (¬ Bl.Right s):=Lh fun z=>hno ((Bl.gP s).2 z).book
         clear hno;go_wp2_with fail;go_ret;exact ⟨.inr ⟨cK.out,rfl⟩,aj HW.out ZO.out⟩
       ·
        have cK:Hid (¬ Bl.Right s):=Lh fun z=>hno ((Bl.gP s).2 z).UN
        clear hno;go_wp2_with fail;go_ret;exact ⟨.inr ⟨cK.out,rfl⟩,aj HW.out DU.out⟩
      ·
       have cK:Hid (¬ Bl.Right s):=Lh fun z=>hno ((Bl.gP s).2 z).each
       clear hno;go_wp2_with fail;go_ret;exact ⟨.inr ⟨cK.out,rfl⟩,aj HW.out tZ.out⟩
     ·
      have cK:Hid (¬ Bl.Right s):=Lh fun z=>hno ((Bl.gP s).2 z).num
      clear hno;go_wp2_with fail;go_ret;exact ⟨.inr ⟨cK.out,rfl⟩,aj HW.out pR.out⟩
    ·
     have d4:decide ((h.post.n:Int)<=40)=false:=decide_eq_false (by omega);have cK:Hid (¬ Bl.Right s):=Lh fun z=>Zq (by have l:=((Bl.gP s).2 z).few;have:=HN.out;omega)
     clear Zq;go_wp2_with fail;go_ret;exact ⟨.inr ⟨cK.out,rfl⟩,aj HW.out HB3.out⟩
   ·
    have cK:Hid (¬ Bl.Right s):=Lh fun z=>hno (by have l:=(Bl.gP s).2 z;rw [HX.out];exact ⟨l.next,l.ak,l.ids⟩)
    clear hno;go_wp2_with fail;go_ret;exact ⟨.inr ⟨cK.out,rfl⟩,aj HW.out HB3.out⟩
theorem Im.Tq {h:Bl.Sv} {s:Bl.St} (hR:Bl.Right s) (hL:Bl.kW w h s):Im.StO s:=by
 have h1:s.tab.length<=24/\∀ r∈s.tab,Vt.gT r=0:=by
  have:=hR.tab;unfold Vt.bN at this;rw [Bool.and_eq_true] at this;exact ⟨of_decide_eq_true this.1,((Vt.iP _ _).1 this.2).1⟩
 have h2:=(Se.aJ _).1 hR.av
 have h3:s.ak.length<=8:=by
  have:=hR.ak;unfold Sp.aA at this;rw [Bool.and_eq_true] at this;exact of_decide_eq_true this.1
 obtain ⟨rs,hP,hE⟩:=hL.post
 have Tv:∀ p∈s.post,p.av.size<=24:=fun p hp=>by
  obtain ⟨r,hr,e⟩:=Se.jR.1 (hR.has p hp);rw [<- e];exact Im.nA (Se.bL.1 (h2.2.1 r hr)).1
 refine ⟨⟨h1.1,fun r hr=>?_⟩,⟨h2.1,fun r hr=>?_⟩,⟨hR.few,fun p hp=>?_⟩,⟨h3,fun x hx=>hL.ak.short x hx⟩,hL.fit⟩
 ·
  have a:=h1.2 r hr;have b:=hL.tab.short r hr;have c:r.cat.size<=24:=Im.nA (Vt.oH.1 a).1;exact ⟨by omega,b.2⟩
 ·
  have a:=Se.bL.1 (h2.2.1 r hr);have b:=hL.av.short r hr;exact ⟨by have:=Im.nA a.1;omega,b.2.2⟩
 ·
  obtain ⟨i,hi,e⟩:=List.getElem_of_mem hp;have hir:i < rs.length:=hE.len▸hi;have hs:=hP.short _ (ae hir);have he:=hE.each i hir;rw [e] at he;have hT:=hR.tot p hp;refine ⟨by have:=Tv p hp;omega,⟨he.y▸hs.2.2.1,he.m▸hs.2.2.2.1,he.d▸hs.2.2.2.2.1⟩,?_,he.aY▸hs.2.2.2.2.2.2.2.2.2,hT.few,fun x hx=>?_⟩
  ·
   by_cases o:Bl.Own p
   ·
    rw [o.1]
    decide
   ·
    have hl:=(hR.link i hi).of (by rw [e];exact o);obtain ⟨_,k,hk,ht,_⟩:=hl;rw [e] at ht;rw [ht.1];have:=Tv _ (ae (show k < s.post.length by omega));omega
  ·
   have b:=he.parts.short x hx;exact ⟨by have:=Im.nA (hT.each x hx).1;omega,b.2.1,b.2.2.1⟩
def Im.YK (w0 w:World) (s:Bl.St) (e:Ending) (w':World):Prop:=(Bl.Right s/\(∃ ao n cap,e=.returned (.slice ao n cap)/\By.Ls w' ao n cap (Im.xQ s)/\∀ ad,ao=some ad->∃ g,ad=⟨g,0,none⟩/\w.heap.size<=g)\/ ¬ Bl.Right s/\e=.returned (.slice none 0 0))/\Below w0.heap.size w0 w'
theorem En (h:Bl.Sv) (s:Bl.St) (w0 w:World) (hw:Below w0.heap.size w0 w) (hL:Bl.kW w h s):Calls Tryz.prog 9 #[h.val] w (Im.YK w0 w s):=by
 have HW:=Lh hw;have HL:=Lh hL;obtain ⟨U,hU⟩:∃ U,w.alloc (.cells #[.slice h.tab.ao h.tab.n h.tab.cap,.slice h.av.ao h.av.n h.av.cap,.slice h.post.ao h.post.n h.post.cap,.slice h.book.ao h.book.n h.book.cap,.slice h.ak.ao h.ak.n h.ak.cap,.int .i64 h.next] 30)=U:=⟨_,rfl⟩;obtain ⟨hB,k0,hs⟩:=Bl.Ua w (.cells #[.slice h.tab.ao h.tab.n h.tab.cap,.slice h.av.ao h.av.n h.av.cap,.slice h.post.ao h.post.n h.post.cap,.slice h.book.ao h.book.n h.book.cap,.slice h.ak.ao h.ak.n h.ak.cap,.int .i64 h.next] 30);rw [hU] at hB k0 hs;have hA:Bl.At U w.heap.size h:=k0;have HA:=Lh hA;have HB:=Lh hB;clear k0 hs hB hw hL;unfold Bl.Sv.val Bl.sl;go_enter Tryz.func9,Tryz.ntmps9;go_wp2_with (first | ((with_reducible apply Bl.aI hA);rfl;rfl;rfl));clear hU hA;refine (nI s h U U ah (HL.out.below HB.out)).mono ?_;rintro e w1 ⟨hcase,b1⟩;have HB1:=Lh (aj HB.out b1);have HA1:=Lh (HA.out.below b1);clear b1;rcases hcase with ⟨hR,rfl⟩ | ⟨hN,rfl⟩
 ·
  have HR:=Lh hR;clear hR;have hbw:Below w1.heap.size w1 (w1.alloc (.cells #[.slice none 0 0] 72)):=ah.alloc (ac _) _;have HI:Hid (iU w1 (w1.alloc (.cells #[.slice none 0 0] 72)) []):=Lh ⟨none,0,0,hbw,heap_alloc_new w1 _,By.aN _ _⟩;obtain ⟨W,hW⟩:∃ W,w1.alloc (.cells #[.slice none 0 0] 72)=W:=⟨_,rfl⟩;rw [hW] at HI hbw;have hAW:=HA1.out.below hbw;have dz:=Lh (aj HB1.out hbw);clear hbw;go_wp2_with (first | ((with_reducible apply Bl.aI hAW);rfl;rfl;rfl));clear hW hAW;refine (Tp h s [] w1 W (HL.out.below HB1.out) (Im.Tq HR.out HL.out) HI.out (by simp)).mono ?_;rintro e w2 ⟨rfl,⟨ao,n,cap,i2⟩,_⟩;rw [List.nil_append] at i2;have HI2:=Lh i2;have c2:=i2.cell;clear i2;go_wp2_with fail;go_ret;obtain ⟨Hw,cap',e1,l1,g1⟩:=By.aX HI2.out.own;simp only [Value.slice.injEq] at e1;obtain ⟨rfl,e2,rfl⟩:=e1;rw [<- e2] at l1;refine ⟨.inl ⟨HR.out,ao,n,cap,rfl,l1,fun ad q=>?_⟩,aj HW.out (aj HB1.out HI2.out.dx)⟩;obtain ⟨g,h1,h2⟩:=g1 ad q;exact ⟨g,h1,by have:=HB1.out.size;omega⟩
 ·
  have cK:=Lh hN;clear hN;go_wp2_with fail;go_ret;exact ⟨.inr ⟨cK.out,rfl⟩,aj HW.out HB1.out⟩
def Bl.chk7 (ops:Array Oper):Bool:=Region.noSelect ops&&Bl.tk ops [false,false,false,false,false,false,false] 0&&Bl.tk ops [true,false,false,false,false,false,false] 1&&Bl.tk ops [true,true,false,false,false,false,false] 2&&Bl.tk ops [true,true,true,false,false,false,false] 3&&(Region.ready .any ops #[true,true,true,true,false,false,false]==[4])&&(Region.ready .any ops #[true,true,true,true,true,false,false]==[5])&&(Region.ready .any ops #[true,true,true,true,true,true,false]==[6])&&(Region.ready .any ops #[true,true,true,true,true,true,true]==[])
theorem Bl.Tw {id:Nat} {o0 o1 o2 o3 o4 o5 o6:Oper} (h:Bl.Sv) (v1 v2 v3:Value) (gS gR:Nat) {h0:Bl.Sv} {r0:Rp.T} {x5 y5 x6 y6:Tmp} {f:FuncId} {args:Array Value} (vV:∀ u,Below w.heap.size w u->S u) (SX:∀ u vs,S u->S (World.setRow u gS vs)/\S (World.setRow u gR vs)) (hA:Bl.At w gS h0) (hB:Rp.Bk w gR r0) (hn:gS≠gR) (hc:Bl.chk7 #[o0,o1,o2,o3,o4,o5,o6]=true)
  (y0:YieldsIf Tryz.prog #[o0,o1,o2,o3,o4,o5,o6] S o0 h.val a) (y1:YieldsIf Tryz.prog #[o0,o1,o2,o3,o4,o5,o6] S o1 v1 (a.put o0.dst h.val)) (y2:YieldsIf Tryz.prog #[o0,o1,o2,o3,o4,o5,o6] S o2 v2 ((a.put o0.dst h.val).put o1.dst v1)) (y3:YieldsIf Tryz.prog #[o0,o1,o2,o3,o4,o5,o6] S o3 v3 (((a.put o0.dst h.val).put o1.dst v1).put o2.dst v2))
  (q0:∀ c a w,Q (.panic c) (Act.put a o0.dst h.val) w->Q (.panic c) a w) (q1:∀ c a w,Q (.panic c) (Act.put a o1.dst v1) w->Q (.panic c) a w) (q2:∀ c a w,Q (.panic c) (Act.put a o2.dst v2) w->Q (.panic c) a w) (q3:∀ c a w,Q (.panic c) (Act.put a o3.dst v3) w->Q (.panic c) a w)
  (hg4:o4.guard=none) (hrun:(execOp ((((a.put o0.dst h.val).put o1.dst v1).put o2.dst v2).put o3.dst v3).eval o4).run Tryz.prog w.drew=.ok (.enter f args) w.drew)
  (ho5:o5.op=.store 30 (.tmp x5) (.tmp y5)) (hg5:o5.guard=none) (hd5:o5.dst=none) (ho6:o6.op=.store 43 (.tmp x6) (.tmp y6)) (Zz:o6.guard=none) (hd6:o6.dst=none)
  (k:Calls Tryz.prog f args w.drew fun e u=>∃ q:Rp.T,e=.returned (Rp.val q)/\Below w.heap.size w u/\(((((a.put o0.dst h.val).put o1.dst v1).put o2.dst v2).put o3.dst v3).put o4.dst (Rp.val q)).tmps.toList[x5]? =some (.pointer (some ⟨gS,0,none⟩))/\(((((a.put o0.dst h.val).put o1.dst v1).put o2.dst v2).put o3.dst v3).put o4.dst (Rp.val q)).tmps.toList[y5]? =some h.val/\(((((a.put o0.dst h.val).put o1.dst v1).put o2.dst v2).put o3.dst v3).put o4.dst (Rp.val q)).tmps.toList[x6]? =some (.pointer (some ⟨gR,0,none⟩))/\(((((a.put o0.dst h.val).put o1.dst v1).put o2.dst v2).put o3.dst v3).put o4.dst (Rp.val q)).tmps.toList[y6]? =some (Rp.val q) /\
   Q .normal (((((a.put o0.dst h.val).put o1.dst v1).put o2.dst v2).put o3.dst v3).put o4.dst (Rp.val q)) (Bl.fA u gS gR h q)) :
  (Code.region id #[o0,o1,o2,o3,o4,o5,o6] true).wp Tryz.prog Q a w:=by
 unfold Bl.chk7 at hc;simp only [Bool.and_eq_true,beq_iff_eq] at hc;obtain ⟨⟨⟨⟨⟨⟨⟨⟨c,c0⟩,c1⟩,c2⟩,c3⟩,c4⟩,c5⟩,c6⟩,c7⟩:=hc;have hw0:Below w.heap.size w w.drew:=ah.drew;refine wp_region_held_drew (S:=S) (by kernel_rfl) (vV _ hw0) (fun hH=>?_);show wpAnyH Tryz.prog .any #[o0,o1,o2,o3,o4,o5,o6] Q _ 7 [false,false,false,false,false,false,false].toArray a w.drew;refine Bl.aO (i:=0) (oi:=o0) rfl c c0 q0 y0 hH ?_;refine Bl.aO (i:=1) (oi:=o1) rfl c c1 q1 y1 hH ?_;refine Bl.aO (i:=2) (oi:=o2) rfl c c2 q2 y2 hH ?_;refine Bl.aO (i:=3) (oi:=o3) rfl c c3 q3 y3 hH ?_;refine Bl.eu (i:=4) (oi:=o4) rfl c4 (fun K hK=>?_);refine Bl.fB hg4 hrun (k.mono ?_);rintro e u ⟨q,rfl,hb,e5,f5,e6,f6,hk⟩;refine ⟨_,rfl,hK.out _ _ (vV _ hb) fun hS=>?_⟩;clear hK K;refine Bl.eu (i:=5) (oi:=o5) rfl c5 (fun K hK=>?_);refine Bl.dJ hg5 ho5 hd5 e5 f5 (hA.below hb) (hK.out _ _ (SX _ _ hS).1 fun hS2=>?_);clear hK K;refine Bl.eu (i:=6) (oi:=o6) rfl c6 (fun K hK=>?_);refine Rp.dJ Zz ho6 hd6 e6 f6 ((hB.below hb).other (Ne.symm hn) _) (hK.out _ _ (SX _ _ hS2).2 fun yI=>?_);clear hK K;exact wpAnyH_done c7 hk _
section
variable {ops:Array Oper} {o:Oper} {a:Act} {S:World->Prop} {t:Tmp} {g:Nat}
theorem Bl.ZP (hgd:o.guard=none) (ho:o.op=.fieldAddr 57 (.tmp t) 1) (hp:a.tmps.toList[t]? =some (.pointer (some ⟨g,0,none⟩))):YieldsIf Tryz.prog ops S o (.pointer (some ⟨g,1,none⟩)) a:=by
 refine .inl ⟨by simp [Region.wanted,hgd],fun u _=>?_⟩;simp only [execOp,ho,Ca.gY hp];simp [go_sem]
theorem Bl.y_str {k:Nat} {s:ByteArray} (hgd:o.guard=none) (ho:o.op=.load 9 (.tmp t)) (hp:a.tmps.toList[t]? =some (.pointer (some ⟨g,k,none⟩))) (hS:∀ u,S u->u.cell? ⟨g,k,none⟩=some (.string s)):YieldsIf Tryz.prog ops S o (.string s) a:=by
 refine .inl ⟨by simp [Region.wanted,hgd],fun u hu=>?_⟩;have h:=hS u hu;simp only [execOp,ho,Ca.gY hp];simp [go_sem,h]
end
def Bl.LK (s:Bl.St) (c:Bl.Cm):Bl.St:=if Se.eX s.av c.av c.lim=0 then ⟨s.tab,Se.jT s.av c.av c.lim,s.post,s.book,s.ak,s.next⟩ else s
def Bl.LM (s:Bl.St) (c:Bl.Cm):Bl.St:=if Se.mV s.av c.av=0 then ⟨s.tab,Se.sQ s.av c.av,s.post,s.book,s.ak,s.next⟩ else s
def Bl.vU (s:Bl.St) (c:Bl.Cm):Bl.St:=if c.kind=1 then Bl.LK s c else if c.kind=2 then Bl.LM s c else if c.kind=3 then Bl.FY s c.row else if c.kind=4 then Bl.Al s c else if c.kind=5 then Bl.tH s c else if c.kind=7 then Bl.zR s c.ak else s
def Bl.sH (s:Bl.St) (c:Bl.Cm):Rp.T:=if c.kind=1 then ⟨Se.eX s.av c.av c.lim,0,0⟩ else if c.kind=2 then ⟨Se.mV s.av c.av,0,0⟩ else if c.kind=3 then ⟨Vt.iQ s.tab c.row,0,0⟩ else if c.kind=4 then Bl.xM s c else if c.kind=5 then Bl.rO s c else if c.kind=7 then ⟨Sp.dU s.ak c.ak,0,0⟩ else Bl.GJ s c.av
theorem WK (P0:Nat->Prop) (s:Bl.St) (h:Bl.Sv) (r:Ca.T) (c:Bl.Cm) (w:World) (hL:Bl.Lp P0 w h s) (hI:Bl.Om w r c) (hS:Ca.Short r) (hR:Bl.Right s) (hk:c.kind=3) :
  Calls Tryz.prog 38 #[h.val,Ca.nX r] w (Bl.uy P0 w (Bl.vU s c) (Bl.sH s c)):=by
 have HL:=Lh hL;have HI:=Lh hI;have bT:=Lh hS;have HR:=Lh hR;have He:Hid (Bl.vU s c=Bl.FY s c.row):=Lh (by unfold Bl.vU;simp [hk]);have HDR:Hid (Bl.sH s c=⟨Vt.iQ s.tab c.row,0,0⟩):=Lh (by unfold Bl.sH;simp [hk]);have hkr:r.kind=3:=hI.kind.trans hk;obtain ⟨U,hU,hA,hF,iN⟩:=Bl.OV w h (Ca.nY r);have c0:U.cell? ⟨w.heap.size+1,0,none⟩=some (.int .i64 3):=by rw [cell_of_row U _ 0 _ _ _ iN,<- hkr];rfl
 have c3:U.cell? ⟨w.heap.size+1,3,none⟩=some (.string r.cat):=by rw [cell_of_row U _ 3 _ _ _ iN];rfl
 have c4:U.cell? ⟨w.heap.size+1,4,none⟩=some (.int .i64 r.ry):=by rw [cell_of_row U _ 4 _ _ _ iN];rfl
 have c5:U.cell? ⟨w.heap.size+1,5,none⟩=some (.int .i64 r.rm):=by rw [cell_of_row U _ 5 _ _ _ iN];rfl
 have c6:U.cell? ⟨w.heap.size+1,6,none⟩=some (.int .i64 r.rd):=by rw [cell_of_row U _ 6 _ _ _ iN];rfl
 have c7:U.cell? ⟨w.heap.size+1,7,none⟩=some (.int .i64 r.bp):=by rw [cell_of_row U _ 7 _ _ _ iN];rfl
 have HA:=Lh hA;have HF:=Lh hF;have gV:=Lh iN;have iB:Hid (w.heap.size+1+1+1 < U.heap.size):=Lh hF.rp.lt;obtain ⟨x0,x1,x2,x3,x4,x5⟩:=hA.cells;clear hL hI hS hR hF hk hkr;unfold Bl.Sv.val Bl.sl Ca.nX;unfold Ca.nY at hU;go_enter Tryz.func38,Tryz.ntmps38;go_wp2_with (first | ((with_reducible apply Bl.aI hA);rfl;rfl;rfl)|((with_reducible apply Ca.yH iN);rfl;rfl;rfl));clear hU;rw [<- HI.out.row] at He HDR;refine (Rz (fun b=>P0 b/\b < w.heap.size) s h ⟨r.cat,r.ry,r.rm,r.rd,r.bp⟩ U (HL.out.lt.below HF.out.dx) ⟨bT.out.2.2.2.2.2.1,bT.out.2.2.2.2.2.2.1,bT.out.2.2.2.2.2.2.2.1,bT.out.2.2.2.2.2.2.2.2.1,bT.out.2.2.2.2.2.2.2.2.2.1⟩).mono ?_;clear c0 c3 c4 c5 c6 c7 x0 x1 x2 x3 x4 x5;rintro e w3 ⟨h',rfl,hL3,b3⟩;have uJ:=Lh hL3;have lu:=HF.out.below b3;have lM:=Lh lu;have yI:=lu.st;have wJ:=lu.MZ h';obtain ⟨q,hq⟩:∃ q,(⟨Vt.iQ s.tab ⟨r.cat,r.ry,r.rm,r.rd,r.bp⟩,0,0⟩:Rp.T)=q:=⟨_,rfl⟩;rw [hq] at HDR ⊢;clear hq hL3 b3 lu hA iN;go_wp2_with (first | ((with_reducible apply Bl.aU (h:=h') yI);rfl;rfl;rfl;rfl)|((with_reducible apply Rp.aU (r:=q) wJ);rfl;rfl;rfl;rfl));refine lM.out.ret Tryz.results38 h' q rfl rfl rfl fun b=>?_
 rw [He.out,HDR.out];exact ⟨_,rfl,(uJ.out.fA (w:=w) (fun b z=>z.2) (by omega) (by have:=iB.out;omega) (by omega) (by have:=iB.out;omega)).mono (fun b z=>z.elim (fun y=>.inl y.1) .inr),b⟩
theorem WL (P0:Nat->Prop) (s:Bl.St) (h:Bl.Sv) (r:Ca.T) (c:Bl.Cm) (w:World) (hL:Bl.Lp P0 w h s) (hI:Bl.Om w r c) (hS:Ca.Short r) (hR:Bl.Right s) (hk:c.kind=4) :
  Calls Tryz.prog 38 #[h.val,Ca.nX r] w (Bl.uy P0 w (Bl.vU s c) (Bl.sH s c)):=by
 have HL:=Lh hL;have HI:=Lh hI;have bT:=Lh hS;have HR:=Lh hR;have He:Hid (Bl.vU s c=Bl.Al s c):=Lh (by unfold Bl.vU;simp [hk]);have HDR:Hid (Bl.sH s c=Bl.xM s c):=Lh (by unfold Bl.sH;simp [hk]);have hkr:r.kind=4:=hI.kind.trans hk;obtain ⟨U,hU,hA,hF,iN⟩:=Bl.OV w h (Ca.nY r);have c0:U.cell? ⟨w.heap.size+1,0,none⟩=some (.int .i64 4):=by rw [cell_of_row U _ 0 _ _ _ iN,<- hkr];rfl
 have HA:=Lh hA;have HF:=Lh hF;have gV:=Lh iN;have iB:Hid (w.heap.size+1+1+1 < U.heap.size):=Lh hF.rp.lt;obtain ⟨x0,x1,x2,x3,x4,x5⟩:=hA.cells;clear hL hI hS hR hF hk hkr;unfold Bl.Sv.val Bl.sl Ca.nX;unfold Ca.nY at hU;go_enter Tryz.func38,Tryz.ntmps38;go_wp2_with (first | ((with_reducible apply Bl.aI hA);rfl;rfl;rfl)|((with_reducible apply Ca.yH iN);rfl;rfl;rfl));clear hU;refine (SS (fun b=>P0 b/\b < w.heap.size) s h r c U (HL.out.lt.below HF.out.dx) (HI.out.below HF.out.dx) bT.out HR.out).mono ?_;clear c0 x0 x1 x2 x3 x4 x5;rintro e w3 ⟨h',rfl,hL3,b3⟩;have uJ:=Lh hL3;have lu:=HF.out.below b3;have lM:=Lh lu;have yI:=lu.st;have wJ:=lu.MZ h';obtain ⟨q,hq⟩:∃ q,Bl.xM s c=q:=⟨_,rfl⟩;rw [hq] at HDR ⊢;clear hq hL3 b3 lu hA iN;go_wp2_with (first | ((with_reducible apply Bl.aU (h:=h') yI);rfl;rfl;rfl;rfl)|((with_reducible apply Rp.aU (r:=q) wJ);rfl;rfl;rfl;rfl));refine lM.out.ret Tryz.results38 h' q rfl rfl rfl fun b=>?_
 rw [He.out,HDR.out];exact ⟨_,rfl,(uJ.out.fA (w:=w) (fun b z=>z.2) (by omega) (by have:=iB.out;omega) (by omega) (by have:=iB.out;omega)).mono (fun b z=>z.elim (fun y=>.inl y.1) .inr),b⟩
theorem WM (P0:Nat->Prop) (s:Bl.St) (h:Bl.Sv) (r:Ca.T) (c:Bl.Cm) (w:World) (hL:Bl.Lp P0 w h s) (hI:Bl.Om w r c) (hS:Ca.Short r) (hR:Bl.Right s) (hk:c.kind=5) :
  Calls Tryz.prog 38 #[h.val,Ca.nX r] w (Bl.uy P0 w (Bl.vU s c) (Bl.sH s c)):=by
 have HL:=Lh hL;have HI:=Lh hI;have bT:=Lh hS;have HR:=Lh hR;have He:Hid (Bl.vU s c=Bl.tH s c):=Lh (by unfold Bl.vU;simp [hk]);have HDR:Hid (Bl.sH s c=Bl.rO s c):=Lh (by unfold Bl.sH;simp [hk]);have hkr:r.kind=5:=hI.kind.trans hk;obtain ⟨U,hU,hA,hF,iN⟩:=Bl.OV w h (Ca.nY r);have c0:U.cell? ⟨w.heap.size+1,0,none⟩=some (.int .i64 5):=by rw [cell_of_row U _ 0 _ _ _ iN,<- hkr];rfl
 have HA:=Lh hA;have HF:=Lh hF;have gV:=Lh iN;have iB:Hid (w.heap.size+1+1+1 < U.heap.size):=Lh hF.rp.lt;obtain ⟨x0,x1,x2,x3,x4,x5⟩:=hA.cells;clear hL hI hS hR hF hk hkr;unfold Bl.Sv.val Bl.sl Ca.nX;unfold Ca.nY at hU;go_enter Tryz.func38,Tryz.ntmps38;go_wp2_with (first | ((with_reducible apply Bl.aI hA);rfl;rfl;rfl)|((with_reducible apply Ca.yH iN);rfl;rfl;rfl));clear hU;refine (JW (fun b=>P0 b/\b < w.heap.size) s h r c U (HL.out.lt.below HF.out.dx) (HI.out.below HF.out.dx) bT.out HR.out).mono ?_;clear c0 x0 x1 x2 x3 x4 x5;rintro e w3 ⟨h',rfl,hL3,b3⟩;have uJ:=Lh hL3;have lu:=HF.out.below b3;have lM:=Lh lu;have yI:=lu.st;have wJ:=lu.MZ h';obtain ⟨q,hq⟩:∃ q,Bl.rO s c=q:=⟨_,rfl⟩;rw [hq] at HDR ⊢;clear hq hL3 b3 lu hA iN;go_wp2_with (first | ((with_reducible apply Bl.aU (h:=h') yI);rfl;rfl;rfl;rfl)|((with_reducible apply Rp.aU (r:=q) wJ);rfl;rfl;rfl;rfl));refine lM.out.ret Tryz.results38 h' q rfl rfl rfl fun b=>?_
 rw [He.out,HDR.out];exact ⟨_,rfl,(uJ.out.fA (w:=w) (fun b z=>z.2) (by omega) (by have:=iB.out;omega) (by omega) (by have:=iB.out;omega)).mono (fun b z=>z.elim (fun y=>.inl y.1) .inr),b⟩
theorem WO (P0:Nat->Prop) (s:Bl.St) (h:Bl.Sv) (r:Ca.T) (c:Bl.Cm) (w:World) (hL:Bl.Lp P0 w h s) (hI:Bl.Om w r c) (hS:Ca.Short r) (hR:Bl.Right s) (hk:c.kind=7) :
  Calls Tryz.prog 38 #[h.val,Ca.nX r] w (Bl.uy P0 w (Bl.vU s c) (Bl.sH s c)):=by
 have HL:=Lh hL;have HI:=Lh hI;have bT:=Lh hS;have HR:=Lh hR;have He:Hid (Bl.vU s c=Bl.zR s c.ak):=Lh (by unfold Bl.vU;simp [hk]);have HDR:Hid (Bl.sH s c=⟨Sp.dU s.ak c.ak,0,0⟩):=Lh (by unfold Bl.sH;simp [hk]);have hkr:r.kind=7:=hI.kind.trans hk;obtain ⟨U,hU,hA,hF,iN⟩:=Bl.OV w h (Ca.nY r);have c0:U.cell? ⟨w.heap.size+1,0,none⟩=some (.int .i64 7):=by rw [cell_of_row U _ 0 _ _ _ iN,<- hkr];rfl
 have c14:U.cell? ⟨w.heap.size+1,14,none⟩=some (.int .i64 r.fF):=by rw [cell_of_row U _ 14 _ _ _ iN];rfl
 have HA:=Lh hA;have HF:=Lh hF;have gV:=Lh iN;have iB:Hid (w.heap.size+1+1+1 < U.heap.size):=Lh hF.rp.lt;obtain ⟨x0,x1,x2,x3,x4,x5⟩:=hA.cells;clear hL hI hS hR hF hk hkr;unfold Bl.Sv.val Bl.sl Ca.nX;unfold Ca.nY at hU;go_enter Tryz.func38,Tryz.ntmps38;go_wp2_with (first | ((with_reducible apply Bl.aI hA);rfl;rfl;rfl)|((with_reducible apply Ca.yH iN);rfl;rfl;rfl));clear hU;rw [<- HI.out.fF] at He HDR;refine (Nr (fun b=>P0 b/\b < w.heap.size) s h r.fF U (HL.out.lt.below HF.out.dx) bT.out.2.2.2.2.2.2.2.2.2.2.2.2.2.2.2).mono ?_;clear c0 c14 x0 x1 x2 x3 x4 x5;rintro e w3 ⟨h',rfl,hL3,b3⟩;have uJ:=Lh hL3;have lu:=HF.out.below b3;have lM:=Lh lu;have yI:=lu.st;have wJ:=lu.MZ h';obtain ⟨q,hq⟩:∃ q,(⟨Sp.dU s.ak r.fF,0,0⟩:Rp.T)=q:=⟨_,rfl⟩;rw [hq] at HDR ⊢;clear hq hL3 b3 lu hA iN;go_wp2_with (first | ((with_reducible apply Bl.aU (h:=h') yI);rfl;rfl;rfl;rfl)|((with_reducible apply Rp.aU (r:=q) wJ);rfl;rfl;rfl;rfl));refine lM.out.ret Tryz.results38 h' q rfl rfl rfl fun b=>?_
 rw [He.out,HDR.out];exact ⟨_,rfl,(uJ.out.fA (w:=w) (fun b z=>z.2) (by omega) (by have:=iB.out;omega) (by omega) (by have:=iB.out;omega)).mono (fun b z=>z.elim (fun y=>.inl y.1) .inr),b⟩
theorem WQ (P0:Nat->Prop) (s:Bl.St) (h:Bl.Sv) (r:Ca.T) (c:Bl.Cm) (w:World) (hL:Bl.Lp P0 w h s) (hI:Bl.Om w r c) (hS:Ca.Short r) (hR:Bl.Right s) (hk:c.kind=1) :
  Calls Tryz.prog 38 #[h.val,Ca.nX r] w (Bl.uy P0 w (Bl.vU s c) (Bl.sH s c)):=by
 have HL:=Lh hL;have HI:=Lh hI;have bT:=Lh hS;have HR:=Lh hR;have He:Hid (Bl.vU s c=Bl.LK s c):=Lh (by unfold Bl.vU;simp [hk]);have HDR:Hid (Bl.sH s c=⟨Se.eX s.av c.av c.lim,0,0⟩):=Lh (by unfold Bl.sH;simp [hk]);have hkr:r.kind=1:=hI.kind.trans hk;obtain ⟨U,hU,hA,hF,iN⟩:=Bl.OV w h (Ca.nY r);have c0:U.cell? ⟨w.heap.size+1,0,none⟩=some (.int .i64 1):=by rw [cell_of_row U _ 0 _ _ _ iN,<- hkr];rfl
 have c1:U.cell? ⟨w.heap.size+1,1,none⟩=some (.string r.av):=by rw [cell_of_row U _ 1 _ _ _ iN];rfl
 have c2:U.cell? ⟨w.heap.size+1,2,none⟩=some (.int .i64 r.lim):=by rw [cell_of_row U _ 2 _ _ _ iN];rfl
 have HA:=Lh hA;have HF:=Lh hF;have gV:=Lh iN;have iB:Hid (w.heap.size+1+1+1 < U.heap.size):=Lh hF.rp.lt;obtain ⟨x0,x1,x2,x3,x4,x5⟩:=hA.cells;clear hL hI hS hR hF hk hkr;unfold Bl.Sv.val Bl.sl Ca.nX;unfold Ca.nY at hU;go_enter Tryz.func38,Tryz.ntmps38;go_wp2_with fail;clear hU;refine Calls.mono (R:=Xy U s.av c.av c.lim) ?_ ?_
 ·
  rw [HI.out.av,HI.out.lim];exact Rq s.av c.av c.lim h.av.ao h.av.n h.av.cap U (HL.out.av.below HF.out.dx) (HI.out.av▸bT.out.2.2.2.1)
 rintro e w1 ⟨v,rfl,o1,b1⟩;have nS:=Lh (Bl.Jh (s:=c.av) (m:=c.lim) HL.out.av.short (HI.out.av▸bT.out.2.2.2.1) (HI.out.lim▸bT.out.2.2.2.2.1));obtain ⟨L1,hL1⟩:∃ L1,Se.jT s.av c.av c.lim=L1:=⟨_,rfl⟩;obtain ⟨E,hE⟩:∃ E,Se.eX s.av c.av c.lim=E:=⟨_,rfl⟩;have YQ:Hid (Bl.LK s c=if E=0 then ⟨s.tab,L1,s.post,s.book,s.ak,s.next⟩ else s):=Lh (by rw [<- hE,<- hL1];rfl);rw [hL1] at o1 nS;rw [hE] at HDR ⊢;clear hL1 hE;obtain ⟨so,sc,rfl,l1,i1⟩:=Sr.aX o1 nS.out;obtain ⟨sn,hsn⟩:∃ sn,L1.length=sn:=⟨_,rfl⟩;rw [hsn] at l1 ⊢;clear hsn;have Es:=Lh l1;have HI1:=Lh (dZ (n:=sn) i1);have hA1:=HA.out.below b1;have jB:=Lh (HF.out.below b1);have HB1:=Lh (aj HF.out.dx b1);have mQ:=Lh b1.size;clear o1 l1 i1 b1 x0 x1 x2 x3 x4 x5 c0 c1 c2 hA iN;go_wp2_with (first | ((with_reducible apply Bl.aI hA1);rfl;rfl;rfl));refine (FZ h ⟨so,sn,sc⟩ E w1).mono ?_;rintro e w3 ⟨hcase,b3⟩;have lu:=jB.out.below b3;have lM:=Lh lu;have HB3:=Lh (aj HB1.out b3);have Uc:=Lh (Es.out.below b3);have yI:=lu.st;rcases hcase with ⟨hE0,rfl⟩ | ⟨hE0,rfl⟩
 ·
  subst hE0;have wJ:=lu.MZ ⟨h.tab,⟨so,sn,sc⟩,h.post,h.book,h.ak,h.next⟩;clear b3 lu hA1;go_wp2_with (first | ((with_reducible apply Bl.aU (h:=⟨h.tab,⟨so,sn,sc⟩,h.post,h.book,h.ak,h.next⟩) yI);rfl;rfl;rfl;rfl)|((with_reducible apply Rp.aU (r:=⟨0,0,0⟩) wJ);rfl;rfl;rfl;rfl));refine lM.out.ret Tryz.results38 ⟨h.tab,⟨so,sn,sc⟩,h.post,h.book,h.ak,h.next⟩ ⟨0,0,0⟩ rfl rfl rfl fun b=>?_
  have hop:Bl.LK s c=⟨s.tab,L1,s.post,s.book,s.ak,s.next⟩:=by have:=YQ.out;simpa using this
  rw [He.out,HDR.out,hop];have hl:=((HL.out.lt.below HB3.out).wide U);have hL3:Bl.Lp (nw (fun b=>P0 b/\b < w.heap.size) U) w3 ⟨h.tab,⟨so,sn,sc⟩,h.post,h.book,h.ak,h.next⟩ ⟨s.tab,L1,s.post,s.book,s.ak,s.next⟩:=⟨hl.tab,Uc.out,hl.post,hl.book,hl.ak,hl.next,hl.fit,hl.jf,HI1.out.nw _ (ac _),hl.jW,hl.jg,hl.eY⟩;exact ⟨_,rfl,(hL3.fA (w:=w) (fun b z=>z.2) (by omega) (by have:=iB.out;omega) (by omega) (by have:=iB.out;omega)).mono (fun b z=>z.elim (fun y=>.inl y.1) .inr),b⟩
 ·
  have wJ:=lu.MZ h;clear b3 lu hA1;go_wp2_with (first | ((with_reducible apply Bl.aU (h:=h) yI);rfl;rfl;rfl;rfl)|((with_reducible apply Rp.aU (r:=⟨E,0,0⟩) wJ);rfl;rfl;rfl;rfl));refine lM.out.ret Tryz.results38 h ⟨E,0,0⟩ rfl rfl rfl fun b=>?_
  rw [He.out,HDR.out,YQ.out,aa hE0];exact ⟨_,rfl,(HL.out.below b).wide w,b⟩
theorem WR (P0:Nat->Prop) (s:Bl.St) (h:Bl.Sv) (r:Ca.T) (c:Bl.Cm) (w:World) (hL:Bl.Lp P0 w h s) (hI:Bl.Om w r c) (hS:Ca.Short r) (hR:Bl.Right s) (hk:c.kind=2) :
  Calls Tryz.prog 38 #[h.val,Ca.nX r] w (Bl.uy P0 w (Bl.vU s c) (Bl.sH s c)):=by
 have HL:=Lh hL;have HI:=Lh hI;have bT:=Lh hS;have HR:=Lh hR;have He:Hid (Bl.vU s c=Bl.LM s c):=Lh (by unfold Bl.vU;simp [hk]);have HDR:Hid (Bl.sH s c=⟨Se.mV s.av c.av,0,0⟩):=Lh (by unfold Bl.sH;simp [hk]);have hkr:r.kind=2:=hI.kind.trans hk;obtain ⟨U,hU,hA,hF,iN⟩:=Bl.OV w h (Ca.nY r);have c0:U.cell? ⟨w.heap.size+1,0,none⟩=some (.int .i64 2):=by rw [cell_of_row U _ 0 _ _ _ iN,<- hkr];rfl
 have c1:U.cell? ⟨w.heap.size+1,1,none⟩=some (.string r.av):=by rw [cell_of_row U _ 1 _ _ _ iN];rfl
 have HA:=Lh hA;have HF:=Lh hF;have gV:=Lh iN;have iB:Hid (w.heap.size+1+1+1 < U.heap.size):=Lh hF.rp.lt;obtain ⟨x0,x1,x2,x3,x4,x5⟩:=hA.cells;clear hL hI hS hR hF hk hkr;unfold Bl.Sv.val Bl.sl Ca.nX;unfold Ca.nY at hU;go_enter Tryz.func38,Tryz.ntmps38;go_wp2_with fail;clear hU;refine Calls.mono (R:=Xz U s.av c.av) ?_ ?_
 ·
  rw [HI.out.av];exact Ru s.av c.av h.av.ao h.av.n h.av.cap U (HL.out.av.below HF.out.dx)
 rintro e w1 ⟨v,rfl,o1,b1⟩;have nS:=Lh (Bl.Ji (s:=c.av) HL.out.av.short);obtain ⟨L1,hL1⟩:∃ L1,Se.sQ s.av c.av=L1:=⟨_,rfl⟩;obtain ⟨E,hE⟩:∃ E,Se.mV s.av c.av=E:=⟨_,rfl⟩;have YQ:Hid (Bl.LM s c=if E=0 then ⟨s.tab,L1,s.post,s.book,s.ak,s.next⟩ else s):=Lh (by rw [<- hE,<- hL1];rfl);rw [hL1] at o1 nS;rw [hE] at HDR ⊢;clear hL1 hE;obtain ⟨so,sc,rfl,l1,i1⟩:=Sr.aX o1 nS.out;obtain ⟨sn,hsn⟩:∃ sn,L1.length=sn:=⟨_,rfl⟩;rw [hsn] at l1 ⊢;clear hsn;have Es:=Lh l1;have HI1:=Lh (dZ (n:=sn) i1);have hA1:=HA.out.below b1;have jB:=Lh (HF.out.below b1);have HB1:=Lh (aj HF.out.dx b1);have mQ:=Lh b1.size;clear o1 l1 i1 b1 x0 x1 x2 x3 x4 x5 c0 c1 hA iN;go_wp2_with (first | ((with_reducible apply Bl.aI hA1);rfl;rfl;rfl));refine (FZ h ⟨so,sn,sc⟩ E w1).mono ?_;rintro e w3 ⟨hcase,b3⟩;have lu:=jB.out.below b3;have lM:=Lh lu;have HB3:=Lh (aj HB1.out b3);have Uc:=Lh (Es.out.below b3);have yI:=lu.st;rcases hcase with ⟨hE0,rfl⟩ | ⟨hE0,rfl⟩
 ·
  subst hE0;have wJ:=lu.MZ ⟨h.tab,⟨so,sn,sc⟩,h.post,h.book,h.ak,h.next⟩;clear b3 lu hA1;go_wp2_with (first | ((with_reducible apply Bl.aU (h:=⟨h.tab,⟨so,sn,sc⟩,h.post,h.book,h.ak,h.next⟩) yI);rfl;rfl;rfl;rfl)|((with_reducible apply Rp.aU (r:=⟨0,0,0⟩) wJ);rfl;rfl;rfl;rfl));refine lM.out.ret Tryz.results38 ⟨h.tab,⟨so,sn,sc⟩,h.post,h.book,h.ak,h.next⟩ ⟨0,0,0⟩ rfl rfl rfl fun b=>?_
  have hop:Bl.LM s c=⟨s.tab,L1,s.post,s.book,s.ak,s.next⟩:=by have:=YQ.out;simpa using this
  rw [He.out,HDR.out,hop];have hl:=((HL.out.lt.below HB3.out).wide U);have hL3:Bl.Lp (nw (fun b=>P0 b/\b < w.heap.size) U) w3 ⟨h.tab,⟨so,sn,sc⟩,h.post,h.book,h.ak,h.next⟩ ⟨s.tab,L1,s.post,s.book,s.ak,s.next⟩:=⟨hl.tab,Uc.out,hl.post,hl.book,hl.ak,hl.next,hl.fit,hl.jf,HI1.out.nw _ (ac _),hl.jW,hl.jg,hl.eY⟩;exact ⟨_,rfl,(hL3.fA (w:=w) (fun b z=>z.2) (by omega) (by have:=iB.out;omega) (by omega) (by have:=iB.out;omega)).mono (fun b z=>z.elim (fun y=>.inl y.1) .inr),b⟩
 ·
  have wJ:=lu.MZ h;clear b3 lu hA1;go_wp2_with (first | ((with_reducible apply Bl.aU (h:=h) yI);rfl;rfl;rfl;rfl)|((with_reducible apply Rp.aU (r:=⟨E,0,0⟩) wJ);rfl;rfl;rfl;rfl));refine lM.out.ret Tryz.results38 h ⟨E,0,0⟩ rfl rfl rfl fun b=>?_
  rw [He.out,HDR.out,YQ.out,aa hE0];exact ⟨_,rfl,(HL.out.below b).wide w,b⟩
theorem WS (P0:Nat->Prop) (s:Bl.St) (h:Bl.Sv) (r:Ca.T) (c:Bl.Cm) (w:World) (hL:Bl.Lp P0 w h s) (hI:Bl.Om w r c) (hS:Ca.Short r) (hR:Bl.Right s) (hk:c.kind=8) :
  Calls Tryz.prog 38 #[h.val,Ca.nX r] w (Bl.uy P0 w (Bl.vU s c) (Bl.sH s c)):=by
 have HL:=Lh hL;have HI:=Lh hI;have bT:=Lh hS;have HR:=Lh hR;have He:Hid (Bl.vU s c=s):=Lh (by unfold Bl.vU;simp [hk]);have HDR:Hid (Bl.sH s c=Bl.GJ s c.av):=Lh (by unfold Bl.sH;simp [hk]);have hkr:r.kind=8:=hI.kind.trans hk;obtain ⟨U,hU,hA,hF,iN⟩:=Bl.OV w h (Ca.nY r);have c0:U.cell? ⟨w.heap.size+1,0,none⟩=some (.int .i64 8):=by rw [cell_of_row U _ 0 _ _ _ iN,<- hkr];rfl
 have HA:=Lh hA;have HF:=Lh hF;have gV:=Lh iN;have iB:Hid (w.heap.size+1+1+1 < U.heap.size):=Lh hF.rp.lt;obtain ⟨x0,x1,x2,x3,x4,x5⟩:=hA.cells;clear hL hI hS hR hF hk hkr;unfold Bl.Sv.val Bl.sl Ca.nX;unfold Ca.nY at hU;go_enter Tryz.func38,Tryz.ntmps38;go_wp2_with fail;clear hU;refine Bl.Tw (S:=fun u=>Bl.At u w.heap.size h/\u.cell? ⟨w.heap.size+1,1,none⟩=some (.string r.av)) (f:=93) (args:=#[h.val,.string r.av]) h h.val (.pointer (some ⟨w.heap.size+1,1,none⟩)) (.string r.av) (w.heap.size+1+1) (w.heap.size+1+1+1) ?_ ?_ HF.out.st HF.out.rp (by omega) ?_ ?_ ?_ ?_ ?_ ?_ ?_ ?_ ?_ rfl ?_ rfl rfl rfl rfl rfl rfl ?_
 ·
  intro u hb;exact ⟨HA.out.below hb,by rw [cell_of_row u _ 1 _ _ _ ((hb.block _ (by have:=iB.out;omega)).trans gV.out)];rfl⟩
 ·
  intro u vs hu;exact ⟨⟨hu.1.other (by omega) _,(World.cell?_of_block (setRow_other u (w.heap.size+1+1) (w.heap.size+1) _ (by omega))).trans hu.2⟩,⟨hu.1.other (by omega) _,(World.cell?_of_block (setRow_other u (w.heap.size+1+1+1) (w.heap.size+1) _ (by omega))).trans hu.2⟩⟩
 · kernel_rfl
 · exact Bl.iq (t:=2) rfl rfl (by kernel_rfl) fun u hu=>hu.1
 · exact Bl.iq (t:=2) rfl rfl (by kernel_rfl) fun u hu=>hu.1
 · exact Bl.ZP (t:=3) rfl rfl (by kernel_rfl)
 · exact Bl.y_str (t:=80) rfl rfl (by kernel_rfl) fun u hu=>hu.2
 · exact fun _ _ _ h=>h
 · exact fun _ _ _ h=>h
 · exact fun _ _ _ h=>h
 · exact fun _ _ _ h=>h
 ·
  refine Bl.enters rfl ?_ Tryz.func93 ?_ rfl _
  · kernel_rfl
  · kernel_rfl
 refine (VX s h r.av U U.drew ah.drew ((HL.out.lies.below HF.out.dx).below ah.drew) HR.out).mono ?_;rintro e u ⟨rfl,b1⟩;refine ⟨_,rfl,b1,?_,?_,?_,?_,?_⟩
 · kernel_rfl
 · kernel_rfl
 · kernel_rfl
 · kernel_rfl
 have jB:=Lh (HF.out.below b1);clear b1;go_wp2_with fail;refine jB.out.ret Tryz.results38 h (Bl.GJ s r.av) ?_ ?_ ?_ fun b=>?_
 · kernel_rfl
 · kernel_rfl
 · kernel_rfl
 rw [He.out,HDR.out,<- HI.out.av];exact ⟨_,rfl,(HL.out.below b).wide w,b⟩
end Go.Proofs.YtpfdnemaaeolcaaGreat
namespace Go.Proofs.YtpfdnemaaeolcaaGreat.Bl
theorem CJ {t:St} {c:Cl} {r:Rp.T} (h:Right t) (hl:Sp.ix c.ak t.ak < t.ak.length->Sp.bQ t.ak c.ak c.seq=0/\Sp.lookO t.ak c.ak c.seq=false):BQ t c.ak c.seq r=kept t c r:=by
 by_cases q:Sp.ix c.ak t.ak < t.ak.length
 ·
  obtain ⟨h1,h2⟩:=hl q;obtain ⟨k1,k2⟩:=Sp.vB (y:=r.why) (n:=r.num) (g:=r.au) h1 h2;rw [vB k1,k2];unfold kept KJ;rw [ab q]
 ·
  have h1:Sp.bQ t.ak c.ak c.seq=15:=Sp.Bq h.ak q;have k1:=(Sp.EN (y:=0) (n:=0) (g:=0) (show Sp.bQ t.ak c.ak c.seq≠0 by rw [h1];omega)).1;rw [Ld (by rw [k1,h1];omega)];unfold kept KJ;rw [aa q]
theorem CK (s:St) (k:Nat) (c:ByteArray) (t:Iv.iD):gU (LG s k) c t=gU s c t:=by
 unfold gU LG;rw [nO]
theorem CO {s:St} {c:Cm} (h: ¬ s.post.length<=lU c.bf c.aY s.post):pQ s c=if fZ (old s c) c.y c.m c.d≠0 then fZ (old s c) c.y c.m c.d else gU s c.av (Iv.back (old s c).tot):=by
 unfold pQ fZ;rw [aa h];by_cases h1:(old s c).back=true\/ ¬ Own (old s c)
 · rw [ab h1,ab h1,ab (by omega)]
 ·
  rw [aa h1,aa h1];by_cases h2:Dt.aA c.y c.m c.d=false\/Dt.days c.y c.m c.d < Dt.days (old s c).y (old s c).m (old s c).d
  · rw [ab h2,ab h2,ab (by omega)]
  · rw [aa h2,aa h2]
theorem J9 {s:St} {c:Cm} (hk:jd c.kind=true) (h6:c.kind≠6) (h:jZ s c≠0):vU s c=s/\sH s c=⟨jZ s c,0,0⟩:=by
 have hk':=qJ.1 hk;unfold vU sH;by_cases k1:c.kind=1
 ·
  have e:jZ s c=Se.eX s.av c.av c.lim:=by unfold jZ;rw [ab k1]
  rw [e] at h ⊢;rw [ab k1,ab k1];exact ⟨aa h,rfl⟩
 by_cases k2:c.kind=2
 ·
  have e:jZ s c=Se.mV s.av c.av:=by unfold jZ;rw [aa k1,ab k2]
  rw [e] at h ⊢;rw [aa k1,aa k1,ab k2,ab k2];exact ⟨aa h,rfl⟩
 by_cases k3:c.kind=3
 ·
  have e:jZ s c=Vt.iQ s.tab c.row:=by unfold jZ;rw [aa k1,aa k2,ab k3]
  rw [e] at h ⊢;rw [aa k1,aa k1,aa k2,aa k2,ab k3,ab k3];exact ⟨aa h,rfl⟩
 by_cases k4:c.kind=4
 ·
  have e:jZ s c=if Iv.dK s.tab c.y c.m c.d c.lines≠0 then Iv.dK s.tab c.y c.m c.d c.lines else gU s c.av (Iv.jM s.tab c.y c.m c.d c.lines):=by unfold jZ;rw [aa k1,aa k2,aa k3,ab k4]
  rw [aa k1,aa k1,aa k2,aa k2,aa k3,aa k3,ab k4,ab k4];unfold Al xM;by_cases t:Iv.dK s.tab c.y c.m c.d c.lines=0
  ·
   rw [aa (by simpa using t)] at e;rw [ab t,ab t,e];rw [e] at h;exact Aj (p:=GN s c) rfl h
  ·
   rw [ab t] at e;rw [aa t,aa t,e];exact ⟨rfl,rfl⟩
 by_cases k5:c.kind=5
 ·
  have e:jZ s c=pQ s c:=by unfold jZ;rw [aa k1,aa k2,aa k3,aa k4,ab k5]
  rw [aa k1,aa k1,aa k2,aa k2,aa k3,aa k3,aa k4,aa k4,ab k5,ab k5];by_cases t:s.post.length<=lU c.bf c.aY s.post
  ·
   have e2:pQ s c=11:=by unfold pQ;rw [ab t]
   rw [e,e2];exact Cz t
  ·
   have e2:=CO t;by_cases u:fZ (old s c) c.y c.m c.d=0
   ·
    rw [aa (by simpa using u)] at e2
    have hp:gU (og s c) (kr s c).av (kr s c).tot=jZ s c:=by
     have ht:(kr s c).tot=Iv.back (old s c).tot:=ab u;rw [ht,e,e2];exact CK s _ _ _
    have hi:=Aj (s:=og s c) (p:=kr s c) hp h;have:=GV t (by simpa using u) (by rw [hi.2];exact h);rw [this.1,this.2,hi.2];exact ⟨rfl,rfl⟩
   ·
    rw [ab u] at e2;rw [e,e2];exact CB t u
 by_cases k7:c.kind=7
 ·
  have e:jZ s c=Sp.dU s.ak c.ak:=by unfold jZ;rw [aa k1,aa k2,aa k3,aa k4,aa k5,ab k7]
  rw [e] at h ⊢;rw [aa k1,aa k1,aa k2,aa k2,aa k3,aa k3,aa k4,aa k4,aa k5,aa k5,ab k7,ab k7];exact ⟨aa h,rfl⟩
 ·
  have e:jZ s c=if Se.ix c.av s.av < s.av.length then 0 else 11:=by unfold jZ;rw [aa k1,aa k2,aa k3,aa k4,aa k5,aa k7]
  rw [aa k1,aa k1,aa k2,aa k2,aa k3,aa k3,aa k4,aa k4,aa k5,aa k5,aa k7,aa k7];by_cases t:Se.ix c.av s.av < s.av.length
  ·
   rw [e,ab t] at h;exact absurd rfl h
  ·
   rw [e,aa t];unfold GJ;rw [aa t];exact ⟨rfl,rfl⟩
theorem Eo {s:St} {c:Cm} (hk:jd c.kind=true) (h6:c.kind≠6) (h:jZ s c=0):vU s c=KI s c/\sH s c=UM s c:=by
 have hk':=qJ.1 hk;unfold vU sH KI UM;by_cases k1:c.kind=1
 ·
  have e:jZ s c=Se.eX s.av c.av c.lim:=by unfold jZ;rw [ab k1]
  rw [e] at h;simp only [k1,if_true];exact ⟨ab h,by rw [h];simp⟩
 by_cases k2:c.kind=2
 ·
  have e:jZ s c=Se.mV s.av c.av:=by unfold jZ;rw [aa k1,ab k2]
  rw [e] at h;rw [aa k1,aa k1,aa k1,ab k2,ab k2,ab k2];refine ⟨ab h,?_⟩;rw [h,aa (by omega),aa (by omega),aa (by omega)]
 by_cases k3:c.kind=3
 ·
  have e:jZ s c=Vt.iQ s.tab c.row:=by unfold jZ;rw [aa k1,aa k2,ab k3]
  rw [e] at h;rw [aa k1,aa k1,aa k1,aa k2,aa k2,aa k2,ab k3,ab k3,ab k3];refine ⟨ab h,?_⟩;rw [h,aa (by omega),aa (by omega),aa (by omega)]
 by_cases k4:c.kind=4
 ·
  have e:jZ s c=if Iv.dK s.tab c.y c.m c.d c.lines≠0 then Iv.dK s.tab c.y c.m c.d c.lines else gU s c.av (Iv.jM s.tab c.y c.m c.d c.lines):=by unfold jZ;rw [aa k1,aa k2,aa k3,ab k4]
  rw [aa k1,aa k1,aa k1,aa k2,aa k2,aa k2,aa k3,aa k3,aa k3,ab k4,ab k4,ab k4,ab k4];unfold Al xM;by_cases t:Iv.dK s.tab c.y c.m c.d c.lines=0
  ·
   rw [aa (by simpa using t)] at e;rw [ab t,ab t];rw [e] at h;exact JQ (p:=GN s c) h
  ·
   rw [ab t] at e;rw [e] at h;exact absurd h t
 by_cases k5:c.kind=5
 ·
  have e:jZ s c=pQ s c:=by unfold jZ;rw [aa k1,aa k2,aa k3,aa k4,ab k5]
  rw [e] at h;have hc:=Dc h;rw [aa k1,aa k1,aa k1,aa k2,aa k2,aa k2,aa k3,aa k3,aa k3,aa k4,aa k4,aa k4,aa k4,ab k5,ab k5,ab k5,ab k5];have t: ¬ s.post.length<=lU c.bf c.aY s.post:=by have:=hc.has;omega
  have e2:=CO t;rw [h] at e2
  have u:fZ (old s c) c.y c.m c.d=0:=by
   by_cases u:fZ (old s c) c.y c.m c.d=0
   · exact u
   ·
    rw [ab u] at e2;exact e2.symm
  have ht:(kr s c).tot=Iv.back (old s c).tot:=ab u
  have hp:gU (og s c) (kr s c).av (kr s c).tot=0:=by
   rw [ht];exact (CK s _ _ _).trans hc.post
  have hi:=JQ (s:=og s c) (p:=kr s c) hp;have:=LH t (by simpa using u) (by rw [hi.2];simp);rw [this.1,this.2,hi.1,hi.2];constructor
  ·
   unfold more V5 inv;rw [ht];rfl
  ·
   rw [ht];rfl
 by_cases k7:c.kind=7
 ·
  have e:jZ s c=Sp.dU s.ak c.ak:=by unfold jZ;rw [aa k1,aa k2,aa k3,aa k4,aa k5,ab k7]
  rw [e] at h;rw [aa k1,aa k1,aa k1,aa k2,aa k2,aa k2,aa k3,aa k3,aa k3,aa k4,aa k4,aa k4,aa k4,aa k5,aa k5,aa k5,aa k5,ab k7,ab k7,ab k7];refine ⟨ab h,?_⟩;rw [h,aa (by omega)]
 ·
  have e:jZ s c=if Se.ix c.av s.av < s.av.length then 0 else 11:=by unfold jZ;rw [aa k1,aa k2,aa k3,aa k4,aa k5,aa k7]
  rw [aa k1,aa k1,aa k1,aa k2,aa k2,aa k2,aa k3,aa k3,aa k3,aa k4,aa k4,aa k4,aa k4,aa k5,aa k5,aa k5,aa k5,aa k7,aa k7,aa k7,ab (show c.kind=8 by omega)];by_cases t:Se.ix c.av s.av < s.av.length
  ·
   unfold GJ;rw [ab t];exact ⟨rfl,rfl⟩
  ·
   rw [e,aa t] at h;omega
theorem wU {s:St} (h:Right s) {c:Cl} (hk:jd c.cmd.kind=true) (h6:c.cmd.kind≠6) (hl:Sp.bQ s.ak c.ak c.seq=0) (ho:Sp.lookO s.ak c.ak c.seq=false):apply s c=(BQ (vU s c.cmd) c.ak c.seq (sH s c.cmd),sH s c.cmd):=by
 unfold apply;rw [aa (by rw [hk];simp),aa h6,aa (by rw [hl];simp),aa (by rw [ho];simp)];by_cases e:jZ s c.cmd=0
 ·
  rw [aa (by rw [e];simp),(Eo hk h6 e).1,(Eo hk h6 e).2,CJ (h.did e)];intro q;obtain ⟨h1,h2⟩:=ES h e hl q;refine ⟨h1,?_⟩;unfold Sp.lookO at ho ⊢;rw [h1];rw [hl] at ho;rw [h2];exact ho
 · rw [ab e,(J9 hk h6 e).1,(J9 hk h6 e).2,CJ h fun _=>⟨hl,ho⟩]
open Vt (Rt)
def Low (e:Int):Prop:=0<=e/\e<=14
theorem LP (x:Int):Low (Mn.err x):=by
 unfold Mn.err;split <;> exact ⟨by omega,by omega⟩
theorem Tx (l:List Sr.T) (c:ByteArray) (n:Int):Low (Se.eX l c n):=by
 unfold Se.eX
 repeat' split
 all_goals exact ⟨by omega,by omega⟩
theorem Tz (l:List Sr.T) (c:ByteArray):Low (Se.mV l c):=by
 unfold Se.mV
 repeat' split
 all_goals exact ⟨by omega,by omega⟩
theorem TA (l:List Sr.T) (c:ByteArray):Low (Se.iw l c):=by
 unfold Se.iw;split
 · exact Tz l c
 · split <;> exact ⟨by omega,by omega⟩
theorem WT (r:Rt):Low (Vt.gT r):=by
 unfold Vt.gT
 repeat' split
 all_goals exact ⟨by omega,by omega⟩
theorem WU (l:List Rt) (r:Rt):Low (Vt.iQ l r):=by
 unfold Vt.iQ;split
 · exact ⟨by omega,by omega⟩
 ·
  split
  · exact WT r
  ·
   repeat' split
   all_goals exact ⟨by omega,by omega⟩
theorem TB (rs:List Rt) (y m d:Int) (x:Ln.T):Low (Iv.qE rs y m d x):=by
 unfold Iv.qE;split
 · exact ⟨by omega,by omega⟩
 ·
  split
  · exact ⟨by omega,by omega⟩
  ·
   split
   · exact ⟨by omega,by omega⟩
   ·
    split
    · exact ⟨by omega,by omega⟩
    · exact LP _
theorem CP (rs:List Rt) (y m d:Int):∀ (l:List Ln.T) (ps:List Pt.T),Low (Iv.kM rs y m d l ps)
 | [],ps=>by rw [Iv.kM];exact ⟨by omega,by omega⟩
 | x::l,ps=>by
  rw [Iv.kM];split
  · exact TB rs y m d x
  ·
   split
   · exact ⟨by omega,by omega⟩
   · exact CP rs y m d l _
theorem WV (n bp:Int):Low (Sh.iC n bp):=by
 unfold Sh.iC Sh.why
 repeat' split
 all_goals exact ⟨by omega,by omega⟩
theorem TD:∀ (l:List Pt.T) (a b:Int),Low (Iv.C9 l a b)
 | [],a,b=>by rw [Iv.C9];exact ⟨by omega,by omega⟩
 | p::l,a,b=>by
  rw [Iv.C9];split
  · exact WV _ _
  ·
   split
   · exact ⟨by omega,by omega⟩
   ·
    split
    · exact ⟨by omega,by omega⟩
    · exact TD l _ _
theorem WW (rs:List Rt) (y m d:Int) (ls:List Ln.T):Low (Iv.dK rs y m d ls):=by
 unfold Iv.dK;split
 ·
  unfold Iv.fD
  repeat' split
  all_goals exact ⟨by omega,by omega⟩
 ·
  split
  · exact CP rs y m d ls []
  ·
   unfold Iv.lS;split
   · exact TD _ _ _
   · exact LP _
theorem TF (t:Iv.iD):Low (Iv.dQ t):=by
 unfold Iv.dQ
 repeat' split
 all_goals exact ⟨by omega,by omega⟩
theorem TG (l:List Pt.T):Low (Po.dR l):=by
 unfold Po.dR;split <;> exact ⟨by omega,by omega⟩
theorem TH:∀ (l b:List Ba.T),Low (Po.kM l b)
 | [],b=>by rw [Po.kM];exact ⟨by omega,by omega⟩
 | x::l,b=>by
  rw [Po.kM];split
  · exact ⟨by omega,by omega⟩
  · exact TH l _
theorem WX (b l:List Ba.T):Low (Po.jw b l):=by
 unfold Po.jw;split
 · exact ⟨by omega,by omega⟩
 · exact TH l b
theorem Hf (s:St) (c:ByteArray) (t:Iv.iD):Low (gU s c t):=by
 unfold gU;split
 · exact TA _ _
 ·
  split
  · exact ⟨by omega,by omega⟩
  ·
   split
   · exact TG _
   · exact WX _ _
theorem TI (s:St) (c:Cm):Low (pQ s c):=by
 unfold pQ;split
 · exact ⟨by omega,by omega⟩
 ·
  split
  · exact ⟨by omega,by omega⟩
  ·
   split
   · exact ⟨by omega,by omega⟩
   ·
    split
    · exact TF _
    · exact Hf _ _ _
theorem OE (l:List Sn.T) (i:Int):Low (Sp.dU l i):=by
 unfold Sp.dU
 repeat' split
 all_goals exact ⟨by omega,by omega⟩
theorem ZQ (s:St) (c:Cm):Low (jZ s c):=by
 unfold jZ;split
 · exact Tx _ _ _
 ·
  split
  · exact Tz _ _
  ·
   split
   · exact WU _ _
   ·
    split
    ·
     split
     · exact WW _ _ _ _ _
     · exact Hf _ _ _
    ·
     split
     · exact TI _ _
     ·
      split
      · exact OE _ _
      · split <;> exact ⟨by omega,by omega⟩
end Go.Proofs.YtpfdnemaaeolcaaGreat.Bl
namespace Go.Proofs.YtpfdnemaaeolcaaGreat
open Go.RowKit
open Mem
open Go.Sort (grow)
theorem TJ (P:Nat->Prop) (s:Bl.St) (h:Bl.Sv) (w:World) (hL:Bl.Lp P w h s) (hR:Bl.Right s) :
  Calls Tryz.prog 36 #[h.val] w (Bl.uy P w (Bl.xJ s).1 (Bl.xJ s).2):=by
 have HL:=Lh hL;have HR:=Lh hR;have hlen:=hL.ak.len;have hnx:=hL.next;have h8:=((Sp.aJ _).1 hR.ak).1;have hM:=hR.next;obtain ⟨U,hU,hA,hF⟩:=Bl.fr3 w h;have HA:=Lh hA;have HF:=Lh hF;have iB:=Lh hA.lt;obtain ⟨x0,x1,x2,x3,x4,x5⟩:=hA.cells;clear hA hF hL hR;by_cases a8:h.ak.n=8
 ·
  have HP:Hid (Bl.xJ s=(s,⟨14,0,0⟩)):=Lh (ab (.inl (by omega)));have q8:((h.ak.n:Int)==8)=true:=beq_iff_eq.2 (by omega);clear a8 hlen hnx h8 hM;unfold Bl.Sv.val Bl.sl;go_enter Tryz.func36,Tryz.ntmps36;go_wp2_with fail;refine Bl.mg (w.heap.size) (w.heap.size+1) (w.heap.size+1+1) h Bl.iy ⟨0,0,0⟩ (14) HA.out HF.out.st HF.out.rp (by omega) rfl rfl rfl rfl rfl rfl rfl rfl rfl rfl ?_ ?_ ?_ ?_ ?_ ?_ ?_ ?_ ?_
  · kernel_rfl
  · exact fun _ _ _ h=>h
  · rfl
  · rfl
  · rfl
  · rfl
  · rfl
  · rfl
  intro w9 b9;go_wp2_with fail;exact (HF.out.below b9).ret Tryz.results36 h ⟨14,0,0⟩ rfl rfl rfl fun b=>by rw [HP.out];exact ⟨_,rfl,(HL.out.below b).wide w,b⟩
 ·
  have q8:((h.ak.n:Int)==8)=false:=beq_eq_false_iff_ne.2 (by omega);by_cases am:h.next=1099511627776
  ·
   have HP:Hid (Bl.xJ s=(s,⟨14,0,0⟩)):=Lh (ab (.inr (by omega)));have qm:(h.next==1099511627776)=true:=beq_iff_eq.2 am;clear a8 hlen hnx h8 hM am;unfold Bl.Sv.val Bl.sl;go_enter Tryz.func36,Tryz.ntmps36;go_wp2_with fail;refine Bl.mg (w.heap.size) (w.heap.size+1) (w.heap.size+1+1) h Bl.iy ⟨0,0,0⟩ (14) HA.out HF.out.st HF.out.rp (by omega) rfl rfl rfl rfl rfl rfl rfl rfl rfl rfl ?_ ?_ ?_ ?_ ?_ ?_ ?_ ?_ ?_
   · kernel_rfl
   · exact fun _ _ _ h=>h
   · rfl
   · rfl
   · rfl
   · rfl
   · rfl
   · rfl
   intro w9 b9;go_wp2_with fail;exact (HF.out.below b9).ret Tryz.results36 h ⟨14,0,0⟩ rfl rfl rfl fun b=>by rw [HP.out];exact ⟨_,rfl,(HL.out.below b).wide w,b⟩
  ·
   have qm:(h.next==1099511627776)=false:=beq_eq_false_iff_ne.2 am;have HP:Hid (Bl.xJ s=(Bl.joined s,⟨0,s.next,0⟩)):=Lh (aa (by omega));have HJ:=Lh (Bl.join_step HR.out (by omega) (by omega));have hfx:h.next+1<=9223372036854775807:=by omega
   have hfn: -9223372036854775808<=h.next+1:=by omega
   have HNx:=Lh hnx;have HNf:Hid (Fit h.next):=Lh (by rw [hnx];exact HL.out.fit);have HNg:Hid (Fit (s.next+1)):=Lh ⟨by omega,by omega⟩;rw [<- hnx] at HJ;clear a8 hlen h8 hM am hnx;unfold Bl.Sv.val Bl.sl;go_enter Tryz.func36,Tryz.ntmps36;go_wp2_with fail;clear hU;refine (Rk s.ak h.next h.ak.ao h.ak.n h.ak.cap _ (HL.out.ak.below HF.out.dx) HNf.out).mono ?_;rintro e w1 ⟨v,rfl,o1,b1⟩;rw [HJ.out.1];rw [HJ.out.2] at o1;have bT:Hid (∀ r∈s.ak++[Sp.new h.next],Sn.Short r):=Lh (HJ.out.2▸Sp.Jf HL.out.ak.short HNf.out);obtain ⟨L,OZ⟩:∃ L,s.ak++[Sp.new h.next]=L:=⟨_,rfl⟩;have HLr:=Lh OZ;rw [OZ] at o1 bT;clear OZ;obtain ⟨bo,bc,rfl,l1,i1⟩:=Sn.aX o1 bT.out;obtain ⟨n1,hn1⟩:∃ n1,L.length=n1:=⟨_,rfl⟩;rw [hn1] at l1 ⊢;clear hn1;have wO:=Lh l1;have HI:=Lh (dZ (n:=n1) i1);have HB1:=Lh b1;have hA1:=HA.out.below b1;have hF1:=HF.out.below b1;clear l1 i1 b1 o1 x0 x1 x2 x3 x4 x5;obtain ⟨W2,hW2⟩:∃ W2,w1.alloc (.cells (Rp.rw' ⟨0,h.next,0⟩).toArray 43)=W2:=⟨_,rfl⟩;obtain ⟨b2,k2,s2⟩:=Bl.Ua w1 (.cells (Rp.rw' ⟨0,h.next,0⟩).toArray 43);rw [hW2] at b2 k2 s2;have hA2:=hA1.below b2;have hF2:=hF1.below b2;have hR2:Rp.Bk W2 w1.heap.size ⟨0,h.next,0⟩:=k2;have hlt:w.heap.size+1+1 < w1.heap.size:=hF1.rp.lt;obtain ⟨y0,y1,y2,y3,y4,y5⟩:=hA1.cells;obtain ⟨t0,t1,t2,t3,t4,t5⟩:=hA2.cells;have z4:=hA2.frozen 4;have hA3:Bl.At (W2.setCell ⟨w.heap.size,4,none⟩ (.slice bo n1 bc)) w.heap.size ⟨h.tab,h.av,h.post,h.book,⟨bo,n1,bc⟩,h.next⟩:=(Bl.bY hA2 4 _).trans rfl;have lu:=hF2.set (g:=w.heap.size) (ac _) (by omega) 4 (.slice bo n1 bc);have wJ:=hR2.away (b:=w.heap.size) (by omega) 4 (.slice bo n1 bc);have e5:(W2.setCell ⟨w.heap.size,4,none⟩ (.slice bo n1 bc)).cell? ⟨w.heap.size,5,none⟩=some (.int .i64 h.next):=hA3.cells.2.2.2.2.2;have z5:(W2.setCell ⟨w.heap.size,4,none⟩ (.slice bo n1 bc)).frozen? ⟨w.heap.size,5,none⟩=false:=hA3.frozen 5;have SI:Bl.At ((W2.setCell ⟨w.heap.size,4,none⟩ (.slice bo n1 bc)).setCell ⟨w.heap.size,5,none⟩ (.int .i64 (h.next+1))) w.heap.size ⟨h.tab,h.av,h.post,h.book,⟨bo,n1,bc⟩,h.next+1⟩:=(Bl.bY hA3 5 _).trans rfl;have Oi:=lu.set (g:=w.heap.size) (ac _) (by omega) 5 (.int .i64 (h.next+1));have hR4:=wJ.away (b:=w.heap.size) (by omega) 5 (.int .i64 (h.next+1));have JX:=Lh SI;have Hu:=Lh Oi;have HR4:=Lh hR4;have HB2:=Lh b2;have HS2:=Lh s2;clear hA1 hA2 hA3 SI hF1 hF2 lu Oi hR2 wJ hR4 b2 k2 s2;have hne:w.heap.size≠w1.heap.size:=by omega
   go_wp2_with (first | ((with_reducible apply Rp.oU (r:=⟨0,h.next,0⟩) (g:=w1.heap.size));rfl;rfl;rfl;rfl;rfl;rfl;rw [hW2]));refine Bl.yA (w.heap.size) (w1.heap.size) (w.heap.size+1) (w.heap.size+1+1) ⟨h.tab,h.av,h.post,h.book,⟨bo,n1,bc⟩,h.next+1⟩ Bl.iy ⟨0,h.next,0⟩ ⟨0,0,0⟩ JX.out HR4.out Hu.out.st Hu.out.rp (by omega) rfl rfl rfl rfl rfl rfl rfl rfl rfl rfl ?_ ?_ ?_ ?_ ?_ ?_ ?_ ?_ ?_ ?_
   · kernel_rfl
   · exact fun _ _ _ h=>h
   · exact fun _ _ _ h=>h
   · rfl
   · rfl
   · rfl
   · rfl
   · rfl
   · rfl
   go_wp2_with fail;refine (Hu.out.below (ah.drew)).ret Tryz.results36 ⟨h.tab,h.av,h.post,h.book,⟨bo,n1,bc⟩,h.next+1⟩ ⟨0,h.next,0⟩ rfl rfl rfl fun b=>?_
   rw [HP.out];refine ⟨_,by rw [HNx.out],?_,b⟩;have hl:=(HL.out.below b).wide w;have Vn:=HI.out.nw P (w:=w) (by have:=iB.out;omega);have hk:Kp U.heap.size w1 _:=(Kp.of HB2.out).trans (((Kp.set W2 iB.out 4 (.slice bo n1 bc)).trans (Kp.set _ iB.out 5 (.int .i64 (h.next+1)))).trans ((Kp.of ah.drew).trans (Bl.yx _ (by have:=HF.out.st.lt;omega) (by have:=HF.out.rp.lt;omega) ⟨h.tab,h.av,h.post,h.book,⟨bo,n1,bc⟩,h.next+1⟩ ⟨0,h.next,0⟩)));have hls:=wO.out.kp HI.out hk;have hL2:L=s.ak++[Sp.new s.next]:=by rw [<- HLr.out,HNx.out]
   rw [hL2] at hls;exact ⟨hl.tab,hl.av,hl.post,hl.book,hls,rfl,HNg.out,hl.jf,hl.pY,hl.jW,hl.jg,Vn⟩
def Bl.chkK (ops:Array Oper):Bool:=Region.noSelect ops&&Bl.tk ops [false,false,false,false,false,false,false] 0&&Bl.tk ops [true,false,false,false,false,false,false] 1&&Bl.tk ops [true,true,false,false,false,false,false] 2&&Bl.tk ops [true,true,true,false,false,false,false] 4&&(Region.ready .any ops #[true,true,true,false,true,false,false]==[3])&&(Region.ready .any ops #[true,true,true,true,true,false,false]==[5])&&(Region.ready .any ops #[true,true,true,true,true,true,false]==[6])&&(Region.ready .any ops #[true,true,true,true,true,true,true]==[])
theorem Bl.WY {id:Nat} {o0 o1 o2 o3 o4 o5 o6:Oper} (h:Bl.Sv) (v1:Value) (q:Rp.T) (gS gR:Nat) {h0:Bl.Sv} {r0:Rp.T} {x5 y5 x6 y6:Tmp} {f:FuncId} {args:Array Value} (vV:∀ u,Below w.heap.size w u->S u) (SX:∀ u vs,S u->S (World.setRow u gS vs)/\S (World.setRow u gR vs)) (hA:Bl.At w gS h0) (hB:Rp.Bk w gR r0) (hn:gS≠gR) (hc:Bl.chkK #[o0,o1,o2,o3,o4,o5,o6]=true)
  (y0:YieldsIf Tryz.prog #[o0,o1,o2,o3,o4,o5,o6] S o0 h.val a) (y1:YieldsIf Tryz.prog #[o0,o1,o2,o3,o4,o5,o6] S o1 v1 (a.put o0.dst h.val)) (y2:YieldsIf Tryz.prog #[o0,o1,o2,o3,o4,o5,o6] S o2 (Rp.val q) ((a.put o0.dst h.val).put o1.dst v1)) (y4:YieldsIf Tryz.prog #[o0,o1,o2,o3,o4,o5,o6] S o4 (Rp.val q) (((a.put o0.dst h.val).put o1.dst v1).put o2.dst (Rp.val q)))
  (q0:∀ c a w,Q (.panic c) (Act.put a o0.dst h.val) w->Q (.panic c) a w) (q1:∀ c a w,Q (.panic c) (Act.put a o1.dst v1) w->Q (.panic c) a w) (q2:∀ c a w,Q (.panic c) (Act.put a o2.dst (Rp.val q)) w->Q (.panic c) a w) (q4:∀ c a w,Q (.panic c) (Act.put a o4.dst (Rp.val q)) w->Q (.panic c) a w)
  (hg3:o3.guard=none) (hrun:(execOp ((((a.put o0.dst h.val).put o1.dst v1).put o2.dst (Rp.val q)).put o4.dst (Rp.val q)).eval o3).run Tryz.prog w.drew=.ok (.enter f args) w.drew)
  (ho5:o5.op=.store 30 (.tmp x5) (.tmp y5)) (hg5:o5.guard=none) (hd5:o5.dst=none) (ho6:o6.op=.store 43 (.tmp x6) (.tmp y6)) (Zz:o6.guard=none) (hd6:o6.dst=none)
  (k:Calls Tryz.prog f args w.drew fun e u=>∃ h':Bl.Sv,e=.returned h'.val/\Below w.heap.size w u/\(((((a.put o0.dst h.val).put o1.dst v1).put o2.dst (Rp.val q)).put o4.dst (Rp.val q)).put o3.dst h'.val).tmps.toList[x5]? =some (.pointer (some ⟨gS,0,none⟩))/\(((((a.put o0.dst h.val).put o1.dst v1).put o2.dst (Rp.val q)).put o4.dst (Rp.val q)).put o3.dst h'.val).tmps.toList[y5]? =some h'.val/\(((((a.put o0.dst h.val).put o1.dst v1).put o2.dst (Rp.val q)).put o4.dst (Rp.val q)).put o3.dst h'.val).tmps.toList[x6]? =some (.pointer (some ⟨gR,0,none⟩))/\(((((a.put o0.dst h.val).put o1.dst v1).put o2.dst (Rp.val q)).put o4.dst (Rp.val q)).put o3.dst h'.val).tmps.toList[y6]? =some (Rp.val q) /\
   Q .normal (((((a.put o0.dst h.val).put o1.dst v1).put o2.dst (Rp.val q)).put o4.dst (Rp.val q)).put o3.dst h'.val) (Bl.fA u gS gR h' q)) :
  (Code.region id #[o0,o1,o2,o3,o4,o5,o6] true).wp Tryz.prog Q a w:=by
 unfold Bl.chkK at hc;simp only [Bool.and_eq_true,beq_iff_eq] at hc;obtain ⟨⟨⟨⟨⟨⟨⟨⟨c,c0⟩,c1⟩,c2⟩,c4⟩,c3⟩,c5⟩,c6⟩,c7⟩:=hc;have hw0:Below w.heap.size w w.drew:=ah.drew;refine wp_region_held_drew (S:=S) (by kernel_rfl) (vV _ hw0) (fun hH=>?_);show wpAnyH Tryz.prog .any #[o0,o1,o2,o3,o4,o5,o6] Q _ 7 [false,false,false,false,false,false,false].toArray a w.drew;refine Bl.aO (i:=0) (oi:=o0) rfl c c0 q0 y0 hH ?_;refine Bl.aO (i:=1) (oi:=o1) rfl c c1 q1 y1 hH ?_;refine Bl.aO (i:=2) (oi:=o2) rfl c c2 q2 y2 hH ?_;refine Bl.aO (i:=4) (oi:=o4) rfl c c4 q4 y4 hH ?_;refine Bl.eu (i:=3) (oi:=o3) rfl c3 (fun K hK=>?_);refine Bl.fB hg3 hrun (k.mono ?_);rintro e u ⟨h',rfl,hb,e5,f5,e6,f6,hk⟩;refine ⟨_,rfl,hK.out _ _ (vV _ hb) fun hS=>?_⟩;clear hK K;refine Bl.eu (i:=5) (oi:=o5) rfl c5 (fun K hK=>?_);refine Bl.dJ hg5 ho5 hd5 e5 f5 (hA.below hb) (hK.out _ _ (SX _ _ hS).1 fun hS2=>?_);clear hK K;refine Bl.eu (i:=6) (oi:=o6) rfl c6 (fun K hK=>?_);refine Rp.dJ Zz ho6 hd6 e6 f6 ((hB.below hb).other (Ne.symm hn) _) (hK.out _ _ (SX _ _ hS2).2 fun yI=>?_);clear hK K;exact wpAnyH_done c7 hk _
theorem Ca.Au {r:Ca.T} (h:w.heap[g]? =some (Ca.block r)):Ca.At w g 0 r:=by
 have e:=fun k=>cell_of_row w g k _ _ _ h
 refine ⟨?_,?_,?_,?_,?_,?_,?_,?_,?_,?_,?_,?_,?_,?_,?_,?_,?_⟩
 all_goals
  rw [e];rfl
theorem Ca.iq {ops:Array Oper} {o:Oper} {t:Tmp} {r:Ca.T} (hgd:o.guard=none) (ho:o.op=.load 59 (.tmp t)) (hp:a.tmps.toList[t]? =some (.pointer (some ⟨g,0,none⟩))) (hS:∀ u,S u->u.heap[g]? =some (Ca.block r)):YieldsIf Tryz.prog ops S o (Ca.val r) a:=by
 refine .inl ⟨by simp [Region.wanted,hgd],fun u hu=>?_⟩;have e:=Ca.run_load (Ca.Au (hS u hu));simp only [execOp,ho,Ca.gY hp,Sem.run_bind,e,Result.andThen_ok];rfl
theorem Ca.OG {b:Nat} {r:Ca.T} (h:Ca.At w b 0 r):w.rangeAt b 2 (Ca.Zx r):=by
 intro j v hv;have hj:j < 15:=(List.getElem?_eq_some_iff.1 hv).1
 match j,hj with
 | 0,_=>exact (h.c2).trans hv
 | 1,_=>exact (h.c3).trans hv
 | 2,_=>exact (h.c4).trans hv
 | 3,_=>exact (h.c5).trans hv
 | 4,_=>exact (h.c6).trans hv
 | 5,_=>exact (h.c7).trans hv
 | 6,_=>exact (h.c8).trans hv
 | 7,_=>exact (h.c9).trans hv
 | 8,_=>exact (h.c10).trans hv
 | 9,_=>exact (h.c11).trans hv
 | 10,_=>exact (h.c12).trans hv
 | 11,_=>exact (h.c13).trans hv
 | 12,_=>exact (h.c14).trans hv
 | 13,_=>exact (h.c15).trans hv
 | 14,_=>exact (h.c16).trans hv
theorem Ca.TK {ops:Array Oper} {rest:List Oper} {op:Oper} {t:Tmp} {b:Nat} {r:Ca.T} (h:Ca.At w b 0 r) (ho:op.op=.load 57 (.tmp t)) (hgd:op.guard=none)
  (hx:a.tmps.toList[t]? =some (.pointer (some ⟨b,2,none⟩))) (k:wpList Tryz.prog ops Q rest (a.put op.dst (Ca.nX r)) w):wpList Tryz.prog ops Q (op::rest) a w :=
 wpList_load_mid hgd 57 (.tmp t) ho b 2 (Ca.gY hx) (Ca.Zx r) _ (Ca.OG h) Tryz.underlying57 rfl (by rw [Ca.XY];rfl) k
theorem Bl.wV {s:Bl.St} {c:Bl.Cm} (hR:Bl.Right s) (hs:∀ r∈s.av,Sr.Short r) (hb:∀ r∈s.book,Ba.Short r) (hk:Bl.jd c.kind=true) (h6:c.kind≠6):Rp.Short (Bl.sH s c):=by
 by_cases e:Bl.jZ s c=0
 ·
  rw [(Bl.Eo hk h6 e).2];unfold Bl.UM;split
  ·
   rename_i k4;exact ⟨Bl.eF,Bl.zQ hs,(GL _ _ _ _ _).2.2⟩
  ·
   split
   ·
    rename_i k4 k5;have e5:Bl.jZ s c=Bl.pQ s c:=by unfold Bl.jZ;rw [aa (by omega),aa (by omega),aa (by omega),aa (by omega),ab k5]
    rw [e5] at e;have hc:=Bl.Dc e;have hr:=hR.tot _ (ae hc.has);rw [<- Bl.IL hc.has] at hr;exact ⟨Bl.eF,Bl.zQ hs,(Bl.tX hr hc.dQ).fit.2.2⟩
   ·
    split
    ·
     rename_i k4 k5 k8;have e8:Bl.jZ s c=if Se.ix c.av s.av < s.av.length then 0 else 11:=by unfold Bl.jZ;rw [aa (by omega),aa (by omega),aa (by omega),aa (by omega),aa (by omega),aa (by omega)]
     have hi:Se.ix c.av s.av < s.av.length:=by
      by_cases t:Se.ix c.av s.av < s.av.length
      · exact t
      ·
       rw [e8,aa t] at e;omega
     obtain ⟨_,k2,k3,k4'⟩:=Se.bL.1 (((Se.aJ _).1 hR.av).2.1 _ (Se.dP hi));have k5':=Se.lQ.1 k2;refine ⟨Bl.eF,⟨?_,?_⟩,(Po.kI (c:=Po.sU) (by decide) hb).2⟩
     ·
      show (-9223372036854775808:Int)<=(Se.own s.av c.av).next - 1;omega
     ·
      show (Se.own s.av c.av).next - 1<=9223372036854775807;omega
    · exact ⟨Bl.eF,Bl.eF,Bl.eF⟩
 ·
  rw [(Bl.J9 hk h6 e).2];have:=Bl.ZQ s c;unfold Bl.Low at this;exact ⟨⟨by show (-9223372036854775808:Int)<=Bl.jZ s c;omega,by show Bl.jZ s c<=9223372036854775807;omega⟩,Bl.eF,Bl.eF⟩
theorem Ka (P0:Nat->Prop) (s:Bl.St) (h:Bl.Sv) (r:Ca.T) (c:Bl.Cl) (w:World) (hL:Bl.Lp P0 w h s) (hI:Bl.Qk w r c) (hS:Ca.Short r) (hR:Bl.Right s) :
  Calls Tryz.prog 15 #[h.val,Ca.val r] w (Bl.uy P0 w (Bl.apply s c).1 (Bl.apply s c).2):=by
 have HL:=Lh hL;have HI:=Lh hI;have bT:=Lh hS;have HR:=Lh hR;have HKd:=Lh hI.kind;obtain ⟨U,hU,hA,hF,iN⟩:=Bl.OV w h (Ca.block r);have c0:U.cell? ⟨w.heap.size+1,0,none⟩=some (.int .i64 r.ak):=by rw [cell_of_row U _ 0 _ _ _ iN];rfl
 have c1:U.cell? ⟨w.heap.size+1,1,none⟩=some (.int .i64 r.seq):=by rw [cell_of_row U _ 1 _ _ _ iN];rfl
 have c2:U.cell? ⟨w.heap.size+1,2,none⟩=some (.int .i64 r.kind):=by rw [cell_of_row U _ 2 _ _ _ iN];rfl
 have HA:=Lh hA;have HF:=Lh hF;have gV:=Lh iN;have iB:Hid (w.heap.size+1+1+1 < U.heap.size):=Lh hF.rp.lt;obtain ⟨x0,x1,x2,x3,x4,x5⟩:=hA.cells;have HC:Hid (Ca.At U (w.heap.size+1) 0 r):=Lh (Ca.Au iN);clear hL hI hS hR hF iN;unfold Bl.Sv.val Bl.sl Ca.val;unfold Ca.block at hU;go_enter Tryz.func15,Tryz.ntmps15;go_wp2_with fail;clear hU;refine (MV r.kind U).mono ?_;rintro e U2 ⟨rfl,pV⟩;have QU:=pV.symm;clear pV;subst QU;have hkd:=HKd.out;cases hkn:Bl.jd r.kind
 ·
  have HP:Hid (Bl.apply s c=(s,⟨17,0,0⟩)):=Lh (by unfold Bl.apply;rw [ab (hkd▸hkn)]);clear hkn hkd;go_wp2_with fail;refine Bl.mg (w.heap.size) (w.heap.size+1+1) (w.heap.size+1+1+1) h Bl.iy ⟨0,0,0⟩ (17) HA.out HF.out.st HF.out.rp (by omega) rfl rfl rfl rfl rfl rfl rfl rfl rfl rfl ?_ ?_ ?_ ?_ ?_ ?_ ?_ ?_ ?_
  · kernel_rfl
  · exact fun _ _ _ h=>h
  · rfl
  · rfl
  · rfl
  · rfl
  · rfl
  · rfl
  intro w9 b9;go_wp2_with fail;exact (HF.out.below b9).ret Tryz.results15 h ⟨17,0,0⟩ rfl rfl rfl fun b=>by rw [HP.out];exact ⟨_,rfl,(HL.out.below b).wide w,b⟩
 ·
  have XD:Hid (Bl.jd c.cmd.kind=true):=Lh (hkd▸hkn);clear hkn;by_cases h6:r.kind=6
  ·
   have HP:Hid (Bl.apply s c=Bl.xJ s):=Lh (by unfold Bl.apply Bl.xJ;rw [aa (by rw [XD.out];simp),ab (hkd▸h6)]);rw [h6] at c2;clear hkd h6;go_wp2_with (first | ((with_reducible apply Bl.aI hA);rfl;rfl;rfl));refine (TJ (fun b=>P0 b/\b < w.heap.size) s h U (HL.out.lt.below HF.out.dx) HR.out).mono ?_;rintro e w3 ⟨h',rfl,hL3,b3⟩;have uJ:=Lh hL3;have lu:=HF.out.below b3;have lM:=Lh lu;have yI:=lu.st;have wJ:=lu.MZ h';obtain ⟨q,hq⟩:∃ q,(Bl.xJ s).2=q:=⟨_,rfl⟩;have HQ:=Lh hq;rw [hq];clear hq hL3 b3 lu hA c0 c1 c2 x0 x1 x2 x3 x4 x5;go_wp2_with (first | ((with_reducible apply Bl.aU (h:=h') yI);rfl;rfl;rfl;rfl)|((with_reducible apply Rp.aU (r:=q) wJ);rfl;rfl;rfl;rfl));refine lM.out.ret Tryz.results15 h' q rfl rfl rfl fun b=>?_
   rw [HP.out,HQ.out];exact ⟨_,rfl,(uJ.out.fA (w:=w) (fun b z=>z.2) (by omega) (by have:=iB.out;omega) (by omega) (by have:=iB.out;omega)).mono (fun b z=>z.elim (fun y=>.inl y.1) .inr),b⟩
  ·
   have q6:(r.kind==6)=false:=beq_eq_false_iff_ne.2 h6;have H6:Hid (c.cmd.kind≠6):=Lh (hkd▸h6);have HLk:Hid (Sp.bQ s.ak c.ak c.seq≠0->Bl.apply s c=(s,⟨Sp.bQ s.ak c.ak c.seq,0,0⟩)):=Lh fun z=>by unfold Bl.apply;rw [aa (by rw [XD.out];simp),aa H6.out,ab z]
   have HOl:Hid (Sp.bQ s.ak c.ak c.seq=0->Sp.lookO s.ak c.ak c.seq=true->Bl.apply s c=(s,Bl.told (Sp.own s.ak c.ak))):=Lh fun z y=>by unfold Bl.apply;rw [aa (by rw [XD.out];simp),aa H6.out,aa (by rw [z];simp),ab y]
   have ZH:Hid (Sp.bQ s.ak c.ak c.seq=0->Sp.lookO s.ak c.ak c.seq=false->Bl.apply s c=(Bl.BQ (Bl.vU s c.cmd) c.ak c.seq (Bl.sH s c.cmd),Bl.sH s c.cmd)):=Lh fun z y=>Bl.wU HR.out XD.out H6.out z y
   clear hkd h6;go_wp2_with fail;refine Calls.mono (R:=Xx U s.ak c.ak c.seq) ?_ ?_
   ·
    rw [HI.out.ak,HI.out.seq];exact FW s.ak c.ak c.seq h.ak.ao h.ak.n h.ak.cap U U ah (HL.out.ak.below HF.out.dx) (HI.out.ak▸bT.out.1) (HI.out.seq▸bT.out.2.1)
   rintro e w1 ⟨rfl,b1⟩
   have XZ:Hid (Sp.bQ s.ak c.ak c.seq=0->Sp.lookO s.ak c.ak c.seq=true->Sp.rep (Sp.qI s.ak c.ak c.seq)=Bl.told (Sp.own s.ak c.ak)):=Lh fun z y=>by
    unfold Sp.qI;rw [ab y];rfl
   obtain ⟨E,hE⟩:∃ E,Sp.bQ s.ak c.ak c.seq=E:=⟨_,rfl⟩;obtain ⟨O,hO⟩:∃ O,Sp.lookO s.ak c.ak c.seq=O:=⟨_,rfl⟩;obtain ⟨T,hT⟩:∃ T,Sp.rep (Sp.qI s.ak c.ak c.seq)=T:=⟨_,rfl⟩;rw [hE] at HLk HOl ZH XZ ⊢;rw [hO] at HOl ZH XZ ⊢;rw [hT] at XZ ⊢;clear hE hO hT;have hA1:=hA.below b1;have hF1:=HF.out.below b1;have Oo:=(b1.block _ (by have:=iB.out;omega)).trans gV.out;have mQ:=Lh b1.size;have HB1:=Lh (aj HF.out.dx b1);obtain ⟨w2,hw2⟩:∃ w2,w1.alloc (.cells (Rp.rw' T).toArray 43)=w2:=⟨_,rfl⟩;obtain ⟨b2,k2,s2⟩:=Bl.Ua w1 (.cells (Rp.rw' T).toArray 43);rw [hw2] at b2 k2 s2;have hR2:Rp.Bk w2 w1.heap.size T:=k2;have hA2:=hA1.below b2;have hF2:=hF1.below b2;have nZ:=(b2.block _ (by have:=iB.out;have:=mQ.out;omega)).trans Oo;have HA2:=Lh hA2;have ko:=Lh hF2;have HR2:=Lh hR2;have Og:=Lh nZ;have HB2:=Lh (aj HB1.out b2);have uO:Hid (w.heap.size+1+1+1 < U.heap.size/\U.heap.size<=w1.heap.size/\w2.heap.size=w1.heap.size+1):=Lh ⟨iB.out,mQ.out,s2⟩;have hC2:=Ca.Au nZ;clear b1 b2 k2 s2 hA hA1 hF1 hF2 Oo nZ hR2 c0 c1 c2 x0 x1 x2 x3 x4 x5;by_cases hE0:E=0
   ·
    subst hE0;cases O
    ·
     have HP:=Lh (ZH.out rfl rfl);go_wp2_with (first | ((with_reducible apply Rp.oU (r:=T) (g:=w1.heap.size));rfl;rfl;rfl;rfl;rfl;rfl;rw [hw2])|((with_reducible apply Bl.aI hA2);rfl;rfl;rfl)|((with_reducible apply Ca.TK hC2);rfl;rfl;rfl));refine Calls.mono (R:=Bl.uy (fun b=>P0 b/\b < w.heap.size) w2 (Bl.vU s c.cmd) (Bl.sH s c.cmd)) ?_ ?_
     ·
      have hkk:c.cmd.kind=1\/c.cmd.kind=2\/c.cmd.kind=3\/c.cmd.kind=4\/c.cmd.kind=5\/c.cmd.kind=7\/c.cmd.kind=8:=by have:=Bl.qJ.1 XD.out;have:=H6.out;omega
      have hl:=HL.out.lt.below HB2.out;have hi:=HI.out.isM.below HB2.out;rcases hkk with z | z | z | z | z | z | z
      · exact WQ _ s h r c.cmd w2 hl hi bT.out HR.out z
      · exact WR _ s h r c.cmd w2 hl hi bT.out HR.out z
      · exact WK _ s h r c.cmd w2 hl hi bT.out HR.out z
      · exact WL _ s h r c.cmd w2 hl hi bT.out HR.out z
      · exact WM _ s h r c.cmd w2 hl hi bT.out HR.out z
      · exact WO _ s h r c.cmd w2 hl hi bT.out HR.out z
      · exact WS _ s h r c.cmd w2 hl hi bT.out HR.out z
     rintro e w3 ⟨h',rfl,hL3,b3⟩;have wT:=Lh (Bl.wV HR.out HL.out.av.short HL.out.book.short XD.out H6.out);obtain ⟨q,hq⟩:∃ q,Bl.sH s c.cmd=q:=⟨_,rfl⟩;rw [hq] at wT HP ⊢;obtain ⟨d,hd⟩:∃ d,Bl.vU s c.cmd=d:=⟨_,rfl⟩;rw [hd] at HP hL3;clear hq hd;have lu:=ko.out.below b3;have Oh:=(b3.block _ (by have:=uO.out;omega)).trans Og.out;have HB3:=Lh (aj HB2.out b3);have FH:=Lh b3.size;obtain ⟨w4,hw4,b4,k0,k1,s4⟩:=Bl.U7 w3 (.cells #[.slice none 0 0,.slice none 0 0,.slice none 0 0,.slice none 0 0,.slice none 0 0,.int .i64 0] 30) (.cells #[.int .i64 0,.int .i64 0,.int .i64 0] 43);have hD4:Bl.At w4 w3.heap.size Bl.iy:=k0;have X9:Rp.Bk (Bl.lay w4 w3.heap.size h') (w3.heap.size+1) ⟨0,0,0⟩:=Rp.Bk.other (show Rp.Bk w4 (w3.heap.size+1) ⟨0,0,0⟩ from k1) (by omega) _;have Oi:=((lu.below b4).other (b:=w3.heap.size) (by have:=uO.out;have:=FH.out;omega) (by have:=uO.out;have:=FH.out;omega) (Bl.rv h').toArray).other (b:=w3.heap.size+1) (by have:=uO.out;have:=FH.out;omega) (by have:=uO.out;have:=FH.out;omega) (Rp.rw' q).toArray;have ZR:(Bl.fA w4 w3.heap.size (w3.heap.size+1) h' q).heap[w.heap.size+1]? =some (Ca.block r):=(setRow_other _ (w3.heap.size+1) (w.heap.size+1) _ (by have:=uO.out;have:=FH.out;omega)).trans ((setRow_other _ w3.heap.size (w.heap.size+1) _ (by have:=uO.out;have:=FH.out;omega)).trans ((b4.block _ (by have:=uO.out;have:=FH.out;omega)).trans Oh));have hD5:Bl.At (Bl.fA w4 w3.heap.size (w3.heap.size+1) h' q) w3.heap.size h':=(hD4.lay h').other (by omega) _;have hE5:Rp.Bk (Bl.fA w4 w3.heap.size (w3.heap.size+1) h' q) (w3.heap.size+1) q:=X9.lay q;have hl5:Bl.Lp (fun b=>nw (fun b=>P0 b/\b < w.heap.size) w2 b/\b < w3.heap.size) (Bl.fA w4 w3.heap.size (w3.heap.size+1) h' q) h' d:=((hL3.lt.below b4).kp (jN.row w4 (fun z=>by have:=z.2;omega) _)).kp (jN.row _ (fun z=>by have:=z.2;omega) _);obtain ⟨w5,hw5⟩:∃ w5,Bl.fA w4 w3.heap.size (w3.heap.size+1) h' q=w5:=⟨_,rfl⟩;have hw5':Rp.lay (Bl.lay w4 w3.heap.size h') (w3.heap.size+1) q=w5:=hw5;have hs5:w5.heap.size=w4.heap.size:=by rw [<- hw5];simp [Bl.fA,Rp.lay,Bl.lay,World.setRow]
     rw [hw5] at ZR hD5 hE5 hl5;have hF5:Bl.Fr w w5 (w.heap.size+1+1) (w.heap.size+1+1+1):=hw5▸Oi;have HD5:=Lh hD5;have HE5:=Lh hE5;have WG:=Lh hF5;have HBk5:=Lh ZR;have OY:=Lh hl5;have ZT:Hid (U.heap.size<=w2.heap.size/\w2.heap.size<=w3.heap.size/\w4.heap.size=w3.heap.size+1+1/\w5.heap.size=w4.heap.size):=Lh ⟨by have:=uO.out;omega,FH.out,s4,hs5⟩;clear b3 b4 k0 k1 s4 lu Oi hF5 Oh ZR hD5 hE5 hl5 hL3 hA2 hC2 hw2 hs5 hw5;go_wp2_with (first | ((with_reducible apply Bl.aU (h:=h') hD4);rfl;rfl;rfl;rfl)|((with_reducible apply Rp.aU (r:=q) X9);rfl;rfl;rfl;rfl;rw [hw5']));clear hw4 hw5' hD4 X9;refine Bl.WY (S:=fun u=>Bl.At u w3.heap.size h'/\Rp.Bk u (w3.heap.size+1) q/\u.heap[w.heap.size+1]? =some (Ca.block r)) (f:=39) (args:=#[h'.val,Ca.val r,Rp.val q]) h' (Ca.val r) q (w.heap.size+1+1) (w.heap.size+1+1+1) ?_ ?_ WG.out.st WG.out.rp (by omega) ?_ ?_ ?_ ?_ ?_ ?_ ?_ ?_ ?_ rfl ?_ rfl rfl rfl rfl rfl rfl ?_
     ·
      intro u hb;exact ⟨HD5.out.below hb,HE5.out.below hb,(hb.block _ (by have:=uO.out;have:=ZT.out;omega)).trans HBk5.out⟩
     ·
      intro u vs hu;exact ⟨⟨hu.1.other (by have:=uO.out;have:=ZT.out;omega) _,hu.2.1.other (by have:=uO.out;have:=ZT.out;omega) _,(setRow_other u _ _ _ (by omega)).trans hu.2.2⟩,⟨hu.1.other (by have:=uO.out;have:=ZT.out;omega) _,hu.2.1.other (by have:=uO.out;have:=ZT.out;omega) _,(setRow_other u _ _ _ (by omega)).trans hu.2.2⟩⟩
     · kernel_rfl
     · exact Bl.iq (t:=9) rfl rfl (by kernel_rfl) fun u hu=>hu.1
     · exact Ca.iq (t:=3) rfl rfl (by kernel_rfl) fun u hu=>hu.2.2
     · exact Rp.iq (t:=10) rfl rfl (by kernel_rfl) fun u hu=>hu.2.1
     · exact Rp.iq (t:=10) rfl rfl (by kernel_rfl) fun u hu=>hu.2.1
     · exact fun _ _ _ h=>h
     · exact fun _ _ _ h=>h
     · exact fun _ _ _ h=>h
     · exact fun _ _ _ h=>h
     ·
      refine Bl.enters rfl ?_ Tryz.func39 ?_ rfl _
      · kernel_rfl
      · kernel_rfl
     refine (RA (nw (fun b=>P0 b/\b < w.heap.size) U) d h' r q w5.drew ((OY.out.mono (fun b z=>z.1.elim .inl (fun y=>.inr (by have:=ZT.out;omega)))).below ah.drew) bT.out.1 bT.out.2.1 wT.out).mono ?_;rintro e u ⟨hk,rfl,hlk,bk⟩;have b6:Below w5.heap.size w5 u:=aj ah.drew bk;refine ⟨hk,rfl,b6,?_,?_,?_,?_,?_⟩
     · kernel_rfl
     · kernel_rfl
     · kernel_rfl
     · kernel_rfl
     have HF6:=Lh (WG.out.below b6);have HLk6:=Lh hlk;clear bk b6 hlk;go_wp2_with fail;refine HF6.out.ret Tryz.results15 hk q ?_ ?_ ?_ fun b=>?_
     · kernel_rfl
     · kernel_rfl
     · kernel_rfl
     rw [HP.out];refine ⟨_,rfl,?_,b⟩;have e1:=(HLk6.out.mono (Xq (u:=U) (w:=w5.drew) (by show U.heap.size<=w5.heap.size;have:=ZT.out;omega))).fA (w:=w) (gS:=w.heap.size+1+1) (gR:=w.heap.size+1+1+1) (h:=hk) (r:=q) (fun b z=>z.2) (by omega) (by have:=iB.out;omega) (by omega) (by have:=iB.out;omega);rw [HI.out.ak,HI.out.seq] at e1;exact e1.mono (fun b z=>z.elim (fun y=>.inl y.1) .inr)
    ·
     have HP:Hid (Bl.apply s c=(s,T)):=Lh (by rw [XZ.out rfl rfl];exact HOl.out rfl rfl);go_wp2_with (first | ((with_reducible apply Rp.oU (r:=T) (g:=w1.heap.size));rfl;rfl;rfl;rfl;rfl;rfl;rw [hw2]));refine Bl.yA (w.heap.size) (w1.heap.size) (w.heap.size+1+1) (w.heap.size+1+1+1) h Bl.iy T ⟨0,0,0⟩ HA2.out HR2.out ko.out.st ko.out.rp (by have:=uO.out;omega) rfl rfl rfl rfl rfl rfl rfl rfl rfl rfl ?_ ?_ ?_ ?_ ?_ ?_ ?_ ?_ ?_ ?_
     · kernel_rfl
     · exact fun _ _ _ h=>h
     · exact fun _ _ _ h=>h
     · rfl
     · rfl
     · rfl
     · rfl
     · rfl
     · rfl
     go_wp2_with fail;exact (ko.out.below (ah.drew)).ret Tryz.results15 h T rfl rfl rfl fun b=>by rw [HP.out];exact ⟨_,rfl,(HL.out.below b).wide w,b⟩
   ·
    have hq:(E==0)=false:=beq_eq_false_iff_ne.2 hE0;have HP:=Lh (HLk.out hE0);go_wp2_with (first | ((with_reducible apply Rp.oU (r:=T) (g:=w1.heap.size));rfl;rfl;rfl;rfl;rfl;rfl;rw [hw2]));refine Bl.jI (w.heap.size) (w.heap.size+1+1) (w.heap.size+1+1+1) h Bl.iy ⟨0,0,0⟩ (E) HA2.out ko.out.st ko.out.rp (by omega) rfl rfl rfl rfl rfl rfl rfl rfl rfl rfl rfl rfl ?_ ?_ ?_ ?_ ?_ ?_ ?_ ?_ ?_ ?_ ?_
    · kernel_rfl
    · exact fun _ _ _ h=>h
    · exact fun _ _ _ h=>h
    · rfl
    · rfl
    · rfl
    · rfl
    · rfl
    · rfl
    · rfl
    intro w9 b9;go_wp2_with fail;exact (ko.out.below b9).ret Tryz.results15 h ⟨E,0,0⟩ rfl rfl rfl fun b=>by rw [HP.out];exact ⟨_,rfl,(HL.out.below b).wide w,b⟩
end Go.Proofs.YtpfdnemaaeolcaaGreat
namespace Go.Proofs.YtpfdnemaaeolcaaGreat.Rp
open Go.RowKit
open Mem
def rv (r:T):List Value:=[.int .i64 r.why,.int .i64 r.num,.int .i64 r.au]
theorem aM (r:T):(rv r).length=3:=rfl
theorem aB:∀ rs:List T,(rs.flatMap rv).length=rs.length*3
 | []=>rfl
 | r::l=>by
  rw [List.flatMap_cons,ag,aM,aB l,List.length_cons];omega
theorem aS:∀ (rs:List T) (k p:Nat) (hk:k < rs.length),p < 3->(rs.flatMap rv)[k*3+p]? =(rv rs[k])[p]?
 | r::l,0,p,_,hp=>by
  rw [List.flatMap_cons,List.getElem?_append_left (by rw [aM];omega),Nat.zero_mul,Nat.zero_add];rfl
 | r::l,k+1,p,hk,hp=>by
  rw [List.flatMap_cons,List.getElem?_append_right (by rw [aM];omega),aM,show (k+1)*3+p - 3=k*3+p by omega];exact aS l k p (by simpa using hk) hp
def zero:T:=⟨0,0,0⟩
def zeroV:Value:=.agg #[.int .i64 0,.int .i64 0,.int .i64 0]
theorem info:(Tryz.prog.info? 43).map (fun i=>(i.zero,i.size,i.bytes))=some (some zeroV,3,24):=by kernel_rfl
def Block (w:World) (g:Nat) (ts:List T):Prop:=w.heap[g]? =some (.cells (ts.flatMap rv).toArray 43 (0,0))
variable {ts:List T}
theorem Block.lt (h:Block w g ts):g < w.heap.size:=by
 obtain ⟨hg,_⟩:=Array.getElem?_eq_some_iff.1 h;exact hg
theorem Block.below {u:World} (h:Block w g ts) (k:Below w.heap.size w u):Block u g ts:=(k.block g h.lt).trans h
theorem Block.row (h:Block w g ts) (k:Nat) (hk:k < ts.length):At w g (k*3) ts[k]:=by
 have hcell:∀ p,p < 3->w.cell? ⟨g,k*3+p,none⟩=(rv ts[k])[p]? :=by
  intro p hp;rw [cell_of_row w g _ _ _ _ h,<- aS ts k p hk hp]
  simp
 exact ⟨hcell 0 (by omega),hcell 1 (by omega),hcell 2 (by omega)⟩
theorem Block.frozen {w:World} {g:Nat} {ts:List T} (h:Block w g ts) (k:Nat):w.frozen? ⟨g,k,none⟩=false:=frozen_of_row w g k _ _ h
theorem Block.ls {zs:List T} (h:Block w g (ts++zs)) (n cap:Nat) (hn:n=ts.length) (hc:n<=cap) (hm:cap<=9223372036854775807) (hs:∀ r∈ts,Short r):Ls w (some ⟨g,0,none⟩) n cap ts:=by
 refine ⟨hn,hc,hm,(fun k=>by cases k),.inr ⟨g,0,rfl,fun k hk=>?_⟩,hs⟩;have hr:=h.row k (by rw [ag];omega);rw [List.getElem_append_left hk] at hr;rw [Nat.zero_add];exact hr
def zeros (n:Nat):Array Value:=((List.replicate n zero).flatMap rv).toArray
theorem made (n:Nat):madeCells zeroV.cells (n*3)=zeros n:=by
 apply Array.ext_getElem?;intro j;by_cases hj:j < n*3
 ·
  obtain ⟨k,p,rfl,hp⟩:∃ k p,j=k*3+p/\p < 3:=⟨j / 3,j % 3,by omega,by omega⟩;have hk:k < n:=by omega
  have hz:(zeros n)[k*3+p]? =(rv zero)[p]? :=by
   unfold zeros;rw [List.getElem?_toArray,aS (List.replicate n zero) k p (by simpa using hk) hp,List.getElem_replicate]
  rw [hz];have e:(k*3+p) % 3=p:=by omega
  have hp':p=0\/p=1\/p=2:=by omega
  unfold madeCells;rw [Array.getElem?_map,Array.getElem?_range,ab hj];simp only [Option.map_some];rw [show zeroV.cells.size=3 from rfl,e];rcases hp' with rfl | rfl | rfl <;> rfl
 ·
  rw [Array.getElem?_eq_none (by rw [size_madeCells];omega),Array.getElem?_eq_none];unfold zeros;rw [List.size_toArray,aB,List.length_replicate];omega
theorem make (n:Nat) (hn:n<=100000) (u:World):(Instr.makeSlice 31 (.int .i64 (n:Int)) (.int .i64 (n:Int))).run Tryz.prog u =
  .ok (.slice (some ⟨u.heap.size,0,none⟩) n n) (u.alloc (.cells (zeros n) 43)):=by
 obtain ⟨i0,hi,hz0,hz1,hz2⟩:=info_parts info;have h:=run_make (P:=Tryz.prog) u 31 43 i0 zeroV Tryz.underlying31 hi hz0 .i64 .i64 (n:Int) (n:Int) (by omega) (Int.le_refl _) (by rw [hz2];omega) (by omega);rw [hz1,Int.toNat_natCast,made] at h;exact h
theorem aZ (u:World) (n:Nat):Block (u.alloc (.cells (zeros n) 43)) u.heap.size (List.replicate n zero):=heap_alloc_new u _
theorem set_right {a:T} (X:List Value) (k p:Nat) (v:Value):(rv a++X).set ((k+1)*3+p) v=rv a++X.set (k*3+p) v:=by
 rw [List.set_append_right _ _ (by rw [aM];omega),aM,show (k+1)*3+p - 3=k*3+p by omega]
theorem je:∀ (ts:List T) (k:Nat) (r:T),k < ts.length->(ts.set k r).flatMap rv=((((ts.flatMap rv).set (k*3) (.int .i64 r.why)).set (k*3+1) (.int .i64 r.num)).set (k*3+2) (.int .i64 r.au)):=by
 intro ts
 induction ts with
 | nil =>
  intro k r h;simp at h
 | cons a l ih =>
 intro k r h;cases k with
 | zero =>
  rw [List.set_cons_zero,List.flatMap_cons,List.flatMap_cons];simp only [rv,Nat.zero_mul,Nat.zero_add,List.cons_append,List.nil_append,List.set_cons_zero,List.set_cons_succ]
 | succ k =>
  have ih:=ih k r (by simpa using h);have e0:=fun (X:List Value) (v:Value)=>set_right (a:=a) X k 0 v
  simp only [Nat.add_zero] at e0;rw [List.set_cons_succ,List.flatMap_cons,ih,List.flatMap_cons,e0,set_right,set_right]
theorem Block.store (h:Block w g ts) (k:Nat) (hk:k < ts.length) (r:T) :
  Block (((w.setCell ⟨g,k*3,none⟩ (.int .i64 r.why)).setCell ⟨g,k*3+1,none⟩ (.int .i64 r.num)).setCell ⟨g,k*3+2,none⟩ (.int .i64 r.au)) g (ts.set k r):=by
 have h1:=heap_setCell_same _ g (k*3) _ _ (.int .i64 r.why) h;have h2:=heap_setCell_same _ g (k*3+1) _ _ (.int .i64 r.num) h1;have h3:=heap_setCell_same _ g (k*3+2) _ _ (.int .i64 r.au) h2;unfold Block;rw [h3,je ts k r hk];simp only [List.setIfInBounds_toArray]
theorem gL {B:Nat} {w0:World} (h:Below B w0 w) (hg:B<=g) (k:Nat) (x0 x1 x2:Value) :
  Below B w0 (((w.setCell ⟨g,k*3,none⟩ x0).setCell ⟨g,k*3+1,none⟩ x1).setCell ⟨g,k*3+2,none⟩ x2) :=
 (((h.setCell hg x0).setCell hg x1).setCell hg x2)
end Go.Proofs.YtpfdnemaaeolcaaGreat.Rp
