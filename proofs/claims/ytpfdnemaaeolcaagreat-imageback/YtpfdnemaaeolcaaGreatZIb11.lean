import Derived.Deep.RegionHeld3
import Derived.Laws.CopyOwn
import Derived.Laws.MakeOwn
import Derived.Test.YtpfdnemaaeolcaaGreatZIb1
import Derived.Test.YtpfdnemaaeolcaaGreatZIb2
import Derived.Test.YtpfdnemaaeolcaaGreatZIb3
import Derived.Test.YtpfdnemaaeolcaaGreatZIb4
import Derived.Test.YtpfdnemaaeolcaaGreatZIb7
import Derived.Test.YtpfdnemaaeolcaaGreatZIb8
import Derived.Test.YtpfdnemaaeolcaaGreatZIb9
import Derived.Test.YtpfdnemaaeolcaaGreatZIb10
variable {c:ByteArray} {m bp y d:Int} {k n s:Nat} {w:Go.World} {ao:Option Go.Addr}
set_option maxHeartbeats 8000000
set_option maxRecDepth 100000
set_option linter.unusedVariables false
namespace Go.Proofs.YtpfdnemaaeolcaaGreat
open Go.RowKit
open Mem Pk Cm
theorem Im.gy {α :Type} {f:St-> α ×St} {P: α ->Prop} (h:∀ s,P (f s).1):∀ (k:Nat) (s:St),∀ x∈(Im.bC f k s).1,P x
 | 0,_,x,hx=>by cases hx
 | k+1,s,x,hx=>by
  rw [Im.bC] at hx;rcases List.mem_cons.1 hx with rfl | hx
  · exact h s
  · exact Im.gy h k _ x hx
theorem Im.eF:Fit 0:=⟨by omega,by omega⟩
theorem Im.Ju (bs:List UInt8) (s:St):Short (Im.gI bs s).1:=⟨by have:=Im.rY bs s;show (fC bs 64 s).1.size<=_;omega,aV _ _,aV _ _,aV _ _,aV _ _⟩
theorem Im.Ce (bs:List UInt8) (s:St):Sr.Short (Im.lF bs s).1:=⟨by have:=Im.rY bs s;show (fC bs 64 s).1.size<=_;omega,Im.eF,aV _ _⟩
theorem Im.Jv (bs:List UInt8) (s:St):Sn.Short (Im.gK bs s).1:=⟨aV _ _,aV _ _,aV _ _,aV _ _,aV _ _⟩
def Im.PsS (p:Bl.Ps):Prop:=p.av.size<=64/\p.num=0/\(Fit p.y/\Fit p.m/\Fit p.d)/\(p.tot.net=0/\p.tot.aP=0/\p.tot.au=0)/\p.bf.size<=64/\Fit p.aY
theorem Im.uI (bs:List UInt8) (s:St):Im.PsS (Im.fE bs s).1:=⟨Im.rY _ _,rfl,⟨aV _ _,aV _ _,aV _ _⟩,⟨rfl,rfl,rfl⟩,Im.rY _ _,aV _ _⟩
theorem Im.Ac {rs:List Pd.T} {ps:List Bl.Ps} (h:Bl.Each w rs ps) (k:∀ p∈ps,Im.PsS p):∀ r∈rs,Pd.Short r:=by
 intro r hr;obtain ⟨i,hi,rfl⟩:=List.getElem_of_mem hr;have e:=h.each i hi;obtain ⟨a1,a2,a3,a4,a5,a6⟩:=k _ (List.getElem_mem (h.len▸hi));have f0:=Im.eF;exact ⟨by rw [e.av];omega,by rw [e.num,a2];exact f0,by rw [e.y];exact a3.1,by rw [e.m];exact a3.2.1,by rw [e.d];exact a3.2.2,by rw [e.net,a4.1];exact f0,by rw [e.aP,a4.2.1];exact f0,by rw [e.au,a4.2.2];exact f0,by rw [e.bf];omega,by rw [e.aY];exact a6⟩
theorem Rx.two {u:World} {p:Nat} {cap:Nat} {bs:List UInt8} {s:St} {T:TypeId} {zs cs:Array Value} (h:Rx w u p ao n cap bs s T zs cs):w.heap.size+2<=u.heap.size:=Nat.succ_le_of_lt (Array.getElem?_eq_some_iff.1 h.var).1
theorem DY {A B:Nat} (h:∀ ad,ao=some ad->∃ g,ad=⟨g,0,none⟩/\B<=g) (k:A<=B):kQ (fun b=>A<=b) ao n:=fun _ b off e=>by
 obtain ⟨g,h1,h2⟩:=h _ e;cases h1
 exact Nat.le_trans k h2
structure Im.Rn (A B1 B2 B3 B4:Nat) (w:World) (h:Bl.Sv) (s:Bl.St) (rs:List Pd.T):Prop where
 Y1:A<=B1
 VB:B1<=B2
 VD:B2<=B3
 XJ:B3<=B4
 Y2:B4<=w.heap.size
 av:Sr.Own w B1 (Bl.sl h.av) s.av
 iY:∀ b,(Bl.sl h.av).ownBlock=some b->b < B2
 post:Pd.Own w B2 (Bl.sl h.post) rs
 dS:∀ b,(Bl.sl h.post).ownBlock=some b->b < B3
 short:∀ r∈rs,Pd.Short r
 each:Bl.Each w rs s.post
 AB:zL w B2 (Bl.sl h.post) rs s.post
 NI:∀ i (hi:i < rs.length) b,(Bl.sl rs[i].parts).ownBlock=some b->b < B3
 tab:om w h.tab.ao h.tab.n h.tab.cap s.tab
 ak:Sn.Ls w h.ak.ao h.ak.n h.ak.cap s.ak
 next:h.next=s.next
 fit:Fit s.next
 jf:kQ (fun b=>A<=b/\b < B4/\(b < B1\/B3<=b)) h.tab.ao h.tab.n
 eY:kQ (fun b=>A<=b/\b < B4/\(b < B1\/B3<=b)) h.ak.ao h.ak.n
structure Im.Rs (s:Bl.St):Prop where
 tab:s.tab.length<=24
 av:s.av.length<=8
 post:s.post.length<=40
 ak:s.ak.length<=8
 parts:∀ p∈s.post,p.tot.parts.length<=12
 Y3:∀ r∈s.av,Sr.Short r
 postS:∀ p∈s.post,Im.PsS p
 partS:∀ p∈s.post,∀ x∈p.tot.parts,Pt.Short x/\x.cat.size<=64
theorem Im.rG {α :Type} (f:St-> α ×St) (bs:List UInt8) (most:Int) (s:St) (hm:0<=most):((Im.dn bs most f s).1.length:Int)<=most:=by
 have h:=Im.jA bs most s;have h2:=iE bs most s
 have e:(Im.dn bs most f s).1.length=(aR bs most s).1.toNat:=by
  unfold Im.dn;exact Im.iH f _ _
 rw [e];rcases h with h | h <;> omega
theorem Im.RY (bs:List UInt8) (s:St):Im.Rs (Im.fI bs s).1:=by
 have l1:=Im.rG (Im.gI bs) bs 24 s (by omega);have l2:=fun s=>Im.rG (Im.lF bs) bs 8 s (by omega)
 have l3:=fun s=>Im.rG (Im.fE bs) bs 40 s (by omega)
 have l4:=fun s=>Im.rG (Im.gK bs) bs 8 s (by omega)
 have l5:=fun s=>Im.rG (Im.gJ bs) bs 12 s (by omega)
 unfold Im.fI;dsimp only;refine ⟨?_,?_,?_,?_,fun p hp=>?_,fun r hr=>?_,fun p hp=>?_,fun p hp x hx=>?_⟩
 · exact_mod_cast l1
 · exact_mod_cast l2 _
 · exact_mod_cast l3 _
 · exact_mod_cast l4 _
 · exact Im.gy (P:=fun p=>p.tot.parts.length<=12) (fun s=>by have:=l5;unfold Im.fE;dsimp only;exact_mod_cast this _) _ _ p hp
 · exact Im.gy (Im.Ce bs) _ _ r hr
 · exact Im.gy (Im.uI bs) _ _ p hp
 · exact Im.gy (P:=fun p=>∀ x∈p.tot.parts,Pt.Short x/\x.cat.size<=64) (fun s x hx=>by unfold Im.fE at hx;dsimp only at hx;exact ⟨Im.rC bs _ _ x hx,Im.gy (P:=fun x=>x.cat.size<=64) (fun s=>Im.rY bs s) _ _ x hx⟩) _ _ p hp x hx
theorem NJ (p:Nat) (ao:Option Addr) (n cap:Nat) (bs:List UInt8) (s:St) (w:World) (hR:Rd w p ao n cap bs s) :
  Calls Tryz.prog 19 #[.pointer (some ⟨p,0,none⟩)] w fun e w'=>∃ h:Bl.Sv,e=.returned h.val/\Bl.Lp (fun b=>w.heap.size+2<=b) w' h (Im.fI bs s).1/\(∃ B1 B2 B3 B4 rs,Im.Rn (w.heap.size+2) B1 B2 B3 B4 w' h (Im.fI bs s).1 rs)/\Rd w' p ao n cap bs (Im.fI bs s).2/\gF w p w':=by
 have HX0:=Lh (Rx.start hR #[.slice none 0 0,.slice none 0 0,.slice none 0 0,.slice none 0 0,.slice none 0 0,.int .i64 0] 30);have hlt:=aH hR.c0;have hnp:w.heap.size≠p:=by omega
 have Dz:w.heap.size+1≠p:=by omega
 obtain ⟨U,hU⟩:∃ U,(w.alloc (.cells #[.slice none 0 0,.slice none 0 0,.slice none 0 0,.slice none 0 0,.slice none 0 0,.int .i64 0] 30)).alloc (.cells #[.slice none 0 0,.slice none 0 0,.slice none 0 0,.slice none 0 0,.slice none 0 0,.int .i64 0] 30)=U:=⟨_,rfl⟩;rw [hU] at HX0;have HLp0:=Lh (Bl.Lp.nils (fun b=>w.heap.size+2<=b) U (x:=0) (y:=0) rfl Im.eF);clear hR;go_enter Tryz.func19,Tryz.ntmps19;go_wp2_with fail;clear hU;refine (FL p ao n cap bs 24 s U HX0.out.rd (by omega)).mono ?_;rintro e w1 ⟨v1,rfl,o1,r1,k1⟩;obtain ⟨A8,pc1,hvp1,l1,g1⟩:=KT o1 (Im.gy (Im.Ju bs) _ _);subst hvp1;have HZ1:=Lh HX0.out.two;have HPk1:Hid (jN (fun b=>w.heap.size+2<=b) U w1):=Lh (k1.kR fun b hb=>by have:=hb;omega);have VE:Hid (∀ m,kQ (fun b=>w.heap.size+2<=b) A8 m):=Lh fun m=>DY g1 (by have:=HZ1.out;omega)
 have HFg1:Hid (Fg (w.heap.size+2) U w1):=Lh (Fg.upd k1 (by omega));have Y4:=Lh o1;have VF:=Lh (World.ownsRow.lt o1);obtain ⟨a1,s1,hv1⟩:∃ a s',Im.dn bs 24 (Im.gI bs) s=(a,s'):=⟨_,_,rfl⟩;rw [hv1] at r1 l1 Y4 VF;dsimp only at r1 l1 Y4 VF;have KV:=Lh hv1;have lK:=Lh l1;rw [hv1];dsimp only;obtain ⟨m1,hm1⟩:∃ m,a1.length=m:=⟨_,rfl⟩;rw [hm1] at lK Y4 VF;rw [hm1];have iA:=Lh (HX0.out.call k1 r1);clear r1 k1 hv1 o1 l1 g1 hm1;have c0:=iA.out.cell 0;have c1:=iA.out.cell 1;have c2:=iA.out.cell 2;have c3:=iA.out.cell 3;have c4:=iA.out.cell 4;have c5:=iA.out.cell 5;simp only [List.getElem?_toArray,List.getElem?_cons_zero,List.getElem?_cons_succ] at c0 c1 c2 c3 c4 c5;have z0:=iA.out.fz 0;have uN:Hid (Rx w (w1.setCell ⟨w.heap.size+1,0,none⟩ (.slice A8 m1 pc1)) p ao n cap bs s1 30 #[.slice none 0 0,.slice none 0 0,.slice none 0 0,.slice none 0 0,.slice none 0 0,.int .i64 0] #[.slice A8 m1 pc1,.slice none 0 0,.slice none 0 0,.slice none 0 0,.slice none 0 0,.int .i64 0]):=Lh (iA.out.set 0 (.slice A8 m1 pc1))
 have HLp1:Hid (Bl.Lp (fun b=>w.heap.size+2<=b) (w1.setCell ⟨w.heap.size+1,0,none⟩ (.slice A8 m1 pc1)) ⟨⟨A8,m1,pc1⟩,Bl.z0,Bl.z0,Bl.z0,Bl.z0,0⟩ ⟨a1,[],[],[],[],0⟩):=Lh (by
  have z:=HLp0.out.kp HPk1.out;exact Bl.Lp.kp ⟨lK.out,z.av,z.post,z.book,z.ak,z.next,z.fit,VE.out _,z.pY,z.jW,z.jg,z.eY⟩ (jN.set w1 (by omega) _ _))
 obtain ⟨u1,hu1⟩:∃ u,(w1.setCell ⟨w.heap.size+1,0,none⟩ (.slice A8 m1 pc1))=u:=⟨_,rfl⟩;rw [hu1] at uN HLp1;have HFs1:Hid (Fg (w.heap.size+2) w1 u1):=Lh (hu1▸Fg.set w1 (by omega) _ _);go_wp2_with fail;clear hu1 c0 c1 c2 c3 c4 c5 z0;refine (FI p ao n cap bs 8 s1 u1 uN.out.rd (by omega)).mono ?_;rintro e w2 ⟨v2,rfl,o2,r2,k2⟩;obtain ⟨DZ,pc2,hvp2,l2,g2⟩:=Sr.aX o2 (Im.gy (Im.Ce bs) _ _);subst hvp2;have HZ2:=Lh uN.out.two;have HPk2:Hid (jN (fun b=>w.heap.size+2<=b) u1 w2):=Lh (k2.kR fun b hb=>by have:=hb;omega);have HG2:Hid (∀ m,kQ (fun b=>w.heap.size+2<=b) DZ m):=Lh fun m=>DY g2 (by have:=HZ2.out;omega)
 have HFg2:Hid (Fg (w.heap.size+2) u1 w2):=Lh (Fg.upd k2 (by omega));have VG:=Lh o2;have Jw:=Lh (World.ownsRow.lt o2);obtain ⟨a2,s2,hv2⟩:∃ a s',Im.dn bs 8 (Im.lF bs) s1=(a,s'):=⟨_,_,rfl⟩;rw [hv2] at r2 l2 VG Jw;dsimp only at r2 l2 VG Jw;have H9:=Lh hv2;have HL2:=Lh l2;rw [hv2];dsimp only;obtain ⟨m2,hm2⟩:∃ m,a2.length=m:=⟨_,rfl⟩;rw [hm2] at HL2 VG Jw;rw [hm2];have iK:=Lh (uN.out.call k2 r2);clear r2 k2 hv2 o2 l2 g2 hm2;have c0:=iK.out.cell 0;have c1:=iK.out.cell 1;have c2:=iK.out.cell 2;have c3:=iK.out.cell 3;have c4:=iK.out.cell 4;have c5:=iK.out.cell 5;simp only [List.getElem?_toArray,List.getElem?_cons_zero,List.getElem?_cons_succ] at c0 c1 c2 c3 c4 c5;have z1:=iK.out.fz 1;have tC:Hid (Rx w (w2.setCell ⟨w.heap.size+1,1,none⟩ (.slice DZ m2 pc2)) p ao n cap bs s2 30 #[.slice none 0 0,.slice none 0 0,.slice none 0 0,.slice none 0 0,.slice none 0 0,.int .i64 0] #[.slice A8 m1 pc1,.slice DZ m2 pc2,.slice none 0 0,.slice none 0 0,.slice none 0 0,.int .i64 0]):=Lh (iK.out.set 1 (.slice DZ m2 pc2))
 have HLp2:Hid (Bl.Lp (fun b=>w.heap.size+2<=b) (w2.setCell ⟨w.heap.size+1,1,none⟩ (.slice DZ m2 pc2)) ⟨⟨A8,m1,pc1⟩,⟨DZ,m2,pc2⟩,Bl.z0,Bl.z0,Bl.z0,0⟩ ⟨a1,a2,[],[],[],0⟩):=Lh (by
  have z:=HLp1.out.kp HPk2.out;exact Bl.Lp.kp ⟨z.tab,HL2.out,z.post,z.book,z.ak,z.next,z.fit,z.jf,HG2.out _,z.jW,z.jg,z.eY⟩ (jN.set w2 (by omega) _ _))
 obtain ⟨u2,hu2⟩:∃ u,(w2.setCell ⟨w.heap.size+1,1,none⟩ (.slice DZ m2 pc2))=u:=⟨_,rfl⟩;rw [hu2] at tC HLp2;have HFs2:Hid (Fg (w.heap.size+2) w2 u2):=Lh (hu2▸Fg.set w2 (by omega) _ _);go_wp2_with fail;clear hu2 c0 c1 c2 c3 c4 c5 z1;refine (FM p ao n cap bs 40 s2 u2 tC.out.rd (by omega)).mono ?_;rintro e w3 ⟨v3,rs3,rfl,o3,e3,q3,y3,r3,k3⟩;obtain ⟨Jy,Ll,hvp3,l3,g3⟩:=Pd.aX o3 (Im.Ac e3 (Im.gy (Im.uI bs) _ _));subst hvp3;have HZ3:=Lh tC.out.two;have HPk3:Hid (jN (fun b=>w.heap.size+2<=b) u2 w3):=Lh (k3.kR fun b hb=>by have:=hb;omega);have HG3:Hid (∀ m,kQ (fun b=>w.heap.size+2<=b) Jy m):=Lh fun m=>DY g3 (by have:=HZ3.out;omega)
 have HFg3:Hid (Fg (w.heap.size+2) u2 w3):=Lh (Fg.upd k3 (by omega));have HOw3:=Lh o3;have VH:=Lh (World.ownsRow.lt o3);have xR:=Lh y3;have HSh3:=Lh (Im.Ac e3 (Im.gy (Im.uI bs) _ _));have HQ3:Hid (∀ r∈rs3,kQ (fun b=>w.heap.size+2<=b) r.parts.ao r.parts.n):=Lh fun r hr=>(q3 r hr).mono fun b hb=>by have:=hb.1;have:=HZ3.out;omega
 have Ub:=Lh e3;obtain ⟨a3,s3,hv3⟩:∃ a s',Im.dn bs 40 (Im.fE bs) s2=(a,s'):=⟨_,_,rfl⟩;rw [hv3] at r3 Ub xR;dsimp only at r3 Ub xR;have QW:=Lh hv3;have uJ:=Lh l3;obtain ⟨m3,hm3⟩:∃ m,rs3.length=m:=⟨_,rfl⟩;rw [hm3] at uJ HOw3 VH xR;rw [hm3];have jJ:=Lh (tC.out.call k3 r3);clear r3 k3 hv3 o3 l3 g3 hm3 e3 q3 y3;have c0:=jJ.out.cell 0;have c1:=jJ.out.cell 1;have c2:=jJ.out.cell 2;have c3:=jJ.out.cell 3;have c4:=jJ.out.cell 4;have c5:=jJ.out.cell 5;simp only [List.getElem?_toArray,List.getElem?_cons_zero,List.getElem?_cons_succ] at c0 c1 c2 c3 c4 c5;have z2:=jJ.out.fz 2;have gD:Hid (Rx w (w3.setCell ⟨w.heap.size+1,2,none⟩ (.slice Jy m3 Ll)) p ao n cap bs s3 30 #[.slice none 0 0,.slice none 0 0,.slice none 0 0,.slice none 0 0,.slice none 0 0,.int .i64 0] #[.slice A8 m1 pc1,.slice DZ m2 pc2,.slice Jy m3 Ll,.slice none 0 0,.slice none 0 0,.int .i64 0]):=Lh (jJ.out.set 2 (.slice Jy m3 Ll))
 have HLp3:Hid (Bl.Lp (fun b=>w.heap.size+2<=b) (w3.setCell ⟨w.heap.size+1,2,none⟩ (.slice Jy m3 Ll)) ⟨⟨A8,m1,pc1⟩,⟨DZ,m2,pc2⟩,⟨Jy,m3,Ll⟩,Bl.z0,Bl.z0,0⟩ ⟨a1,a2,a3,[],[],0⟩):=Lh (by
  have z:=HLp2.out.kp HPk3.out;exact Bl.Lp.kp ⟨z.tab,z.av,⟨rs3,uJ.out,Ub.out,HQ3.out⟩,z.book,z.ak,z.next,z.fit,z.jf,z.pY,HG3.out _,z.jg,z.eY⟩ (jN.set w3 (by omega) _ _))
 obtain ⟨u3,hu3⟩:∃ u,(w3.setCell ⟨w.heap.size+1,2,none⟩ (.slice Jy m3 Ll))=u:=⟨_,rfl⟩;rw [hu3] at gD HLp3;have HFs3:Hid (Fg (w.heap.size+2) w3 u3):=Lh (hu3▸Fg.set w3 (by omega) _ _);go_wp2_with fail;clear hu3 c0 c1 c2 c3 c4 c5 z2;refine (FK p ao n cap bs 8 s3 u3 gD.out.rd (by omega)).mono ?_;rintro e w4 ⟨v4,rfl,o4,r4,k4⟩;obtain ⟨Jz,NK,hvp4,l4,g4⟩:=Sn.aX o4 (Im.gy (Im.Jv bs) _ _);subst hvp4;have HZ4:=Lh gD.out.two;have HPk4:Hid (jN (fun b=>w.heap.size+2<=b) u3 w4):=Lh (k4.kR fun b hb=>by have:=hb;omega);have HG4:Hid (∀ m,kQ (fun b=>w.heap.size+2<=b) Jz m):=Lh fun m=>DY g4 (by have:=HZ4.out;omega)
 have HFg4:Hid (Fg (w.heap.size+2) u3 w4):=Lh (Fg.upd k4 (by omega));have Y5:=Lh o4;have VI:=Lh (World.ownsRow.lt o4);obtain ⟨a4,s4,hv4⟩:∃ a s',Im.dn bs 8 (Im.gK bs) s3=(a,s'):=⟨_,_,rfl⟩;rw [hv4] at r4 l4 Y5 VI;dsimp only at r4 l4 Y5 VI;have HV4:=Lh hv4;have AJ:=Lh l4;rw [hv4];dsimp only;obtain ⟨m4,hm4⟩:∃ m,a4.length=m:=⟨_,rfl⟩;rw [hm4] at AJ Y5 VI;rw [hm4];have uj:=Lh (gD.out.call k4 r4);clear r4 k4 hv4 o4 l4 g4 hm4;have c0:=uj.out.cell 0;have c1:=uj.out.cell 1;have c2:=uj.out.cell 2;have c3:=uj.out.cell 3;have c4:=uj.out.cell 4;have c5:=uj.out.cell 5;simp only [List.getElem?_toArray,List.getElem?_cons_zero,List.getElem?_cons_succ] at c0 c1 c2 c3 c4 c5;have z4:=uj.out.fz 4;have OW:Hid (Rx w (w4.setCell ⟨w.heap.size+1,4,none⟩ (.slice Jz m4 NK)) p ao n cap bs s4 30 #[.slice none 0 0,.slice none 0 0,.slice none 0 0,.slice none 0 0,.slice none 0 0,.int .i64 0] #[.slice A8 m1 pc1,.slice DZ m2 pc2,.slice Jy m3 Ll,.slice none 0 0,.slice Jz m4 NK,.int .i64 0]):=Lh (uj.out.set 4 (.slice Jz m4 NK))
 have HLp4:Hid (Bl.Lp (fun b=>w.heap.size+2<=b) (w4.setCell ⟨w.heap.size+1,4,none⟩ (.slice Jz m4 NK)) ⟨⟨A8,m1,pc1⟩,⟨DZ,m2,pc2⟩,⟨Jy,m3,Ll⟩,Bl.z0,⟨Jz,m4,NK⟩,0⟩ ⟨a1,a2,a3,[],a4,0⟩):=Lh (by
  have z:=HLp3.out.kp HPk4.out;exact Bl.Lp.kp ⟨z.tab,z.av,z.post,z.book,AJ.out,z.next,z.fit,z.jf,z.pY,z.jW,z.jg,HG4.out _⟩ (jN.set w4 (by omega) _ _))
 obtain ⟨u4,Va⟩:∃ u,(w4.setCell ⟨w.heap.size+1,4,none⟩ (.slice Jz m4 NK))=u:=⟨_,rfl⟩;rw [Va] at OW HLp4;have HFs4:Hid (Fg (w.heap.size+2) w4 u4):=Lh (Va▸Fg.set w4 (by omega) _ _);go_wp2_with fail;clear Va c0 c1 c2 c3 c4 c5 z4;refine (iW p ao n cap bs s4 u4 OW.out.rd).mono ?_;rintro e w5 ⟨rfl,r5,k5⟩;have vO:=Lh (aV bs s4);obtain ⟨a5,s5,hv5⟩:∃ a s',bH bs s4=(a,s'):=⟨_,_,rfl⟩;rw [hv5] at r5 vO ⊢;dsimp only at r5 vO ⊢;have HV5:=Lh hv5;have HFg5:Hid (Fg (w.heap.size+2) u4 w5):=Lh (Fg.upd k5 (by omega));have HPk5:Hid (jN (fun b=>w.heap.size+2<=b) u4 w5):=Lh (k5.kR fun b hb=>by have:=hb;omega);have oq:=Lh (OW.out.call k5 r5);clear r5 k5 hv5;have c0:=oq.out.cell 0;have c1:=oq.out.cell 1;have c2:=oq.out.cell 2;have c3:=oq.out.cell 3;have c4:=oq.out.cell 4;have c5:=oq.out.cell 5;simp only [List.getElem?_toArray,List.getElem?_cons_zero,List.getElem?_cons_succ] at c0 c1 c2 c3 c4 c5;have z5:=oq.out.fz 5;have p8:Hid (Rx w (w5.setCell ⟨w.heap.size+1,5,none⟩ (.int .i64 a5)) p ao n cap bs s5 30 #[.slice none 0 0,.slice none 0 0,.slice none 0 0,.slice none 0 0,.slice none 0 0,.int .i64 0] #[.slice A8 m1 pc1,.slice DZ m2 pc2,.slice Jy m3 Ll,.slice none 0 0,.slice Jz m4 NK,.int .i64 a5]):=Lh (oq.out.set 5 (.int .i64 a5))
 have Y6:Hid (Bl.Lp (fun b=>w.heap.size+2<=b) (w5.setCell ⟨w.heap.size+1,5,none⟩ (.int .i64 a5)) ⟨⟨A8,m1,pc1⟩,⟨DZ,m2,pc2⟩,⟨Jy,m3,Ll⟩,Bl.z0,⟨Jz,m4,NK⟩,a5⟩ ⟨a1,a2,a3,[],a4,a5⟩):=Lh (by
  have z:=HLp4.out.kp HPk5.out;exact Bl.Lp.kp ⟨z.tab,z.av,z.post,z.book,z.ak,rfl,vO.out,z.jf,z.pY,z.jW,z.jg,z.eY⟩ (jN.set w5 (by omega) _ _))
 obtain ⟨u5,OX⟩:∃ u,w5.setCell ⟨w.heap.size+1,5,none⟩ (.int .i64 a5)=u:=⟨_,rfl⟩;rw [OX] at p8 Y6;have HFs5:Hid (Fg (w.heap.size+2) w5 u5):=Lh (OX▸Fg.set w5 (by omega) _ _);have hA5:Bl.At u5 (w.heap.size+1) ⟨⟨A8,m1,pc1⟩,⟨DZ,m2,pc2⟩,⟨Jy,m3,Ll⟩,Bl.z0,⟨Jz,m4,NK⟩,a5⟩:=p8.out.var;have XK:Bl.At u5 w.heap.size Bl.iy:=p8.out.res;go_wp2_with (first | ((with_reducible apply Bl.aI hA5);rfl;rfl;rfl)|((with_reducible apply Bl.aU (h:=⟨⟨A8,m1,pc1⟩,⟨DZ,m2,pc2⟩,⟨Jy,m3,Ll⟩,Bl.z0,⟨Jz,m4,NK⟩,a5⟩) XK);rfl;rfl;rfl;rfl))
 have HV:Hid (Im.fI bs s=((⟨a1,a2,a3,[],a4,a5⟩:Bl.St),s5)):=Lh (by
  unfold Im.fI;dsimp only;rw [KV.out]
  try dsimp only
  rw [H9.out]
  try dsimp only
  rw [QW.out]
  try dsimp only
  rw [HV4.out]
  try dsimp only
  rw [HV5.out]
  try dsimp only
  )
 refine bodyPost_ret (Bl.kZ Tryz.results19 rfl (XK.lay _)) rfl ⟨_,rfl,?_,?_,?_,?_⟩
 ·
  rw [HV.out];exact Y6.out.kp (jN.row u5 (by omega) _)
 ·
  rw [HV.out];have F5:=HFs5.out.trans (Fg.row u5 (A:=w.heap.size+2) (g:=w.heap.size) (by omega) (Bl.rv ⟨⟨A8,m1,pc1⟩,⟨DZ,m2,pc2⟩,⟨Jy,m3,Ll⟩,Bl.z0,⟨Jz,m4,NK⟩,a5⟩).toArray);have F4:=(HFs4.out.trans HFg5.out).trans F5;have F3:=(HFs3.out.trans HFg4.out).trans F4;have F2:=(HFs2.out.trans HFg3.out).trans F3;have F1:=(HFs1.out.trans HFg2.out).trans F2;have z1:=HZ1.out;have z2:=HZ2.out;have z3:=HZ3.out;have z4:=HZ4.out;have y1:=HFg1.out.size;have y2:=HFs1.out.size;have y3:=HFg2.out.size;have y4:=HFs2.out.size;have y5:=HFg3.out.size;have y6:=HFs3.out.size;have y7:=HFg4.out.size;have y8:=HFs4.out.size;have lp:=Y6.out.kp (jN.row (P:=(fun b=>w.heap.size+2<=b)) u5 (g:=w.heap.size) (by omega) (Bl.rv ⟨⟨A8,m1,pc1⟩,⟨DZ,m2,pc2⟩,⟨Jy,m3,Ll⟩,Bl.z0,⟨Jz,m4,NK⟩,a5⟩).toArray);refine ⟨u1.heap.size,u2.heap.size,u3.heap.size,u4.heap.size,rs3,?_⟩;refine ⟨by omega,by omega,by omega,by omega,?_,F2.rows VG.out (by omega),fun b e=>?_,F3.rows HOw3.out (by omega),fun b e=>?_,HSh3.out,⟨Ub.out.len,fun i hi=>(Ub.out.each i hi).kR (HQ3.out _ (List.getElem_mem hi)) (F3.kR fun b hb=>hb)⟩,xR.out.keep fun i hi g hg=>F3.block g ?_ ?_,fun i hi b e=>?_,lp.tab,lp.ak,rfl,vO.out,fun hn b off e=>?_,fun hn b off e=>?_⟩
  · exact Nat.le_trans HFg5.out.size F5.size
  ·
   have:=(Jw.out b e).2;omega
  ·
   have:=(VH.out b e).2;omega
  ·
   have:=(xR.out.lt Ub.out.len i hi g hg).1;omega
  · exact (xR.out.lt Ub.out.len i hi g hg).2
  ·
   have:=(xR.out.lt Ub.out.len i hi b e).2;omega
  ·
   have h1:=lp.jf hn b off e;have h2:=VF.out b (by show Value.ownBlock (.slice A8 m1 pc1)=_;rw [show A8=_ from e];rfl);exact ⟨h1,by omega,.inl (by omega)⟩
  ·
   have h1:=lp.eY hn b off e;have h2:=VI.out b (by show Value.ownBlock (.slice Jz m4 NK)=_;rw [show Jz=_ from e];rfl);exact ⟨h1,by omega,.inr h2.1⟩
 ·
  rw [HV.out];exact p8.out.rd.row p8.out.mh _
 · exact p8.out.upd.row (Nat.le_refl _) _
def Im.jC (c:ByteArray):List Pd.T->Nat
 | []=>0
 | r::l=>(if r.av=c then 1 else 0)+Im.jC c l
theorem Im.Gn (c:ByteArray):∀ a b:List Pd.T,Im.jC c (a++b)=Im.jC c a+Im.jC c b
 | [],b=>by rw [List.nil_append,Im.jC,Nat.zero_add]
 | r::a,b=>by rw [List.cons_append,Im.jC,Im.jC,Im.Gn c a b];omega
theorem Im.NM (c:ByteArray) {l:List Pd.T} {k:Nat} (h:k < l.length):Im.jC c (l.take (k+1))=Im.jC c (l.take k)+(if l[k].av=c then 1 else 0):=by
 rw [List.take_succ_eq_append_getElem h,Im.Gn,Im.jC,Im.jC,Nat.add_zero]
theorem Im.vP (c:ByteArray):∀ l:List Pd.T,Im.jC c l<=l.length
 | []=>Nat.le_refl _
 | r::l=>by
  have:=Im.vP c l;rw [Im.jC,List.length_cons];split <;> omega
theorem Cg (rs:List Pd.T) (c:ByteArray) (ao:Option Addr) (n cap:Nat) (w0 w:World) (hw:Below w0.heap.size w0 w) (hL:Pd.Ls w ao n cap rs) (hn:n<=1000) :
  Calls Tryz.prog 102 #[.slice ao n cap,.string c] w fun e w'=>e=.returned (.int .i64 (Im.jC c rs:Int))/\Below w0.heap.size w0 w':=by
 have HW:=Lh hw;have HL:=Lh hL;have HN:=Lh hL.len;have hcap:=hL.reach;have hfit:=hL.fits;clear hL hw;go_enter Tryz.func102,Tryz.ntmps102;go_wp2_with fail
 go_loopw [5,7,10] (fun t _ j wr=>∃ (k m:Nat),k<=n/\m<=k/\t=.int .i64 m/\j=.int .i64 k/\Hid (Im.jC c (rs.take k)=m)/\Hid (Below w.heap.size w wr)) (fun _ _ j _=>n - (intOf j).toNat)
 case atStart=>exact ⟨0,0,by omega,by omega,rfl,rfl,Lh rfl,Lh (Below.refl _ _)⟩
 case round =>
  rename World=>wz
  obtain ⟨k,m,hk,hmk,rfl,rfl,HT,HB⟩:=hrel;by_cases hlt:k < n
  ·
   obtain ⟨b,off,rfl⟩:=HL.out.at (by omega);have hkl:k < rs.length:=HN.out▸hlt;have hrow:=(HL.out.row k hkl).below HB.out;have HS:=Lh (Im.NM c hkl);obtain ⟨r,hr⟩:∃ r,rs[k]=r:=⟨_,rfl⟩;rw [hr] at hrow HS;clear hr;have hA:=Pd.dO wz r;have dz:=Lh (aj HB.out (Pd.aC wz r));unfold Pd.C at hA;obtain ⟨a0,a1,a2,a3,a4,a5,a6,a7,a8,a9,uh,qb⟩:=hA;by_cases he:r.av=c
   ·
    have q0:(r.av.toList==c.toList)=true:=beq_iff_eq.2 (by rw [he]);have HE:=Lh he;clear he;go_wp2_with (first | ((with_reducible apply Pd.aI hrow);rfl;rfl;rfl)|((with_reducible apply Pd.aQ (r:=r) (g:=wz.heap.size));rfl;rfl;rfl;rfl;rfl;rfl));go_roundw
    case rel=>exact ⟨k+1,m+1,by omega,by omega,by go_num,by go_num,Lh (by rw [HS.out,HT.out,if_pos HE.out]),dz⟩
    case measure=>simp [intOf];omega
   ·
    have q0:(r.av.toList==c.toList)=false:=Bl.BD he;have HE:=Lh he;clear he;go_wp2_with (first | ((with_reducible apply Pd.aI hrow);rfl;rfl;rfl)|((with_reducible apply Pd.aQ (r:=r) (g:=wz.heap.size));rfl;rfl;rfl;rfl;rfl;rfl));go_roundw
    case rel=>exact ⟨k+1,m,by omega,by omega,by go_num,by go_num,Lh (by rw [HS.out,HT.out,if_neg HE.out,Nat.add_zero]),dz⟩
    case measure=>simp [intOf];omega
  ·
   obtain rfl:k=n:=by omega
   have HM:Hid (Im.jC c rs=m):=Lh (by
    have h:=HT.out;rw [List.take_of_length_le (Nat.le_of_eq HN.out.symm)] at h;exact h)
   go_wp2_with fail;go_ret;exact ⟨by rw [HM.out];rfl,aj HW.out HB.out⟩
end Go.Proofs.YtpfdnemaaeolcaaGreat
namespace Go.Proofs.YtpfdnemaaeolcaaGreat.Im
open Bl
def wr (x:Int):Int:=IntKind.i64.wrap x
theorem D5 {x:Int} (h:Fit x):wr x=x:=by
 unfold wr;rw [IntKind.wrap_i64];unfold Fit at h;omega
theorem JA (x y:Int):wr (wr x+y)=wr (x+y):=by
 unfold wr;rw [IntKind.wrap_i64,IntKind.wrap_i64,IntKind.wrap_i64];omega
theorem XL (x:Int):wr (wr x)=wr x:=by
 have:=JA x 0
 rwa [Int.add_zero,Int.add_zero] at this
def rH (p:Ps) (n:Int):Ps:=⟨p.av,n,p.y,p.m,p.d,p.tot,p.bf,p.aY,p.back⟩
def D6 (p:Ps) (b:Bool):Ps:=⟨p.av,p.num,p.y,p.m,p.d,p.tot,p.bf,p.aY,b⟩
def wQ (p:Ps) (t:Iv.iD):Ps:=⟨p.av,p.num,p.y,p.m,p.d,t,p.bf,p.aY,p.back⟩
def Lm (r:Sr.T) (n:Int):Sr.T:=⟨r.name,n,r.limit,r.shut⟩
def nU (l:List Ps):List Ps:=l.mapIdx fun i p=>rH p ((cnt p.av (l.take i):Int)+1)
def D7 (c:ByteArray) (n:Int) (l:List Ps):Bool:=l.any fun q=>decide (q.bf=c/\q.aY=n)
def mE (l:List Ps):List Ps:=l.mapIdx fun i p=>D6 p (D7 p.av p.num (l.drop (i+1)))
def sK (rs:List Sr.T) (l:List Ps):List Sr.T:=rs.map fun r=>Lm r ((cnt r.name l:Int)+1)
def fH (p:Pt.T):Pt.T:=⟨p.cat,p.bp,p.net,Sh.fK p.net p.bp⟩
def mF (a:Int):List Pt.T->Int
 | []=>a
 | p::l=>mF (wr (a+p.net)) l
def mG (a:Int):List Pt.T->Int
 | []=>a
 | p::l=>mG (wr (a+p.aP)) l
def D8 (t:Iv.iD):Iv.iD:=⟨mF t.net t.parts,mG t.aP (t.parts.map fH),wr (mF t.net t.parts+mG t.aP (t.parts.map fH)),t.parts.map fH⟩
def dK (t:Iv.iD):Bool:=t.parts.all fun p=>decide (Sh.iC p.net p.bp=0)
def nV (l:List Ps):List Ps:=(mE (nU l)).map fun p=>wQ p (D8 p.tot)
def fill (s:Bl.St):Option Bl.St :=
 if (s.post.all fun p=>dK p.tot)=true then
  match aT (nV s.post) [] with
  | some b=>some ⟨s.tab,sK s.av s.post,nV s.post,b,s.ak,s.next⟩
  | none=>none
 else none
def jq (p:Pt.T):Pt.T:=⟨p.cat,p.bp,p.net,0⟩
def eB (p:Ps):Ps:=⟨p.av,0,p.y,p.m,p.d,⟨0,0,0,p.tot.parts.map jq⟩,p.bf,p.aY,false⟩
def Ad (r:Sr.T):Sr.T:=⟨r.name,0,r.limit,r.shut⟩
def strip (s:Bl.St):Bl.St:=⟨s.tab,s.av.map Ad,s.post.map eB,[],s.ak,s.next⟩
theorem Ch (s:Bl.St):xQ (strip s)=xQ s:=by
 unfold xQ strip;rw [wD iY Ad (fun _=>rfl),wD dS eB (fun p=>by unfold dS eB;rw [wD gH jq (fun _=>rfl)])]
theorem D9 (c:ByteArray):∀ l:List Ps,cnt c (l.map eB)=cnt c l
 | []=>rfl
 | p::l=>by rw [List.map_cons,cnt,cnt,D9 c l];rfl
theorem Lr:∀ (l:List Pt.T) (a:Int),wr a=a->mF a l=wr (a+dV l)
 | [],a,h=>by rw [mF,dV,Int.add_zero,h]
 | p::l,a,h=>by rw [mF,Lr l _ (XL _),JA,dV,Int.add_assoc]
theorem Lu:∀ (l:List Pt.T) (a:Int),wr a=a->mG a l=wr (a+dI l)
 | [],a,h=>by rw [mG,dI,Int.add_zero,h]
 | p::l,a,h=>by rw [mG,Lu l _ (XL _),JA,dI,Int.add_assoc]
theorem wr_0:wr 0=0:=D5 ⟨by omega,by omega⟩
theorem Gp:∀ l:List Pt.T,dV (l.map jq)=dV l
 | []=>rfl
 | p::l=>by rw [List.map_cons,dV,dV,Gp l];rfl
theorem Ci {t:Iv.iD} (h:sI t):(t.parts.map jq).map fH=t.parts:=by
 rw [List.map_map];refine (List.map_congr_left (g:=id) fun p hp=>?_).trans (List.map_id _);have:=(h.each p hp).2.2.2.2;show (⟨p.cat,p.bp,p.net,Sh.fK p.net p.bp⟩:Pt.T)=p;rw [this]
theorem RZ {t:Iv.iD} (h:sI t):D8 ⟨0,0,0,t.parts.map jq⟩=t:=by
 have h1:mF 0 (t.parts.map jq)=t.net:=by rw [Lr _ _ wr_0,Gp,Int.zero_add,<- h.net,D5 h.fit.1]
 have h2:mG 0 ((t.parts.map jq).map fH)=t.aP:=by rw [Ci h,Lu _ _ wr_0,Int.zero_add,<- h.aP,D5 h.fit.2.1]
 unfold D8;simp only;rw [h1,h2,Ci h,<- h.au,D5 h.fit.2.2]
theorem R3 {t:Iv.iD} (h:sI t):dK ⟨0,0,0,t.parts.map jq⟩=true:=by
 unfold dK;rw [List.all_eq_true];intro p hp;obtain ⟨q,hq,rfl⟩:=List.mem_map.1 hp;exact decide_eq_true (h.each q hq).2.2.2.1
theorem R4 {n:Int} {l:List Ps} {i:Nat}:D7 c n (l.drop i)=true↔∃ j,∃ hj:j < l.length,i<=j/\l[j].bf=c/\l[j].aY=n:=by
 unfold D7;rw [List.any_eq_true];constructor
 ·
  rintro ⟨q,hq,hd⟩;obtain ⟨k,hk,rfl⟩:=List.getElem_of_mem hq;rw [List.length_drop] at hk;rw [List.getElem_drop] at hd;exact ⟨i+k,by omega,by omega,of_decide_eq_true hd⟩
 ·
  rintro ⟨j,hj,hij,e⟩;refine ⟨l[j],?_,decide_eq_true e⟩;have h1:j - i < (l.drop i).length:=by rw [List.length_drop];omega
  have h2:(l.drop i)[j - i]=l[j]:=by
   rw [List.getElem_drop];simp only [show i+(j - i)=j by omega]
  rw [<- h2];exact List.getElem_mem h1
theorem ny (l : List Ps) (i : Nat) (h : i < (nU l).length) : (nU l)[i] = rH (l[i]'(by unfold nU at h; rw [List.length_mapIdx] at h; exact h)) ((cnt (l[i]'(by unfold nU at h; rw [List.length_mapIdx] at h; exact h)).av (l.take i) : Int) + 1) := by
 exact List.getElem_mapIdx
theorem gB (l:List Ps):(nU l).length=l.length:=List.length_mapIdx
theorem eH (l:List Ps):(mE l).length=l.length:=List.length_mapIdx
theorem nW (l:List Ps):(nV l).length=l.length:=by unfold nV;rw [List.length_map,eH,gB]
theorem lq (l : List Ps) (i : Nat) (h : i < (mE l).length) : (mE l)[i] = D6 (l[i]'(by rw [eH] at h; exact h)) (D7 (l[i]'(by rw [eH] at h; exact h)).av (l[i]'(by rw [eH] at h; exact h)).num (l.drop (i + 1))) := by
 exact List.getElem_mapIdx
theorem Ae (l : List Ps) (i : Nat) (h : i < (nV l).length) : (nV l)[i] = wQ ((mE (nU l))[i]'(by rw [nW] at h; rw [eH,gB]; exact h)) (D8 ((mE (nU l))[i]'(by rw [nW] at h; rw [eH,gB]; exact h)).tot) := by
 exact List.getElem_map _
theorem NP {s:Bl.St} (h:Right s):nV (s.post.map eB)=s.post:=by
 refine List.ext_getElem (by rw [nW,List.length_map]) fun i h1 h2=>?_
 have hn : ∀ (j : Nat) (hj : j < s.post.length),(nU (s.post.map eB))[j]'(by rw [gB,List.length_map]; exact hj) = rH (eB s.post[j]) s.post[j].num := by
  intro j hj;rw [ny,List.getElem_map,<- List.map_take,D9];rw [show (eB s.post[j]).av=s.post[j].av from rfl,<- h.num j hj]
 rw [Ae,lq,hn i h2]
 have hb:D7 (rH (eB s.post[i]) s.post[i].num).av (rH (eB s.post[i]) s.post[i].num).num ((nU (s.post.map eB)).drop (i+1))=s.post[i].back:=by
  have key:D7 (rH (eB s.post[i]) s.post[i].num).av (rH (eB s.post[i]) s.post[i].num).num ((nU (s.post.map eB)).drop (i+1))=true↔s.post[i].back=true:=by
   rw [R4,(h.link i h2).back];constructor
   ·
    rintro ⟨j,hj,hij,e⟩;have hj':j < s.post.length:=by rw [gB,List.length_map] at hj;exact hj
    rw [hn j hj'] at e;exact ⟨j,hj',by omega,e⟩
   ·
    rintro ⟨j,hj,hij,e⟩;refine ⟨j,by rw [gB,List.length_map];exact hj,by omega,?_⟩;rw [hn j hj];exact e
  cases hx:s.post[i].back
  ·
   rw [hx] at key;simpa using key
  · exact key.2 hx
 rw [hb];have ht:=RZ (h.tot s.post[i] (List.getElem_mem h2));show wQ (D6 (rH (eB s.post[i]) s.post[i].num) s.post[i].back) (D8 ⟨0,0,0,s.post[i].tot.parts.map jq⟩)=s.post[i];rw [ht];rfl
theorem R5 {s:Bl.St} (h:Right s):sK (s.av.map Ad) (s.post.map eB)=s.av:=by
 unfold sK;rw [List.map_map];refine (List.map_congr_left (g:=id) fun r hr=>?_).trans (List.map_id _);show (⟨r.name,(cnt r.name (s.post.map eB):Int)+1,r.limit,r.shut⟩:Sr.T)=r;rw [D9];have:=h.full r hr;rw [show (cnt r.name s.post:Int)+1=r.next by omega]
theorem JB {s:Bl.St} (h:Right s):fill (strip s)=some s:=by
 unfold fill strip;simp only;rw [if_pos,NP h,h.book,R5 h];rw [List.all_eq_true];intro p hp;obtain ⟨q,hq,rfl⟩:=List.mem_map.1 hp;exact R3 (h.tot q hq)
theorem JC {s t:Bl.St} (hr:Raw s) (h:fill s=some t):strip t=s:=by
 unfold fill at h;split at h
 ·
  split at h
  ·
   rename_i b hb;cases h
   unfold strip;simp only
   have e1:(sK s.av s.post).map Ad=s.av:=by
    unfold sK;rw [List.map_map];refine (List.map_congr_left (g:=id) fun r hq=>?_).trans (List.map_id _);have:=(hr.av.2 r hq).2.2;show (⟨r.name,0,r.limit,r.shut⟩:Sr.T)=r;rw [<- this]
   have e2:(nV s.post).map eB=s.post:=by
    refine List.ext_getElem (by rw [List.length_map,nW]) fun i h1 h2=>?_
    rw [List.getElem_map];rw [Ae,lq,ny];obtain ⟨_,_,_,_,⟨_,hp⟩,q1,q2,q3,q4,q5⟩:=hr.post.2 s.post[i] (List.getElem_mem h2)
    have e3:(s.post[i].tot.parts.map fH).map jq=s.post[i].tot.parts:=by
     rw [List.map_map];refine (List.map_congr_left (g:=id) fun x hx=>?_).trans (List.map_id _);have:=(hp x hx).2.2.2;show (⟨x.cat,x.bp,x.net,0⟩:Pt.T)=x;rw [<- this]
    generalize s.post[i]=p at *;obtain ⟨av,num,y,m,d,⟨net,aP,au,parts⟩,bf,aY,back⟩:=p;simp only at q1 q2 q3 q4 q5 e3;subst q1 q2 q3 q4 q5;show (⟨av,0,y,m,d,⟨0,0,0,(parts.map fH).map jq⟩,bf,aY,false⟩:Ps)=_;rw [e3]
   rw [e1,e2,<- hr.book]
  · cases h
 · cases h
theorem JD {s t:Bl.St} (hr:Raw s) (h:fill s=some t):xQ t=xQ s:=by
 rw [<- Ch t,JC hr h]
theorem nA (h:Rn.name (txt c)=true):c.size<=24:=by
 unfold Rn.name at h;simp only [Bool.and_eq_true,decide_eq_true_iff] at h;have h2:=h.1.2;have e:c.size=(txt c).length:=by unfold txt;rw [Array.length_toList];rfl
 omega
end Go.Proofs.YtpfdnemaaeolcaaGreat.Im
namespace Go.Proofs.YtpfdnemaaeolcaaGreat
open Go.RowKit
open Mem Pk Cm
def Im.mix {α :Type} (f:Nat-> α -> α) (k:Nat) (l:List α):List α :=l.mapIdx fun i x=>if i < k then f i x else x
section
variable {α :Type} {f:Nat-> α -> α} {l:List α}
theorem Im.dB (k:Nat):(Im.mix f k l).length=l.length:=List.length_mapIdx
theorem Im.lW (k i : Nat) (h : i < (Im.mix f k l).length) : (Im.mix f k l)[i] = if i < k then f i (l[i]'(by rw [Im.dB] at h; exact h)) else l[i]'(by rw [Im.dB] at h; exact h) := List.getElem_mapIdx
theorem Im.rJ:Im.mix f 0 l=l:=by
 refine List.ext_getElem (Im.dB 0) fun i h1 h2=>?_
 rw [Im.lW,if_neg (Nat.not_lt_zero i)]
theorem Im.mH (h:l.length<=k):Im.mix f k l=l.mapIdx f:=by
 refine List.ext_getElem (by rw [Im.dB,List.length_mapIdx]) fun i h1 h2=>?_
 rw [Im.lW,if_pos (by rw [Im.dB] at h1;omega),List.getElem_mapIdx]
theorem Im.qF (h : k < l.length) : (Im.mix f k l)[k]'(by rw [Im.dB]; exact h) = l[k] := by
 rw [Im.lW,if_neg (Nat.lt_irrefl k)]
theorem Im.oN (h:k < l.length):(Im.mix f k l).set k (f k l[k])=Im.mix f (k+1) l:=by
 refine List.ext_getElem (by rw [List.length_set,Im.dB,Im.dB]) fun i h1 h2=>?_
 rw [List.getElem_set,Im.lW,Im.lW];by_cases e:k=i
 ·
  subst e;rw [if_pos rfl,if_pos (Nat.lt_succ_self k)]
 ·
  rw [if_neg e];by_cases h3:i < k
  · rw [if_pos h3,if_pos (by omega)]
  · rw [if_neg h3,if_neg (by omega)]
theorem Im.yc {P: α ->Prop} (k:Nat) (h0:∀ x∈l,P x) (h1:∀ i (hi:i < l.length),P (f i l[i])):∀ x∈Im.mix f k l,P x:=by
 intro x hx;obtain ⟨i,hi,rfl⟩:=List.getElem_of_mem hx;rw [Im.lW];rw [Im.dB] at hi;split
 · exact h1 i hi
 · exact h0 _ (List.getElem_mem hi)
theorem Im.Lv {β :Type} (g: α -> β) (k:Nat) (h:∀ i x,g (f i x)=g x):(Im.mix f k l).map g=l.map g:=by
 refine List.ext_getElem (by rw [List.length_map,List.length_map,Im.dB]) fun i h1 h2=>?_
 rw [List.getElem_map,List.getElem_map,Im.lW];split
 · exact h _ _
 · rfl
end
theorem Im.Gq (c:ByteArray):∀ {l m:List Pd.T},l.map (·.av)=m.map (·.av)->Im.jC c l=Im.jC c m
 | [],[],_=>rfl
 | [],_::_,h=>by cases h
 | _::_,[],h=>by cases h
 | a::l,b::m,h=>by
  rw [List.map_cons,List.map_cons,List.cons.injEq] at h;rw [Im.jC,Im.jC,Im.Gq c h.2,h.1]
def Im.bH (r:Pd.T) (n:Int):Pd.T:=⟨r.av,n,r.y,r.m,r.d,r.net,r.aP,r.au,r.parts,r.bf,r.aY,r.back⟩
def Im.XM (r:Pd.T) (b:Bool):Pd.T:=⟨r.av,r.num,r.y,r.m,r.d,r.net,r.aP,r.au,r.parts,r.bf,r.aY,b⟩
def Im.nF (rs:List Pd.T) (i:Nat) (r:Pd.T):Pd.T:=Im.bH r ((Im.jC r.av (rs.take i):Int)+1)
def Im.nH (c:ByteArray) (n:Int) (l:List Pd.T):Bool:=l.any fun q=>decide (q.bf=c/\q.aY=n)
def Im.bF (rs:List Pd.T) (i:Nat) (r:Pd.T):Pd.T:=Im.XM r (Im.nH r.av r.num (rs.drop (i+1)))
theorem Im.Lx {A cap:Nat} {e:Nat} {xs:List Value} (h:w.ownsRow A e k (.slice ao n cap) n xs) (hn:0 < n):∃ g,ao=some ⟨g,0,none⟩:=by
 rcases h.2 with ⟨_,h2⟩ | ⟨g',cap',cur,h',_⟩
 · omega
 ·
  simp only [Value.slice.injEq] at h';obtain ⟨rfl,_,rfl⟩:=h';exact ⟨g',rfl⟩
theorem Im.JE {r:Pd.T} (h:Pd.Short r) (n:Int) (hn:Fit n):Pd.Short (Im.bH r n):=⟨h.1,hn,h.2.2⟩
theorem Im.Gs {r:Pd.T} (h:Pd.Short r) (b:Bool):Pd.Short (Im.XM r b):=h
theorem Im.Gt {rs:List Pd.T} (h:∀ r∈rs,Pd.Short r) (hn:rs.length<=1000) (k:Nat):∀ r∈Im.mix (Im.nF rs) k rs,Pd.Short r :=
 Im.yc k h fun i hi=>Im.JE (h _ (List.getElem_mem hi)) _ (by
  have h1:=Im.vP rs[i].av (rs.take i);rw [List.length_take] at h1;exact ⟨by omega,by omega⟩)
theorem Im.Gu {rs:List Pd.T} (h:∀ r∈rs,Pd.Short r) (k:Nat):∀ r∈Im.mix (Im.bF rs) k rs,Pd.Short r :=
 Im.yc k h fun i hi=>Im.Gs (h _ (List.getElem_mem hi)) _
theorem JF (rs:List Pd.T) (ao:Option Addr) (n cap A:Nat) (w:World) (hO:Pd.Own w A (.slice ao n cap) rs) (hs:∀ r∈rs,Pd.Short r) (hn:n=rs.length) (hm:n<=1000) :
  Calls Tryz.prog 55 #[.slice ao n cap] w fun e w'=>e=.returned (.tuple #[])/\Pd.Own w' A (.slice ao n cap) (rs.mapIdx (Im.nF rs))/\bI (fun b=>(Value.slice ao n cap).ownBlock=some b) w w':=by
 have I6:=Lh hO;have HS:=Lh hs;have HN:=Lh hn
 have hcl:n<=cap/\cap<=9223372036854775807:=by
  obtain ⟨a,c,e,l,_⟩:=Pd.aX hO hs;simp only [Value.slice.injEq] at e;obtain ⟨rfl,rfl,rfl⟩:=e;exact ⟨l.fits,l.reach⟩
 obtain ⟨hnc,hcm⟩:=hcl;clear hO hs hn;go_enter Tryz.func55,Tryz.ntmps55;go_wp2_with fail
 go_loopw [2,5] (fun _ j wr=>∃ k:Nat,k<=n/\j=.int .i64 k/\Hid (Pd.Own wr A (.slice ao n cap) (Im.mix (Im.nF rs) k rs))/\Hid (bI (fun b=>(Value.slice ao n cap).ownBlock=some b) w wr)) (fun _ j _=>n - (intOf j).toNat)
 case atStart=>exact ⟨0,by omega,rfl,Lh (by rw [Im.rJ];exact I6.out),Lh (bI.refl _ _)⟩
 case round =>
  rename World=>wz
  obtain ⟨k,hk,rfl,HO,HU⟩:=hrel;by_cases hlt:k < n
  ·
   have hkr:k < rs.length:=HN.out▸hlt;have hkm:k < (Im.mix (Im.nF rs) k rs).length:=by rw [Im.dB];exact hkr
   obtain ⟨g,hao⟩:=Im.Lx (by have:=HO.out;unfold Pd.Own at this;rw [Im.dB,<- HN.out] at this;exact this) (by omega);subst hao;have bT:=Lh (Im.Gt HS.out (by have:=HN.out;omega) k);obtain ⟨ha,hf,_⟩:=Pd.dH HO.out k hkm;have hat:=Im.qF (f:=Im.nF rs) hkr;have hst:=Im.oN (f:=Im.nF rs) hkr;rw [hat] at ha
   have HL:Hid (Pd.Ls wz (some ⟨g,0,none⟩) n cap (Im.mix (Im.nF rs) k rs)):=Lh (by
    obtain ⟨a,c,e,l,_⟩:=Pd.aX HO.out bT.out;rw [Im.dB,<- HN.out] at e l;simp only [Value.slice.injEq] at e;obtain ⟨rfl,_,rfl⟩:=e;exact l)
   obtain ⟨hsl,hLt⟩:=HL.out.to k (by omega);have FX:=Lh hLt;obtain ⟨r,hr⟩:∃ r,rs[k]=r:=⟨_,rfl⟩;have HC:Hid (Im.jC r.av ((Im.mix (Im.nF rs) k rs).take k)=Im.jC r.av (rs.take k)):=Lh (Im.Gq _ (by rw [List.map_take,List.map_take,Im.Lv (f:=Im.nF rs) (·.av) k fun _ _=>rfl]));rw [hr] at ha hat hst;have VJ:=Lh hat;have bX:=Lh hst
   have JG:Hid (∀ u,Below wz.heap.size wz u->Calls Tryz.prog 102 #[.slice (some ⟨g,0,none⟩) k cap,.string r.av] u fun e w'=>e=.returned (.int .i64 (Im.jC r.av (rs.take k):Int))/\Below wz.heap.size wz w'):=Lh fun u hu=>by
    have h:=Cg _ r.av (some ⟨g,0,none⟩) k cap wz u hu (FX.out.below hu) (by omega);rw [HC.out] at h;exact h
   obtain ⟨q,hq⟩:∃ q,Im.jC r.av (rs.take k)=q:=⟨_,rfl⟩
   have hqk:q<=k:=by
    have h1:=Im.vP r.av (rs.take k);rw [List.length_take] at h1;omega
   have O4:Hid (∀ u,Below wz.heap.size wz u->u.cell? ⟨g,k*12+1,none⟩=some (.int .i64 r.num)/\u.frozen? ⟨g,k*12+1,none⟩=false):=Lh fun u hu=>⟨(ha.below hu).c1,((aD hu).2 _ _ (aH ha.c1)).trans (hf _)⟩
   have oZ:Hid (∀ u,Below wz.heap.size wz u->Pd.Own (u.setCell ⟨g,k*12+1,none⟩ (.int .i64 ((q:Int)+1))) A (.slice (some ⟨g,0,none⟩) n cap) (Im.mix (Im.nF rs) (k+1) rs)/\bI (fun b=>(Value.slice (some ⟨g,0,none⟩) n cap).ownBlock=some b) w (u.setCell ⟨g,k*12+1,none⟩ (.int .i64 ((q:Int)+1)))):=Lh fun u hu=>by
    refine ⟨?_,(HU.out.ru hu).trans (bI.set (Q:=fun b=>(Value.slice (some ⟨g,0,none⟩) n cap).ownBlock=some b) u rfl _ _)⟩;rw [<- bX.out];refine Pd.jo (Pd.own_below HO.out hu) k 1 hkm (by omega) _ _ ?_;rw [VJ.out];unfold Im.nF;rw [hq];rfl
   rw [hq] at JG;obtain ⟨c0,c1,c2,c3,c4,c5,c6,c7,c8,c9,c10,c11⟩:=ha;clear hLt hat hst hr hq hf;go_wp2_with fail;go_region_with (go_at_call 102;refine (JG.out _ (by first | exact Below.refl _ _ | exact (Below.refl _ _).drew)).mono ?_;rintro e u ⟨rfl,hu⟩;have q3:=(O4.out u hu).1;have q4:=(O4.out u hu).2;have Ht:=Lh hu;clear hu)
   all_goals (try go_wp2_with fail)
   all_goals rw [show (1:Int)+(q:Int)=(q:Int)+1 from Int.add_comm _ _]
   all_goals
    go_roundw
    case rel=>exact ⟨k+1,by omega,by go_num,Lh (oZ.out _ Ht.out).1,Lh (oZ.out _ Ht.out).2⟩
    case measure=>simp [intOf];omega
  ·
   obtain rfl:k=n:=by omega
   go_wp2_with fail;go_end0;refine ⟨rfl,?_,HU.out⟩;rw [<- Im.mH (k:=k) (Nat.le_of_eq HN.out.symm)];exact HO.out
theorem Im.NQ {l:List Pd.T} (h:k < l.length):Im.nH c m (l.take (k+1))=(Im.nH c m (l.take k)||decide (l[k].bf=c/\l[k].aY=m)):=by
 unfold Im.nH;rw [List.take_succ_eq_append_getElem h,List.any_append]
 simp
theorem Im.VK {l:List Pd.T} (h:k < l.length) (e:l[k].bf=c/\l[k].aY=m):Im.nH c m l=true:=by
 unfold Im.nH;rw [List.any_eq_true];exact ⟨_,List.getElem_mem h,decide_eq_true e⟩
theorem Im.Gv {c:ByteArray} {n:Int}:∀ {l m:List Pd.T},l.map (fun r=>(r.bf,r.aY))=m.map (fun r=>(r.bf,r.aY))->Im.nH c n l=Im.nH c n m
 | [],[],_=>rfl
 | [],_::_,h=>by cases h
 | _::_,[],h=>by cases h
 | a::l,b::m,h=>by
  rw [List.map_cons,List.map_cons,List.cons.injEq,Prod.mk.injEq] at h;have ih:=Im.Gv (c:=c) (n:=n) h.2;unfold Im.nH at ih ⊢;rw [List.any_cons,List.any_cons,ih,h.1.1,h.1.2]
theorem Ea (rs:List Pd.T) (c:ByteArray) (m:Int) (ao:Option Addr) (n cap:Nat) (w0 w:World) (hw:Below w0.heap.size w0 w) (hL:Pd.Ls w ao n cap rs) :
  Calls Tryz.prog 103 #[.slice ao n cap,.agg #[.string c,.int .i64 m]] w fun e w'=>e=.returned (.bool (Im.nH c m rs))/\Below w0.heap.size w0 w':=by
 have HW:=Lh hw;have HL:=Lh hL;have HN:=Lh hL.len;have hcap:=hL.reach;have hfit:=hL.fits;clear hL hw;obtain ⟨V,hV,MW,v0,v1⟩:=Bl.Dx w c m;have HV:=Lh MW;have HC:=Lh (And.intro v0 v1);clear MW v0 v1;go_enter Tryz.func103,Tryz.ntmps103;go_wp2_with fail;clear hV
 go_loopw [6,9] (fun _ j wr=>∃ k:Nat,k<=n/\j=.int .i64 k/\Hid (Im.nH c m (rs.take k)=false)/\Hid (Below V.heap.size V wr)) (fun _ j _=>n - (intOf j).toNat)
 case atStart=>exact ⟨0,by omega,rfl,Lh rfl,Lh (Below.refl _ _)⟩
 case round =>
  rename World=>wr
  obtain ⟨k,hk,rfl,HT,HB⟩:=hrel;by_cases hlt:k < n
  ·
   obtain ⟨b,off,rfl⟩:=HL.out.at (by omega);have hkl:k < rs.length:=HN.out▸hlt;have hrow:=(HL.out.row k hkl).below (aj HV.out HB.out);have HS:=Lh (Im.NQ (c:=c) (m:=m) hkl);have HIn:=Lh (Im.VK (c:=c) (m:=m) hkl);obtain ⟨r,hr⟩:∃ r,rs[k]=r:=⟨_,rfl⟩;rw [hr] at hrow HS HIn;clear hr;have hA:=Pd.dO wr r;have dz:=Lh (aj HB.out (Pd.aC wr r));have x0:=(aD (aj HB.out (Pd.aC wr r))).1 _ 0 (aH HC.out.1) |>.trans HC.out.1
   have x1:=(aD (aj HB.out (Pd.aC wr r))).1 _ 1 (aH HC.out.1) |>.trans HC.out.2
   have hA':=hA;unfold Pd.C at hA';obtain ⟨_,_,_,_,_,_,_,_,_,a9,uh,_⟩:=hA';by_cases he:r.bf=c
   ·
    have q0:=Bl.FE he;by_cases hm:r.aY=m
    ·
     have HF:=Lh (HIn.out ⟨he,hm⟩);have q1:(r.aY==m)=true:=beq_iff_eq.2 hm;clear he hm;go_wp2_with (first | ((with_reducible apply Pd.aI hrow);rfl;rfl;rfl)|((with_reducible apply Pd.aQ (r:=r) (g:=wr.heap.size));rfl;rfl;rfl;rfl;rfl;rfl));go_ret;exact ⟨by rw [HF.out];rfl,aj HW.out (aj HV.out dz.out)⟩
    ·
     have HF:Hid (Im.nH c m (rs.take (k+1))=false):=Lh (by rw [HS.out,HT.out,decide_eq_false (fun h=>hm h.2)];rfl);have q1:(r.aY==m)=false:=beq_eq_false_iff_ne.2 hm;clear he hm;go_wp2_with (first | ((with_reducible apply Pd.aI hrow);rfl;rfl;rfl)|((with_reducible apply Pd.aQ (r:=r) (g:=wr.heap.size));rfl;rfl;rfl;rfl;rfl;rfl));go_roundw
     case rel=>exact ⟨k+1,by omega,by go_num,HF,dz⟩
     case measure=>simp [intOf];omega
   ·
    have q0:=Bl.BD he;have HF:Hid (Im.nH c m (rs.take (k+1))=false):=Lh (by rw [HS.out,HT.out,decide_eq_false (fun h=>he h.1)];rfl);clear he;go_wp2_with (first | ((with_reducible apply Pd.aI hrow);rfl;rfl;rfl)|((with_reducible apply Pd.aQ (r:=r) (g:=wr.heap.size));rfl;rfl;rfl;rfl;rfl;rfl));go_roundw
    case rel=>exact ⟨k+1,by omega,by go_num,HF,dz⟩
    case measure=>simp [intOf];omega
  ·
   obtain rfl:k=n:=by omega
   have HF:Hid (Im.nH c m rs=false):=Lh (by
    rw [<- HT.out,List.take_of_length_le (Nat.le_of_eq HN.out.symm)])
   go_wp2_with fail;go_ret;exact ⟨by rw [HF.out];rfl,aj HW.out (aj HV.out HB.out)⟩
theorem JH (rs:List Pd.T) (ao:Option Addr) (n cap A:Nat) (w:World) (hO:Pd.Own w A (.slice ao n cap) rs) (hs:∀ r∈rs,Pd.Short r) (hn:n=rs.length) (hm:n<=1000) :
  Calls Tryz.prog 56 #[.slice ao n cap] w fun e w'=>e=.returned (.tuple #[])/\Pd.Own w' A (.slice ao n cap) (rs.mapIdx (Im.bF rs))/\bI (fun b=>(Value.slice ao n cap).ownBlock=some b) w w':=by
 have I6:=Lh hO;have HS:=Lh hs;have HN:=Lh hn
 have hcl:n<=cap/\cap<=9223372036854775807:=by
  obtain ⟨a,c,e,l,_⟩:=Pd.aX hO hs;simp only [Value.slice.injEq] at e;obtain ⟨rfl,rfl,rfl⟩:=e;exact ⟨l.fits,l.reach⟩
 obtain ⟨hnc,hcm⟩:=hcl;clear hO hs hn;go_enter Tryz.func56,Tryz.ntmps56;go_wp2_with fail
 go_loopw [2,5] (fun _ j wr=>∃ k:Nat,k<=n/\j=.int .i64 k/\Hid (Pd.Own wr A (.slice ao n cap) (Im.mix (Im.bF rs) k rs))/\Hid (bI (fun b=>(Value.slice ao n cap).ownBlock=some b) w wr)) (fun _ j _=>n - (intOf j).toNat)
 case atStart=>exact ⟨0,by omega,rfl,Lh (by rw [Im.rJ];exact I6.out),Lh (bI.refl _ _)⟩
 case round =>
  rename World=>wz
  obtain ⟨k,hk,rfl,HO,HU⟩:=hrel;by_cases hlt:k < n
  ·
   have hkr:k < rs.length:=HN.out▸hlt;have hkm:k < (Im.mix (Im.bF rs) k rs).length:=by rw [Im.dB];exact hkr
   obtain ⟨g,hao⟩:=Im.Lx (by have:=HO.out;unfold Pd.Own at this;rw [Im.dB,<- HN.out] at this;exact this) (by omega);subst hao;have bT:=Lh (Im.Gu HS.out k);obtain ⟨ha,hf,_⟩:=Pd.dH HO.out k hkm;have hat:=Im.qF (f:=Im.bF rs) hkr;have hst:=Im.oN (f:=Im.bF rs) hkr;rw [hat] at ha
   have HL:Hid (Pd.Ls wz (some ⟨g,0,none⟩) n cap (Im.mix (Im.bF rs) k rs)):=Lh (by
    obtain ⟨a,c,e,l,_⟩:=Pd.aX HO.out bT.out;rw [Im.dB,<- HN.out] at e l;simp only [Value.slice.injEq] at e;obtain ⟨rfl,_,rfl⟩:=e;exact l)
   obtain ⟨mO,cap2,hsl,hLt⟩:=HL.out.from (k+1) (by omega)
   have FX:=Lh hLt;obtain ⟨j,hj⟩:∃ j,n - (k+1)=j:=⟨_,rfl⟩;rw [hj] at hsl FX;rw [show ((k+1:Nat):Int)=(k:Int)+1 from by omega] at hsl;obtain ⟨r,hr⟩:∃ r,rs[k]=r:=⟨_,rfl⟩;have HC:Hid (Im.nH r.av r.num ((Im.mix (Im.bF rs) k rs).drop (k+1))=Im.nH r.av r.num (rs.drop (k+1))):=Lh (Im.Gv (by rw [List.map_drop,List.map_drop,Im.Lv (f:=Im.bF rs) (fun r=>(r.bf,r.aY)) k fun _ _=>rfl]));rw [hr] at ha hat hst;have VJ:=Lh hat;have bX:=Lh hst
   have JG:Hid (∀ u,Below wz.heap.size wz u->Calls Tryz.prog 103 #[.slice mO j cap2,.agg #[.string r.av,.int .i64 r.num]] u fun e w'=>e=.returned (.bool (Im.nH r.av r.num (rs.drop (k+1))))/\Below wz.heap.size wz w'):=Lh fun u hu=>by
    have h:=Ea _ r.av r.num mO j cap2 wz u hu (FX.out.below hu);rw [HC.out] at h;exact h
   obtain ⟨q,hq⟩:∃ q,Im.nH r.av r.num (rs.drop (k+1))=q:=⟨_,rfl⟩;have O4:Hid (∀ u,Below wz.heap.size wz u->u.cell? ⟨g,k*12+11,none⟩=some (.bool r.back)/\u.frozen? ⟨g,k*12+11,none⟩=false):=Lh fun u hu=>⟨(ha.below hu).c11,((aD hu).2 _ _ (aH ha.c11)).trans (hf _)⟩
   have oZ:Hid (∀ u,Below wz.heap.size wz u->Pd.Own (u.setCell ⟨g,k*12+11,none⟩ (.bool q)) A (.slice (some ⟨g,0,none⟩) n cap) (Im.mix (Im.bF rs) (k+1) rs)/\bI (fun b=>(Value.slice (some ⟨g,0,none⟩) n cap).ownBlock=some b) w (u.setCell ⟨g,k*12+11,none⟩ (.bool q))):=Lh fun u hu=>by
    refine ⟨?_,(HU.out.ru hu).trans (bI.set (Q:=fun b=>(Value.slice (some ⟨g,0,none⟩) n cap).ownBlock=some b) u rfl _ _)⟩;rw [<- bX.out];refine Pd.jo (Pd.own_below HO.out hu) k 11 hkm (by omega) _ _ ?_;rw [VJ.out];unfold Im.bF;rw [hq];rfl
   rw [hq] at JG;obtain ⟨c0,c1,c2,c3,c4,c5,c6,c7,c8,c9,c10,c11⟩:=ha;clear hLt hat hst hr hq hf hj;have hw1:IntKind.i64.wrap ((k:Int)+1)=(k:Int)+1:=by rw [IntKind.wrap_i64];omega
   go_wp2_with fail;go_region_with (go_at_call 103;refine (JG.out _ (by first | exact Below.refl _ _ | exact (Below.refl _ _).drew)).mono ?_;rintro e u ⟨rfl,hu⟩;have q3:=(O4.out u hu).1;have q4:=(O4.out u hu).2;have Ht:=Lh hu;clear hu)
   all_goals (try go_wp2_with fail)
   all_goals
    go_roundw
    case rel=>exact ⟨k+1,by omega,by go_num,Lh (oZ.out _ Ht.out).1,Lh (oZ.out _ Ht.out).2⟩
    case measure=>simp [intOf];omega
  ·
   obtain rfl:k=n:=by omega
   go_wp2_with fail;go_end0;refine ⟨rfl,?_,HU.out⟩;rw [<- Im.mH (k:=k) (Nat.le_of_eq HN.out.symm)];exact HO.out
def Im.sF (rs:List Pd.T) (i:Nat) (r:Sr.T):Sr.T:=⟨r.name,(Im.jC r.name rs:Int)+1,r.limit,r.shut⟩
theorem Gw (ss:List Sr.T) (rs:List Pd.T) (ao po:Option Addr) (n cap m pc A:Nat) (w:World) (hO:Sr.Own w A (.slice ao n cap) ss) (hs:∀ r∈ss,Sr.Short r) (hn:n=ss.length) (hL:Pd.Ls w po m pc rs) (hm:m<=1000) (hnn:n<=1000) (hp:kQ (fun b=>(Value.slice ao n cap).ownBlock≠some b) po m) :
  Calls Tryz.prog 57 #[.slice ao n cap,.slice po m pc] w fun e w'=>e=.returned (.tuple #[])/\Sr.Own w' A (.slice ao n cap) (ss.mapIdx (Im.sF rs))/\bI (fun b=>(Value.slice ao n cap).ownBlock=some b) w w':=by
 have I6:=Lh hO;have HS:=Lh hs;have HN:=Lh hn;have vX:=Lh hL;have HPp:=Lh hp
 have hcl:n<=cap/\cap<=9223372036854775807:=by
  obtain ⟨a,c,e,l,_⟩:=Sr.aX hO hs;simp only [Value.slice.injEq] at e;obtain ⟨rfl,rfl,rfl⟩:=e;exact ⟨l.fits,l.reach⟩
 obtain ⟨hnc,hcm⟩:=hcl;clear hO hs hn hL hp;go_enter Tryz.func57,Tryz.ntmps57;go_wp2_with fail
 go_loopw [4,7] (fun _ j wr=>∃ k:Nat,k<=n/\j=.int .i64 k/\Hid (Sr.Own wr A (.slice ao n cap) (Im.mix (Im.sF rs) k ss))/\Hid (bI (fun b=>(Value.slice ao n cap).ownBlock=some b) w wr)) (fun _ j _=>n - (intOf j).toNat)
 case atStart=>exact ⟨0,by omega,rfl,Lh (by rw [Im.rJ];exact I6.out),Lh (bI.refl _ _)⟩
 case round =>
  rename World=>wz
  obtain ⟨k,hk,rfl,HO,HU⟩:=hrel;by_cases hlt:k < n
  ·
   have hkr:k < ss.length:=HN.out▸hlt;have hkm:k < (Im.mix (Im.sF rs) k ss).length:=by rw [Im.dB];exact hkr
   obtain ⟨g,hao⟩:=Im.Lx (by have:=HO.out;unfold Sr.Own at this;rw [Im.dB,<- HN.out] at this;exact this) (by omega);subst hao;obtain ⟨ha,hf,_⟩:=Sr.dH HO.out k hkm;have hat:=Im.qF (f:=Im.sF rs) hkr;have hst:=Im.oN (f:=Im.sF rs) hkr;rw [hat] at ha;have HL:Hid (Pd.Ls wz po m pc rs):=Lh (vX.out.kR HPp.out (HU.out.kR fun b hb=>hb));obtain ⟨r,hr⟩:∃ r,ss[k]=r:=⟨_,rfl⟩;rw [hr] at ha hat hst;have VJ:=Lh hat;have bX:=Lh hst;obtain ⟨q,hq⟩:∃ q,Im.jC r.name rs=q:=⟨_,rfl⟩
   have hqk:q<=1000:=by
    have h1:=Im.vP r.name rs;have h2:=vX.out.len;omega
   have O4:Hid (∀ u,Below wz.heap.size wz u->u.cell? ⟨g,k*4+1,none⟩=some (.int .i64 r.next)/\u.frozen? ⟨g,k*4+1,none⟩=false):=Lh fun u hu=>⟨(ha.below hu).c1,((aD hu).2 _ _ (aH ha.c1)).trans (hf _)⟩
   have oZ:Hid (∀ u,Below wz.heap.size wz u->Sr.Own (u.setCell ⟨g,k*4+1,none⟩ (.int .i64 ((q:Int)+1))) A (.slice (some ⟨g,0,none⟩) n cap) (Im.mix (Im.sF rs) (k+1) ss)/\bI (fun b=>(Value.slice (some ⟨g,0,none⟩) n cap).ownBlock=some b) w (u.setCell ⟨g,k*4+1,none⟩ (.int .i64 ((q:Int)+1)))):=Lh fun u hu=>by
    refine ⟨?_,(HU.out.ru hu).trans (bI.set (Q:=fun b=>(Value.slice (some ⟨g,0,none⟩) n cap).ownBlock=some b) u rfl _ _)⟩;rw [<- bX.out];refine Sr.zP (Sr.own_below HO.out hu) k 1 hkm (by omega) _ _ ?_;rw [VJ.out];unfold Im.sF;rw [hq];rfl
   have HQ:=Lh hq;obtain ⟨c0,c1,c2,c3⟩:=ha;clear hat hst hr hq hf;go_wp2_with fail;refine (Cg rs r.name po m pc wz wz (Below.refl _ _) HL.out hm).mono ?_;rintro e u ⟨rfl,hu⟩;rw [HQ.out];have q3:=(O4.out u hu).1;have q4:=(O4.out u hu).2;have Ht:=Lh hu;clear hu c0 c1 c2 c3;go_wp2_with fail;rw [show (1:Int)+(q:Int)=(q:Int)+1 from Int.add_comm _ _];go_roundw
   case rel=>exact ⟨k+1,by omega,by go_num,Lh (oZ.out _ Ht.out).1,Lh (oZ.out _ Ht.out).2⟩
   case measure=>simp [intOf];omega
  ·
   obtain rfl:k=n:=by omega
   go_wp2_with fail;go_end0;refine ⟨rfl,?_,HU.out⟩;rw [<- Im.mH (k:=k) (Nat.le_of_eq HN.out.symm)];exact HO.out
theorem Cj (bp:Int) (w:World) (hb:Fit bp) :
  Calls Tryz.prog 145 #[.int .i64 bp] w fun e w'=>e=.returned (.bool (decide (Sh.Right bp)))/\w'=w:=by
 obtain ⟨hb0,hb1⟩:=hb;go_enter Tryz.func145,Tryz.ntmps145;by_cases h:Sh.Right bp
 ·
  rw [decide_eq_true h];obtain ⟨h0,h1⟩:=h;go_wp2;go_ret;exact ⟨rfl,rfl⟩
 ·
  rw [decide_eq_false h];by_cases h0:0<=bp
  ·
   have h1: ¬ bp<=100000:=fun h1=>h ⟨h0,h1⟩
   clear h;go_wp2;go_ret;exact ⟨rfl,rfl⟩
  ·
   clear h;go_wp2;go_ret;exact ⟨rfl,rfl⟩
def told (s:Nat):Int×Int:=if s<=9223372036854775807 then ((s:Int),0) else (0,7)
theorem R6 (h:s<=9223372036854775807):told s=((s:Int),0):=if_pos h
theorem R7 (h: ¬ s<=9223372036854775807):told s=(0,7):=if_neg h
theorem Ck (u bp all:Nat) (w0 w:World) (hw:Below w0.heap.size w0 w) (hu:u<=9223372036854775808) (hb:bp<=100000) (ha0:10000<=all) (ha1:all<=110000) :
  Calls Tryz.prog 172 #[.int .u64 u,.int .u64 bp,.int .u64 all] w fun e w'=>e=both (told (Sh.sh u bp all)).1 (told (Sh.sh u bp all)).2/\Below w0.heap.size w0 w':=by
 have hs:=Sh.PE u bp all (by omega);have hl:=Sh.Uw (u % all) bp all (Nat.mod_lt _ (by omega));have hq:(u:Int) / (all:Int)=((u / all:Nat):Int):=by omega
 have hr:(u:Int) % (all:Int)=((u % all:Nat):Int):=by omega
 have hr1:u % all < all:=Nat.mod_lt _ (by omega);have hm:(u % all)*bp<=110000*100000:=Nat.mul_le_mul (by omega) hb
 have hq1:u / all<=922337203685477:=by
  rw [Nat.div_le_iff_le_mul_add_pred (by omega)];have:10000*922337203685477<=all*922337203685477:=Nat.mul_le_mul_right _ ha0;omega
 have hz:((all:Int)==0)=false:=beq_eq_false_iff_ne.2 (by omega);have hz2:((2*all:Int)==0)=false:=beq_eq_false_iff_ne.2 (by omega);generalize u / all=q at hs hq hq1;generalize u % all=r at hs hl hr hr1 hm;have hlast:(2*(r:Int)*(bp:Int)+all) / (2*(all:Int))=(((2*r*bp+all) / (2*all):Nat):Int):=by push_cast;rfl
 generalize (2*r*bp+all) / (2*all)=l at hs hl hlast
 have hm2:2*(r:Int)*(bp:Int)<=22000000000:=by
  have h:((r*bp:Nat):Int)=(r:Int)*(bp:Int):=Int.natCast_mul _ _;rw [Int.mul_assoc];omega
 have hm0:0<=2*(r:Int)*(bp:Int):=Int.mul_nonneg (by omega) (by omega);have hp:((q*bp:Nat):Int)=(q:Int)*(bp:Int):=Int.natCast_mul _ _;have HW:=Lh hw;clear hm hw;rw [hs];clear hs;by_cases hf:q*bp+l<=9223372036854775807
 ·
  rw [R6 hf];have hp0:0<=(q:Int)*(bp:Int):=by omega
  have hp1:(q:Int)*(bp:Int)<=9223372036854775807 - l:=by omega
  have HE:Hid ((q:Int)*(bp:Int)+l=((q*bp+l:Nat):Int)):=Lh (by omega)
  have hc:0 < bp-> ¬ (9223372036854775807 - (l:Int)) / (bp:Int) < (q:Int):=by
   intro h0;rw [Int.not_lt,Int.le_ediv_iff_mul_le (by omega)];exact hp1
  clear hf hp;by_cases h0:0 < bp
  ·
   have hc1:=hc h0;clear hc;go_enter Tryz.func172,Tryz.ntmps172;go_wp2;go_quiet (fail);go_wp2;go_ret2;exact ⟨CQ HE.out rfl,below_drewN HW.out _⟩
  ·
   clear hc;go_enter Tryz.func172,Tryz.ntmps172;go_wp2;go_quiet (fail);go_wp2;go_ret2;exact ⟨CQ HE.out rfl,below_drewN HW.out _⟩
 ·
  rw [R7 hf]
  have h0:0 < bp:=by
   refine Nat.pos_of_ne_zero fun h=>?_
   subst h;omega
  have hc:(9223372036854775807 - (l:Int)) / (bp:Int) < (q:Int):=by
   rw [Int.ediv_lt_iff_lt_mul (by omega)];omega
  clear hf hp;go_enter Tryz.func172,Tryz.ntmps172;go_wp2;go_quiet (fail);go_wp2;go_ret2;exact ⟨rfl,below_drewN HW.out _⟩
theorem R8 (u bp all:Nat):told (Sh.sh u bp all)=(Sh.val (u:Int) bp all,Sh.why (u:Int) bp all):=by
 unfold told Sh.val Sh.why Sh.side;rw [Int.natAbs_natCast];split
 · rw [if_neg (by omega)]
 · rfl
theorem R9 (u bp all:Nat) (hu:0 < u):(-(told (Sh.sh u bp all)).1,(told (Sh.sh u bp all)).2)=(Sh.val (-(u:Int)) bp all,Sh.why (-(u:Int)) bp all):=by
 unfold told Sh.val Sh.why Sh.side;rw [Int.natAbs_neg,Int.natAbs_natCast];split
 · rw [if_pos (by omega)]
 · rfl
theorem Sb (s:Nat):0<=(told s).1/\(told s).1<=9223372036854775807:=by
 unfold told;split
 · exact ⟨by simp,by simp;omega⟩
 · exact ⟨by simp,by simp⟩
theorem NR (u:Nat) (h:u<=9223372036854775808):IntKind.u64.wrap (-IntKind.u64.wrap (-(u:Int)))=u:=by
 rw [IntKind.wrap_u64,IntKind.wrap_u64];omega
theorem NS (n:Int) (bp all:Nat) (w0 w:World) (hw:Below w0.heap.size w0 w) (hn:Fit n) (hb:bp<=100000) (ha0:10000<=all) (ha1:all<=110000) :
  Calls Tryz.prog 146 #[.int .i64 n,.int .u64 bp,.int .u64 all] w fun e w'=>e=both (Sh.val n bp all) (Sh.why n bp all)/\Below w0.heap.size w0 w':=by
 have HW:=Lh hw;clear hw;obtain ⟨hn0,hn1⟩:=hn;by_cases h:0<=n
 ·
  obtain ⟨u,rfl⟩:∃ u:Nat,n=u:=⟨n.toNat,by omega⟩;have HT:=Lh (R8 u bp all);go_enter Tryz.func146,Tryz.ntmps146;go_wp2_with fail;refine (Ck u bp all w0 _ HW.out (by omega) hb ha0 ha1).mono ?_;rintro e w1 ⟨rfl,b1⟩;have HB1:=Lh b1;clear b1;rw [HT.out];unfold both;go_wp2_with fail;go_ret2;exact ⟨rfl,HB1.out⟩
 ·
  obtain ⟨u,rfl⟩:∃ u:Nat,n= -(u:Int):=⟨n.natAbs,by omega⟩;have hu:0 < u:=by omega
  have HT:=Lh (R9 u bp all hu);obtain ⟨t0,t1⟩:=Sb (Sh.sh u bp all);go_enter Tryz.func146,Tryz.ntmps146;go_wp2_with fail;rw [NR u (by omega)];refine (Ck u bp all w0 _ HW.out (by omega) hb ha0 ha1).mono ?_;rintro e w1 ⟨rfl,b1⟩;have HB1:=Lh b1;clear b1;obtain ⟨⟨p1,p2⟩,hp⟩:∃ p,told (Sh.sh u bp all)=p:=⟨_,rfl⟩;have HP:=Lh (hp▸HT.out);rw [hp] at t0 t1 ⊢;clear HT hp;unfold both;go_wp2_with fail;go_ret2;exact ⟨CQ (congrArg Prod.fst HP.out) (congrArg Prod.snd HP.out),HB1.out⟩
theorem Sc (h:Sh.Right bp) (n:Int):both (Sh.fK n bp) (Sh.iC n bp)=both (Sh.val n bp.toNat 10000) (Sh.why n bp.toNat 10000)/\both (Sh.inV n bp) (Sh.inE n bp)=both (Sh.val n bp.toNat (10000+bp.toNat)) (Sh.why n bp.toNat (10000+bp.toNat)):=by
 unfold Sh.fK Sh.iC Sh.inV Sh.inE;rw [if_pos h,if_pos h,if_pos h,if_pos h];exact ⟨rfl,rfl⟩
theorem NT (h: ¬ Sh.Right bp) (n:Int):both (Sh.fK n bp) (Sh.iC n bp)=both 0 1/\both (Sh.inV n bp) (Sh.inE n bp)=both 0 1:=by
 unfold Sh.fK Sh.iC Sh.inV Sh.inE;rw [if_neg h,if_neg h,if_neg h,if_neg h];exact ⟨rfl,rfl⟩
theorem yD (n bp:Int) (w0 w:World) (hw:Below w0.heap.size w0 w) (hn:Fit n) (hb:Fit bp) :
  Calls Tryz.prog 104 #[.int .i64 n,.int .i64 bp] w fun e w'=>e=both (Sh.fK n bp) (Sh.iC n bp)/\Below w0.heap.size w0 w':=by
 have HW:=Lh hw;have HN:=Lh hn;have HB:=Lh hb;clear hw hn hb;by_cases h:Sh.Right bp
 ·
  rw [(Sc h n).1];obtain ⟨u,rfl⟩:∃ u:Nat,bp=u:=⟨bp.toNat,by unfold Sh.Right at h;omega⟩;have hu:u<=100000:=by unfold Sh.Right at h;omega
  rw [Int.toNat_natCast];go_enter Tryz.func104,Tryz.ntmps104;go_wp2_with fail;refine (Cj u _ HB.out).mono ?_;rintro e w1 ⟨rfl,hw1⟩;subst hw1;rw [decide_eq_true h];clear h;go_wp2_with fail;refine (NS n u 10000 w0 _ HW.out HN.out hu (by omega) (by omega)).mono ?_;rintro e w1 ⟨rfl,b1⟩;have HB1:=Lh b1;clear b1;unfold both;go_wp2_with fail;go_ret2;exact ⟨rfl,HB1.out⟩
 ·
  rw [(NT h n).1];go_enter Tryz.func104,Tryz.ntmps104;go_wp2_with fail;refine (Cj bp _ HB.out).mono ?_;rintro e w1 ⟨rfl,hw1⟩;subst hw1;rw [decide_eq_false h];clear h;go_wp2_with fail;go_ret2;exact ⟨rfl,HW.out⟩
open Vt (Rt)
variable {rs:List Rt} {ls:List Ln.T}
theorem Y7 (h:Vt.bN rs=false):Iv.fD rs y m d ls=1:=if_pos h
theorem Y8 (h:Vt.bN rs=true) (k:Dt.aA y m d=false):Iv.fD rs y m d ls=9:=by
 unfold Iv.fD;rw [if_neg (by rw [h];simp),if_pos k]
theorem VL (h:Vt.bN rs=true) (k:Dt.aA y m d=true) (l:ls.length=0):Iv.fD rs y m d ls=1:=by
 unfold Iv.fD;rw [if_neg (by rw [h];simp),if_neg (by rw [k];simp),if_pos l]
theorem Y9 (h:Vt.bN rs=true) (k:Dt.aA y m d=true) (l:ls.length≠0) (n:12 < ls.length):Iv.fD rs y m d ls=2:=by
 unfold Iv.fD;rw [if_neg (by rw [h];simp),if_neg (by rw [k];simp),if_neg l,if_pos n]
theorem Za (h:Vt.bN rs=true) (k:Dt.aA y m d=true) (l:ls.length≠0) (n: ¬ 12 < ls.length):Iv.fD rs y m d ls=0:=by
 unfold Iv.fD;rw [if_neg (by rw [h];simp),if_neg (by rw [k];simp),if_neg l,if_neg n]
theorem yE (n bp:Int):Fit (Sh.fK n bp):=by
 have h0:Fit 0:=⟨by omega,by omega⟩;unfold Sh.fK;split
 ·
  unfold Sh.val;split
  ·
   unfold Sh.side;split
   · exact ⟨by omega,by omega⟩
   · exact ⟨by omega,by omega⟩
  · exact h0
 · exact h0
theorem Sd {x:Int} (h:Mn.err x=7): ¬ Mn.Fit x:=by
 intro k;rw [Mn.Ku k] at h;omega
section
variable {rs:List Rt} {y m d:Int} {x:Ln.T}
end
open Go.Sort (grow)
def Sg (p:Int×Bool):Ending:=.returned (.tuple #[.int .i64 p.1,.bool p.2])
theorem last_at (c:ByteArray) (n:Int) (acc:Int×Bool) (rs:List Rt) (k:Nat) (h:k < rs.length):Vt.last c n acc (rs.drop k)=Vt.last c n (if Vt.hit c n rs[k]=true then (rs[k].bp,true) else acc) (rs.drop (k+1)):=by
 rw [List.drop_eq_getElem_cons h];rfl
theorem VN {n:Int} {r:Rt} (h:r.cat=c) (k:Vt.dy r<=n):Vt.hit c n r=true:=by
 unfold Vt.hit;rw [decide_eq_true h,decide_eq_true k];rfl
theorem Si {n:Int} {r:Rt} (h:r.cat≠c\/ ¬ Vt.dy r<=n):Vt.hit c n r=false:=by
 unfold Vt.hit;rcases h with h | h
 · rw [decide_eq_false h];rfl
 · rw [decide_eq_false h,Bool.and_false]
theorem Sj (rs:List Rt) (ao:Option Addr) (n cap:Nat) (c:ByteArray) (y m d:Int) (w0 w:World) (hw:Below w0.heap.size w0 w) (hR:om w ao n cap rs) (hy:Fit y) (hm:Fit m) (hd:Fit d) :
  Calls Tryz.prog 180 #[.slice ao n cap,.string c,nG y m d] w fun e w'=>e=Sg (Vt.find rs c y m d)/\Below w0.heap.size w0 w':=by
 have HW:=Lh hw;have HR:=Lh hR;have HN:=Lh hR.len;have vO:=Lh (And.intro hy (And.intro hm hd));have hcap:=hR.reach;have hfit:=hR.fits;clear hw hR hy hm hd;unfold nG;go_enter Tryz.func180,Tryz.ntmps180;go_wp2_with fail;refine (sj rs ao n cap (w.alloc (.cells #[.int .i64 y,.int .i64 m,.int .i64 d] 50)) _ (Below.refl _ _) (HR.out.below ((Below.refl _ _).alloc (Nat.le_refl _) _))).mono ?_;rintro e w1 ⟨rfl,b1⟩;cases hT:Vt.bN rs
 ·
  have HF:=Lh (Vt.EG (c:=c) (y:=y) (m:=m) (d:=d) (.inl hT));have HB1:=Lh (aj (aL HW.out _) b1);clear b1;go_wp2_with fail;go_ret2;exact ⟨by rw [HF.out];rfl,HB1.out⟩
 ·
  have Hr:=Lh hT;obtain ⟨hc,hf⟩:=aD b1;have HB1:=Lh b1;clear b1;go_wp2_with fail;refine (fJ y m d _ _ HB1.out vO.out.1 vO.out.2.1 vO.out.2.2).mono ?_;rintro e w2 ⟨rfl,b2⟩;clear hc hf;have HB2:=Lh b2;cases hd:Dt.aA y m d
  ·
   have HF:=Lh (Vt.EG (l:=rs) (c:=c) (.inr hd));have HB3:=Lh (aj (aL HW.out _) b2);clear b2;go_wp2_with fail;go_ret2;exact ⟨by rw [HF.out];rfl,HB3.out⟩
  ·
   have HF:=Lh (Vt.Ik (c:=c) Hr.out hd);have HD:=Lh hd;clear b2;go_wp2_with fail
   go_loopw [8,9,11,22] (fun t o _ i wr=>∃ (k:Nat) (x:Int) (f:Bool),k<=n/\i=.int .i64 k/\t=.int .i64 x/\o=.bool f/\Hid (Vt.last c (Dt.days y m d) (x,f) (rs.drop k)=Vt.last c (Dt.days y m d) (0,false) rs)/\Hid (Below (w.alloc (.cells #[.int .i64 y,.int .i64 m,.int .i64 d] 50)).heap.size (w.alloc (.cells #[.int .i64 y,.int .i64 m,.int .i64 d] 50)) wr)) (fun _ _ _ i _=>n - (intOf i).toNat)
   case atStart=>exact ⟨0,0,false,by omega,rfl,rfl,rfl,Lh rfl,HB2⟩
   case round =>
    rename World=>wz
    obtain ⟨k,x,f,hk,rfl,rfl,rfl,HK,HB⟩:=hrel;by_cases hlt:k < n
    ·
     obtain ⟨b,off,rfl⟩:=HR.out.at (by omega);have hkr:k < rs.length:=HN.out▸hlt;obtain ⟨r,hr⟩:∃ r,rs[k]=r:=⟨_,rfl⟩;have hrow:=(HR.out.row k hkr).below (aj ((Below.refl _ _).alloc (Nat.le_refl _) _) HB.out);have bX:=Lh (last_at c (Dt.days y m d) (x,f) rs k hkr);rw [hr] at hrow bX;have hmem:r∈rs:=hr▸List.getElem_mem hkr;have bT:=Lh (HR.out.short r hmem);have sD:=Lh (mD HD.out (Vt.oH.1 (((Vt.gW rs).1 Hr.out).2.1 r hmem)).2.1);clear hr hmem;obtain ⟨g0,g1,g2,g3,g4⟩:=hrow;obtain ⟨W,hW,hbW,hA⟩:=bZ wz r;have dz:=Lh (aj HB.out hbW);have HA:=Lh hA;clear hbW;unfold lV at hA;obtain ⟨a0,a1,a2,a3,a4⟩:=hA;obtain ⟨hc,hf⟩:=aD dz.out;have e0:W.cell? ⟨w.heap.size,0,none⟩=some (.int .i64 y):=by rw [hc _ _ (by simp)];simp
     have e1:W.cell? ⟨w.heap.size,1,none⟩=some (.int .i64 m):=by rw [hc _ _ (by simp)];simp
     have e2:W.cell? ⟨w.heap.size,2,none⟩=some (.int .i64 d):=by rw [hc _ _ (by simp)];simp
     clear hc hf;by_cases vQ:r.cat=c
     ·
      have hq:(r.cat.toList==c.toList)=true:=beq_iff_eq.2 (by rw [vQ]);by_cases hdy:Vt.dy r<=Dt.days y m d
      ·
       have HH:=Lh (VN vQ hdy);have HL:Hid (mq y m d r.y r.m r.d=false):=Lh (by rw [sD.out];exact decide_eq_false (by have h:Dt.days r.y r.m r.d<=Dt.days y m d:=hdy;omega));clear vQ hdy;go_wp2_with fail;refine (lg y m d r.y r.m r.d W _ (Below.refl _ _) vO.out.1 vO.out.2.1 vO.out.2.2 bT.out.2.1 bT.out.2.2.1 bT.out.2.2.2.1).mono ?_;rintro e w3 ⟨rfl,b3⟩;rw [HL.out];have cO:=Lh (aj dz.out b3);have hA:=HA.out.below b3;unfold lV at hA;obtain ⟨d0,d1,d2,d3,d4⟩:=hA;clear b3;go_wp2_with fail;go_roundw
       case rel=>exact ⟨k+1,r.bp,true,by omega,by go_num,rfl,rfl,Lh (by rw [<- HK.out,bX.out,HH.out];rfl),cO⟩
       case measure=>simp [intOf];omega
      ·
       have HH:=Lh (Si (c:=c) (.inr hdy));have HL:Hid (mq y m d r.y r.m r.d=true):=Lh (by rw [sD.out];exact decide_eq_true (by have h: ¬ Dt.days r.y r.m r.d<=Dt.days y m d:=hdy;omega));clear vQ hdy;go_wp2_with fail;refine (lg y m d r.y r.m r.d W _ (Below.refl _ _) vO.out.1 vO.out.2.1 vO.out.2.2 bT.out.2.1 bT.out.2.2.1 bT.out.2.2.2.1).mono ?_;rintro e w3 ⟨rfl,b3⟩;rw [HL.out];have cO:=Lh (aj dz.out b3);clear b3;go_wp2_with fail;go_roundw
       case rel=>exact ⟨k+1,x,f,by omega,by go_num,rfl,rfl,Lh (by rw [<- HK.out,bX.out,HH.out];rfl),cO⟩
       case measure=>simp [intOf];omega
     ·
      have hq:(r.cat.toList==c.toList)=false:=beq_eq_false_iff_ne.2 fun e=>vQ (Vt.gM e)
      have HH:=Lh (Si (n:=Dt.days y m d) (.inl vQ));clear vQ;go_wp2_with fail;go_roundw
      case rel=>exact ⟨k+1,x,f,by omega,by go_num,rfl,rfl,Lh (by rw [<- HK.out,bX.out,HH.out];rfl),dz⟩
      case measure=>simp [intOf];omega
    ·
     obtain rfl:k=n:=by omega
     go_wp2;go_ret2;refine ⟨?_,aj (aL HW.out _) HB.out⟩;rw [HF.out,<- HK.out,List.drop_eq_nil_of_le (Nat.le_of_eq HN.out.symm)];rfl
def Iv.sM (rs:List Rt) (y m d:Int) (x:Ln.T):Int :=
 if 64 < x.text.size then 2 else if Rn.name (txt x.category)=false then 8 else if x.count < 1\/1048576 < x.count then 1 else if (Vt.find rs x.category y m d).2=false then 10 else 0
def Iv.Eb (rs:List Rt) (y m d:Int) (x:Ln.T):Int:=if Iv.sM rs y m d x=0 then (Vt.find rs x.category y m d).1 else 0
theorem Iv.Sk {x:Ln.T}:Iv.qE rs y m d x=if Iv.sM rs y m d x=0 then Mn.err (x.count*x.price) else Iv.sM rs y m d x:=by
 unfold Iv.qE Iv.sM;split
 · rfl
 ·
  split
  · rfl
  ·
   split
   · rfl
   ·
    split
    · rfl
    · rfl
section
variable {rs:List Rt} {y m d:Int} {x:Ln.T}
theorem ask_2 (h:64 < x.text.size):Iv.sM rs y m d x=2:=if_pos h
theorem ask_8 (h: ¬ 64 < x.text.size) (k:Rn.name (txt x.category)=false):Iv.sM rs y m d x=8:=by
 unfold Iv.sM;rw [if_neg h,if_pos k]
theorem XO (h: ¬ 64 < x.text.size) (k:Rn.name (txt x.category)=true) (l:x.count < 1\/1048576 < x.count):Iv.sM rs y m d x=1:=by
 unfold Iv.sM;rw [if_neg h,if_neg (by rw [k];simp),if_pos l]
theorem Zb (h: ¬ 64 < x.text.size) (k:Rn.name (txt x.category)=true) (l: ¬ (x.count < 1\/1048576 < x.count)) (n:(Vt.find rs x.category y m d).2=false):Iv.sM rs y m d x=10:=by
 unfold Iv.sM;rw [if_neg h,if_neg (by rw [k];simp),if_neg l,if_pos n]
theorem ask_0 (h: ¬ 64 < x.text.size) (k:Rn.name (txt x.category)=true) (l: ¬ (x.count < 1\/1048576 < x.count)) (n:(Vt.find rs x.category y m d).2=true):Iv.sM rs y m d x=0:=by
 unfold Iv.sM;rw [if_neg h,if_neg (by rw [k];simp),if_neg l,if_neg (by rw [n];simp)]
end
theorem VO (w:World) (y m d:Int) (x:Ln.T):∃ W,(w.alloc (.cells #[.int .i64 y,.int .i64 m,.int .i64 d] 50)).alloc (.cells #[.string x.text,.string x.category,.int .i64 x.count,.int .i64 x.price] 230)=W /\
  Below w.heap.size w W/\qQ W w.heap.size y m d/\Ln.C W (w.heap.size+1) x:=by
 have b1:Below w.heap.size w (w.alloc (.cells #[.int .i64 y,.int .i64 m,.int .i64 d] 50)):=(Below.refl _ _).alloc (Nat.le_refl _) _;refine ⟨_,rfl,aj b1 (Ln.aC _ x),(EZ w y m d).below (Ln.aC _ x),?_⟩;have h:=Ln.dO (w.alloc (.cells #[.int .i64 y,.int .i64 m,.int .i64 d] 50)) x;rw [show (w.alloc (.cells #[.int .i64 y,.int .i64 m,.int .i64 d] 50)).heap.size=w.heap.size+1 by simp] at h;exact h
theorem VP (rs:List Rt) (ls:List Ln.T) (ao:Option Addr) (n ca k:Nat) (y m d:Int) (w0 w:World) (hw:Below w0.heap.size w0 w) (hR:om w ao n ca rs) (hy:Fit y) (hm:Fit m) (hd:Fit d) (hk:k=ls.length) (hk63:k<=9223372036854775807) :
  Calls Tryz.prog 165 #[.slice ao n ca,nG y m d,.int .i64 (k:Int)] w fun e w'=>e=.returned (.int .i64 (Iv.fD rs y m d ls))/\Below w0.heap.size w0 w':=by
 have HW:=Lh hw;have HR:=Lh hR;have HK:=Lh hk;have vO:=Lh (And.intro hy (And.intro hm hd));clear hw hR hy hm hd hk;unfold nG;go_enter Tryz.func165,Tryz.ntmps165;go_wp2_with fail;refine (sj rs ao n ca (w.alloc (.cells #[.int .i64 y,.int .i64 m,.int .i64 d] 50)) _ (Below.refl _ _) (HR.out.below ((Below.refl _ _).alloc (Nat.le_refl _) _))).mono ?_;rintro e w1 ⟨rfl,b1⟩;cases hT:Vt.bN rs
 ·
  have HF:=Lh (Y7 (y:=y) (m:=m) (d:=d) (ls:=ls) hT);have HB1:=Lh (aj (aL HW.out _) b1);clear b1;go_wp2_with fail;go_ret;exact ⟨eP HF.out.symm,HB1.out⟩
 ·
  have Hr:=Lh hT;obtain ⟨hc,hf⟩:=aD b1;have HB1:=Lh b1;clear b1;go_wp2_with fail;refine (fJ y m d _ _ HB1.out vO.out.1 vO.out.2.1 vO.out.2.2).mono ?_;rintro e w2 ⟨rfl,b2⟩;clear hc hf;have HB2:=Lh (aj (aL HW.out _) b2);clear b2;cases hd:Dt.aA y m d
  ·
   have HF:=Lh (Y8 (ls:=ls) Hr.out hd);go_wp2_with fail;go_ret;exact ⟨eP HF.out.symm,HB2.out⟩
  ·
   have HD:=Lh hd;by_cases h0:k=0
   ·
    have HF:=Lh (VL (ls:=ls) Hr.out HD.out (HK.out▸h0));subst h0;go_wp2_with fail;go_ret;exact ⟨eP HF.out.symm,HB2.out⟩
   ·
    have hk0:((k:Int)==0)=false:=by simp;omega
    by_cases h12:12 < k
    ·
     have HF:=Lh (Y9 (ls:=ls) Hr.out HD.out (HK.out▸h0) (HK.out▸h12));go_wp2_with fail;go_ret;exact ⟨eP HF.out.symm,HB2.out⟩
    ·
     have HF:=Lh (Za (ls:=ls) Hr.out HD.out (HK.out▸h0) (HK.out▸h12));go_wp2_with fail;go_ret;exact ⟨eP HF.out.symm,HB2.out⟩
theorem Sm (rs:List Rt) (x:Ln.T) (ao:Option Addr) (n ca:Nat) (y m d:Int) (w:World) (hR:om w ao n ca rs) (hy:Fit y) (hm:Fit m) (hd:Fit d) (hx:Ln.Short x) :
  Calls Tryz.prog 166 #[.slice ao n ca,nG y m d,Ln.val x] w fun e w'=>e=.returned (.tuple #[.int .i64 (Iv.Eb rs y m d x),.int .i64 (Iv.sM rs y m d x)])/\Below w.heap.size w w':=by
 have vO:=Lh (And.intro hy (And.intro hm hd));have HX:=Lh hx;obtain ⟨W,hW,hbW,hD,hC⟩:=VO w y m d x;have HR:=Lh (hR.below hbW);have HB:=Lh hbW;have HD:=Lh hD;have HC:=Lh hC;unfold Ln.C at hC;unfold qQ at hD;obtain ⟨a0,a1,a2,a3⟩:=hC;obtain ⟨d0,d1,d2⟩:=hD;have hts:=HX.out.1;obtain ⟨hc1,hc2⟩:=HX.out.2.2.1;clear hR hy hm hd hx hbW;unfold nG Ln.val;by_cases h64:64 < x.text.size
 ·
  have HE:=Lh (ask_2 (rs:=rs) (y:=y) (m:=m) (d:=d) h64);go_enter Tryz.func166,Tryz.ntmps166;go_wp2_with fail;go_ret2;exact ⟨by unfold Iv.Eb;rw [HE.out];rfl,HB.out⟩
 ·
  have HL:=Lh h64;go_enter Tryz.func166,Tryz.ntmps166;go_wp2_with fail;refine (vG x.category _ HX.out.2.1).mono ?_;rintro e w1 ⟨rfl,b1⟩;have hD:=HD.out.below b1;have hC:=HC.out.below b1;have HD1:=Lh hD;have iA:=Lh hC;have HR1:=Lh (HR.out.below b1);have HB1:=Lh (aj HB.out b1);clear b1 hW a0 a1 a2 a3 d0 d1 d2 HD HC HR HB h64;unfold Ln.C at hC;unfold qQ at hD;obtain ⟨a0,a1,a2,a3⟩:=hC;obtain ⟨d0,d1,d2⟩:=hD;cases hn:Rn.name (txt x.category)
  ·
   have HE:=Lh (ask_8 (rs:=rs) (y:=y) (m:=m) (d:=d) HL.out hn);go_wp2_with fail;go_ret2;exact ⟨by unfold Iv.Eb;rw [HE.out];rfl,HB1.out⟩
  ·
   have HN:=Lh hn;by_cases h1:x.count < 1
   ·
    have HE:=Lh (XO (rs:=rs) (y:=y) (m:=m) (d:=d) HL.out HN.out (.inl h1));go_wp2_with fail;go_ret2;exact ⟨by unfold Iv.Eb;rw [HE.out];rfl,HB1.out⟩
   ·
    by_cases h2:1048576 < x.count
    ·
     have HE:=Lh (XO (rs:=rs) (y:=y) (m:=m) (d:=d) HL.out HN.out (.inr h2));go_wp2_with fail;go_ret2;exact ⟨by unfold Iv.Eb;rw [HE.out];rfl,HB1.out⟩
    ·
     have HN2:Hid (¬ (x.count < 1\/1048576 < x.count)):=Lh (by omega);go_wp2_with fail;refine (Sj rs ao n ca x.category y m d _ _ (Below.refl _ _) HR1.out vO.out.1 vO.out.2.1 vO.out.2.2).mono ?_;rintro e w2 ⟨rfl,b2⟩;have HB2:=Lh (aj HB1.out b2);unfold Sg;obtain ⟨v,f,hvf⟩:∃ v f,Vt.find rs x.category y m d=(v,f):=⟨_,_,rfl⟩;rw [hvf];have HV:Hid ((Vt.find rs x.category y m d).1=v):=Lh (by rw [hvf]);cases f
     ·
      have HE:=Lh (Zb (rs:=rs) (y:=y) (m:=m) (d:=d) HL.out HN.out HN2.out (by rw [hvf]));clear hvf b2;go_wp2_with fail;go_ret2;exact ⟨by unfold Iv.Eb;rw [HE.out];rfl,HB2.out⟩
     ·
      have HE:=Lh (ask_0 (rs:=rs) (y:=y) (m:=m) (d:=d) HL.out HN.out HN2.out (by rw [hvf]));clear hvf b2;go_wp2_with fail;go_ret2;exact ⟨by unfold Iv.Eb;rw [HE.out,HV.out];rfl,HB2.out⟩
theorem NU (ps:List Pt.T) (c:ByteArray) (ao:Option Addr) (n cap:Nat) (w:World) (hP:Pt.Ls w ao n cap ps) :
  Calls Tryz.prog 182 #[.slice ao n cap,.string c] w fun e w'=>e=.returned (.int .i64 (Iv.spot c ps:Nat))/\w'=w:=by
 have HP:=Lh hP;have HN:=Lh hP.len;have hcap:=hP.reach;have hfit:=hP.fits;clear hP;go_enter Tryz.func182,Tryz.ntmps182;go_wp2_with fail
 go_loopw [5] (fun i wr=>∃ k:Nat,k<=n/\i=.int .i64 k/\Hid (k+Iv.spot c (ps.drop k)=Iv.spot c ps)/\wr=w) (fun i _=>n - (intOf i).toNat)
 case atStart=>exact ⟨0,by omega,rfl,Lh (Nat.zero_add _),rfl⟩
 case round =>
  obtain ⟨k,hk,rfl,HK,rfl⟩:=hrel;by_cases hlt:k < n
  ·
   obtain ⟨b,off,rfl⟩:=HP.out.at (by omega);have hkp:k < ps.length:=HN.out▸hlt;obtain ⟨q,hq⟩:∃ q,ps[k]=q:=⟨_,rfl⟩;have hrow:=HP.out.row k hkp;have bX:=Lh (Iv.mU c ps k hkp);rw [hq] at hrow bX;obtain ⟨g0,g1,g2,g3⟩:=hrow;clear hq;unfold Iv.lt at bX;cases hqr:Op.bytesLess q.cat.toList c.toList
   ·
    rw [hqr,if_neg (by simp)] at bX;have oW:Hid (Iv.spot c ps=k):=Lh (by rw [<- HK.out,bX.out];rfl);go_wp2_with fail;go_ret;exact ⟨by rw [oW.out];rfl,rfl⟩
   ·
    rw [hqr,if_pos rfl] at bX;go_wp2_with fail;go_roundw
    case rel=>exact ⟨k+1,by omega,by go_num,Lh (by rw [<- HK.out,bX.out];omega),trivial⟩
    case measure=>simp [intOf];omega
  ·
   obtain rfl:k=n:=by omega
   have oW:Hid (Iv.spot c ps=k):=Lh (by rw [<- HK.out,List.drop_eq_nil_of_le (Nat.le_of_eq HN.out.symm)];rfl);go_wp2_with fail;go_ret;exact ⟨by rw [oW.out];rfl,rfl⟩
structure PSt (w wr:World) (g:Nat) (y m d:Int):Prop where
 gw:w.heap.size=g
 dx:Below w.heap.size w wr
 day:qQ wr g y m d
 res:Tt.At wr (g+1) 0 0 0 (.slice none 0 0)
section
variable {w wr v:World} {g g2:Nat} {y m d N T:Int} {vo:Option Addr} {q vc:Nat} {ps:List Pt.T}
theorem PSt.below (h:PSt w wr g y m d) (b:Below wr.heap.size wr v):PSt w v g y m d:=⟨h.gw,aj h.dx b,h.day.below b,h.res.below b⟩
end
theorem Gx (hs:∀ r∈rs,Short r) (c:ByteArray) (y m d:Int):Fit (Vt.find rs c y m d).1:=by
 have h0:Fit 0:=⟨by omega,by omega⟩
 have hl:∀ (l:List Rt) (acc:Int×Bool),Fit acc.1->(∀ r∈l,Short r)->Fit (Vt.last c (Dt.days y m d) acc l).1:=by
  intro l
  induction l with
  | nil=>intro acc h _;exact h
  | cons r l ih =>
   intro acc h hr;unfold Vt.last;apply ih
   ·
    split
    · exact (hr r (by simp)).2.2.2.2
    · exact h
   · exact fun x hx=>hr x (by simp [hx])
 unfold Vt.find;split
 · exact hl rs (0,false) h0 hs
 · exact h0
theorem kI (hc:c.size<=140737488355328) (hb:Fit bp) {ps:List Pt.T} (hs:∀ r∈ps,Pt.Short r):Pt.Short (Iv.part c bp ps):=by
 have hn:Pt.Short ⟨c,bp,0,0⟩:=⟨hc,hb,⟨by show (-9223372036854775808:Int)<=0;omega,by show (0:Int)<=_;omega⟩,⟨by show (-9223372036854775808:Int)<=0;omega,by show (0:Int)<=_;omega⟩⟩
 induction ps with
 | nil=>exact hn
 | cons a l ih =>
  unfold Iv.part;split
  · exact ih fun x hx=>hs x (by simp [hx])
  ·
   split
   · exact hs a (by simp)
   · exact hn
theorem sG (hc:c.size<=140737488355328) (hb:Fit bp) {ps:List Pt.T} (hs:∀ r∈ps,Pt.Short r):∀ r∈Iv.ins c bp ps,Pt.Short r:=by
 have hn:Pt.Short ⟨c,bp,0,0⟩:=⟨hc,hb,⟨by show (-9223372036854775808:Int)<=0;omega,by show (0:Int)<=_;omega⟩,⟨by show (-9223372036854775808:Int)<=0;omega,by show (0:Int)<=_;omega⟩⟩
 induction ps with
 | nil =>
  intro r hr;obtain rfl:=List.mem_singleton.1 hr;exact hn
 | cons a l ih =>
  intro r hr;unfold Iv.ins at hr;split at hr
  ·
   rcases List.mem_cons.1 hr with rfl | hr
   · exact hs _ (by simp)
   · exact ih (fun x hx=>hs x (by simp [hx])) r hr
  ·
   split at hr
   · exact hs r hr
   ·
    rcases List.mem_cons.1 hr with rfl | hr
    · exact hn
    · exact hs r hr
def LA (w:World) (g c:Nat) (x:Ln.T) (bp:Int) (ps:List Pt.T) (e:Ending) (w':World):Prop :=
 Below g w w'/\((Mn.err (x.count*x.price)=0/\Iv.gZ x.category bp (x.count*x.price) ps=0/\∃ Z,e=.returned (.tuple #[.slice (some ⟨g,0,none⟩) (Iv.enter x.category bp (x.count*x.price) ps).length c,.int .i64 0])/\Pt.Block w' g (Iv.enter x.category bp (x.count*x.price) ps++Z)/\c=(Iv.enter x.category bp (x.count*x.price) ps++Z).length) \/
  ((Mn.err (x.count*x.price)≠0\/Iv.gZ x.category bp (x.count*x.price) ps≠0)/\∃ v,e=.returned (.tuple #[v,.int .i64 7])))
theorem yF {ps Z:List Pt.T} (hs:Iv.spot c ps=s):∃ h:s < (Iv.ins c bp ps++Z).length,(Iv.ins c bp ps++Z)[s]=Iv.part c bp ps:=by
 have h1:=Iv.yR (c:=c) (bp:=bp) ps;have h2:=Iv.tT (c:=c) (bp:=bp) ps;rw [hs] at h1 h2;refine ⟨by rw [List.length_append];omega,?_⟩;rw [List.getElem_append_left h1];exact Option.some.inj ((List.getElem?_eq_getElem h1).symm.trans h2)
theorem aW {B g:Nat} {w0:World} (h:Below B w0 w) (hg:B<=g) (o:Nat) (x:Value):Below B w0 (w.setCell ⟨g,o,none⟩ x):=h.setCell hg x
theorem Af {u:World} {g c:Nat} {x:Ln.T} {nn:Int} {ps Z:List Pt.T} (hnn:x.count*x.price=nn) (hm:Mn.err nn=0) (hs:Iv.spot x.category ps=s) (hb:Below g w u) (hB:Pt.Block u g (Iv.ins x.category bp ps++Z)) (hc:c=(Iv.ins x.category bp ps++Z).length) (hn:n=(Iv.ins x.category bp ps).length) :
  (Mn.err ((Iv.part x.category bp ps).net+nn)=0->LA w g c x bp ps (.returned (.tuple #[.slice (some ⟨g,0,none⟩) n c,.int .i64 0])) (u.setCell ⟨g,s*4+2,none⟩ (.int .i64 ((Iv.part x.category bp ps).net+nn)))) /\
  (Mn.err ((Iv.part x.category bp ps).net+nn)=7->LA w g c x bp ps (.returned (.tuple #[.slice (some ⟨g,0,none⟩) n c,.int .i64 7])) (u.setCell ⟨g,s*4+2,none⟩ (.int .i64 0))):=by
 subst hnn;obtain ⟨hlt,hat⟩:=yF (c:=x.category) (bp:=bp) (Z:=Z) hs;have hil:=Iv.yR (c:=x.category) (bp:=bp) ps;rw [hs] at hil
 have hlen:(Iv.enter x.category bp (x.count*x.price) ps).length=n:=by
  unfold Iv.enter;rw [List.length_set,hn]
 have hen:(Iv.ins x.category bp ps++Z).set s (Iv.more (Iv.part x.category bp ps) (x.count*x.price))=Iv.enter x.category bp (x.count*x.price) ps++Z:=by
  unfold Iv.enter;rw [hs,List.set_append_left _ _ hil]
 refine ⟨fun h=>⟨aW hb (Nat.le_refl _) _ _,.inl ⟨hm,h,Z,by rw [hlen],?_,by rw [List.length_append,hlen,hc,List.length_append,hn]⟩⟩,fun h=>⟨aW hb (Nat.le_refl _) _ _,.inr ⟨.inr ?_,_,rfl⟩⟩⟩
 ·
  rw [<- hen];exact hB.put s 2 hlt (by omega) _ _ (by rw [hat];rfl)
 ·
  show Mn.err _≠0;rw [h];omega
theorem Sq (ps Z:List Pt.T) (z:Pt.T) (x:Ln.T) (bp:Int) (g n c:Nat) (w:World) (hB:Pt.Block w g (ps++z::Z)) (hn:n=ps.length) (hc:c=(ps++z::Z).length) (hc1:c<=1000) (hx:Ln.Short x) (hb:Fit bp) (hs:∀ r∈ps,Pt.Short r) :
  Calls Tryz.prog 167 #[.slice (some ⟨g,0,none⟩) n c,Ln.val x,.int .i64 bp] w (LA w g c x bp ps):=by
 obtain ⟨W,hW,hbW,hC⟩:=Ln.bZ w x;have HG:=Lh hB.lt;have HB:=Lh (hB.below hbW);have HL:=Lh (HB.out.ls n c hn (by rw [hc,List.length_append];omega) (by omega) hs);have VQ:Hid (Below g w W):=Lh (hbW.mono (Nat.le_of_lt hB.lt));have HC:=Lh hC;have HX:=Lh hx;have HS:=Lh hs;have HN:=Lh hn;have Zc:=Lh hc;have HBp:=Lh hb;have hnc:n+1<=c:=by rw [hc,List.length_append,List.length_cons];omega
 unfold Ln.C at hC;obtain ⟨a0,a1,a2,a3⟩:=hC;have HsW:Hid (W.heap.size=w.heap.size+1):=Lh (by rw [<- hW];simp);obtain ⟨nn,hnn⟩:∃ nn,x.count*x.price=nn:=⟨_,rfl⟩;have HNN:=Lh hnn;clear hB hbW hx hs hn hc hb;unfold Ln.val;go_enter Tryz.func167,Tryz.ntmps167;go_wp2_with fail;refine (Vs x.count x.price _ HX.out.2.2.1 HX.out.2.2.2).mono ?_;rintro e w1 ⟨rfl,hw1⟩;subst hw1;unfold both;rw [hnn];rcases Mn.jl nn with e1 | e1
 ·
  rw [e1,Mn.jk (Iv.kT e1)];have BZ:=Lh e1;have HF:=Lh (Iv.kT e1);clear e1 hnn;go_wp2_with fail;refine (NU ps x.category _ n c _ HL.out).mono ?_;rintro e w1 ⟨rfl,hw1⟩;subst hw1;obtain ⟨s,hsp⟩:∃ s,Iv.spot x.category ps=s:=⟨_,rfl⟩;have hsn:s<=n:=by rw [HN.out,<- hsp];exact Iv.oI _ _
  have oW:=Lh hsp;rw [hsp];have l0:=cell_regrown a0;have l1:=cell_regrown a1;have l2:=cell_regrown a2;have l3:=cell_regrown a3;have HPS:Hid (Pt.Short (Iv.part x.category bp ps)):=Lh (kI HX.out.2.1 HBp.out HS.out);clear hW hsp;by_cases hlt:s < n
  ·
   have hsl:s < ps.length:=HN.out▸hlt;have hrow:=HB.out.row s (by rw [List.length_append];omega);rw [List.getElem_append_left hsl] at hrow;obtain ⟨q,hq⟩:∃ q,ps[s]=q:=⟨_,rfl⟩;rw [hq] at hrow;have HQ:=Lh hq;obtain ⟨g0,g1,g2,g3⟩:=hrow;have k0:=cell_regrown g0;have k1:=cell_regrown g1;have k2:=cell_regrown g2;have k3:=cell_regrown g3;have hne1:((s:Int)==(n:Int))=false:=by simp;omega
   clear hq;by_cases vQ:q.cat=x.category
   ·
    have HH:Hid (Iv.has x.category ps=true):=Lh (by rw [Iv.l7,oW.out,List.getElem?_eq_getElem hsl,HQ.out];exact decide_eq_true vQ);have hqe:(q.cat.toList==x.category.toList)=true:=beq_iff_eq.2 (by rw [vQ]);have HI:Hid (Iv.ins x.category bp ps=ps):=Lh (Iv.rT HH.out);clear vQ;go_wp2;refine wp_region_quiet_below (by kernel_rfl) (by kernel_rfl) ?_
    repeat (first | go_big_quiet_step (fail) | quiet_step (fail))
    refine wpQuiet_nil ?_;intro _ hw';obtain ⟨⟨dq,osq⟩,hw''⟩:=hw';subst hw'';have oo:=Lh (VQ.out.trans ((below_regrown w1 dq osq).mono (by have:=HG.out;have:=HsW.out;omega)));have gV:=Lh (HB.out.below (below_regrown w1 dq osq));clear l0 l1 l2 l3 a0 a1 a2 a3 k0 k1 k2 k3 g0 g1 g2 g3 hqe;generalize grow (redrawn w1 dq) osq=u at *;obtain ⟨hlt2,Gy⟩:=yF (c:=x.category) (bp:=bp) (Z:=z::Z) oW.out;have AZ:=Lh (Af (n:=n) (c:=c) HNN.out BZ.out oW.out oo.out (by rw [HI.out];exact gV.out) (by rw [HI.out];exact Zc.out) (by rw [HI.out];exact HN.out));have hrow:=gV.out.row s (by rw [List.length_append];omega)
    have hpp : (ps ++ z :: Z)[s]'(by rw [List.length_append]; omega) = Iv.part x.category bp ps := by
     have h2:=Gy;simp only [HI.out] at h2;exact h2
    rw [hpp] at hrow;have hfz:=gV.out.frozen (s*4+2);obtain ⟨p,hp⟩:∃ p,Iv.part x.category bp ps=p:=⟨_,rfl⟩;rw [hp] at hrow AZ HPS;obtain ⟨g0,g1,g2,g3⟩:=hrow;clear hp hpp Gy hlt2;go_wp2_with fail;refine (pq p.net nn _ HPS.out.2.2.1 HF.out).mono ?_;rintro e w2 ⟨rfl,hw2⟩;subst hw2;unfold both;rcases Mn.jl (p.net+nn) with e2 | e2
    ·
     rw [e2,Mn.jk (Iv.kT e2)];have HR:=Lh (AZ.out.1 e2);clear e2;go_wp2_with fail;go_ret2;exact HR.out
    ·
     rw [e2,Mn.xZ (Sd e2)];have HR:=Lh (AZ.out.2 e2);clear e2;go_wp2_with fail;go_ret2;exact HR.out
   ·
    have HH:Hid (Iv.has x.category ps=false):=Lh (by rw [Iv.l7,oW.out,List.getElem?_eq_getElem hsl,HQ.out];exact decide_eq_false vQ);have hqe:(q.cat.toList==x.category.toList)=false:=beq_eq_false_iff_ne.2 fun e=>vQ (Vt.gM e)
    clear vQ;have HI:Hid (Iv.ins x.category bp ps=ps.take s++⟨x.category,bp,0,0⟩::ps.drop s):=Lh (by rw [Iv.uY HH.out,oW.out]);go_wp2;refine wp_region_quiet_below (by kernel_rfl) (by kernel_rfl) ?_
    repeat (first | go_big_quiet_step (fail) | quiet_step (fail))
    refine wpQuiet_nil ?_;intro _ hw';obtain ⟨⟨dq,osq⟩,hw''⟩:=hw';subst hw'';have oo:=Lh (VQ.out.trans ((below_regrown w1 dq osq).mono (by have:=HG.out;have:=HsW.out;omega)));have gV:=Lh (HB.out.below (below_regrown w1 dq osq));have hC:=HC.out.below (below_regrown w1 dq osq);unfold Ln.C at hC;clear l0 l1 l2 l3 a0 a1 a2 a3 k0 k1 k2 k3 g0 g1 g2 g3 hqe;obtain ⟨a0,a1,a2,a3⟩:=hC;generalize grow (redrawn w1 dq) osq=u at *;go_wp2_with fail;have hbu:Below u.heap.size u (u.alloc (Pt.block ⟨x.category,bp,0,0⟩)):=(Below.refl _ _).alloc (Nat.le_refl _) _;refine (Pt.Jt _ g c u.heap.size n s ps Z z ⟨x.category,bp,0,0⟩ (gV.out.below hbu) HN.out Zc.out hc1 (heap_alloc_new u _) (Nat.ne_of_gt gV.out.lt) hlt).mono ?_;rintro e w2 ⟨rfl,hB2,hb2⟩;have QK:=Lh (hb2 g w (oo.out.trans (hbu.mono (Nat.le_of_lt gV.out.lt))) (Nat.le_refl _));have oh:Hid (Pt.Block w2 g (Iv.ins x.category bp ps++Z)):=Lh (by rw [HI.out];exact hB2);clear hB2 hb2 hbu a0 a1 a2 a3;obtain ⟨hlt2,Gy⟩:=yF (c:=x.category) (bp:=bp) (Z:=Z) oW.out
    have hlen:(Iv.ins x.category bp ps).length=n+1:=by
     rw [HI.out,List.length_append,List.length_cons,List.length_take,List.length_drop,<- HN.out];omega
    have AZ:=Lh (Af (n:=n+1) (c:=c) HNN.out BZ.out oW.out QK.out oh.out (by have:=Zc.out;rw [List.length_append,List.length_cons,<- HN.out] at this;rw [List.length_append,hlen];omega) hlen.symm);have hrow:=oh.out.row s hlt2;rw [Gy] at hrow;have hfz:=oh.out.frozen (s*4+2);obtain ⟨p,hp⟩:∃ p,Iv.part x.category bp ps=p:=⟨_,rfl⟩;rw [hp] at hrow AZ HPS;obtain ⟨g0,g1,g2,g3⟩:=hrow;clear hp Gy hlt2 hlen;go_wp2_with fail;refine (pq p.net nn _ HPS.out.2.2.1 HF.out).mono ?_;rintro e w3 ⟨rfl,hw3⟩;subst hw3;unfold both;rcases Mn.jl (p.net+nn) with e2 | e2
    ·
     rw [e2,Mn.jk (Iv.kT e2)];have HR:=Lh (AZ.out.1 e2);clear e2;go_wp2_with fail;go_ret2;exact HR.out
    ·
     rw [e2,Mn.xZ (Sd e2)];have HR:=Lh (AZ.out.2 e2);clear e2;go_wp2_with fail;go_ret2;exact HR.out
  ·
   obtain rfl:n=s:=by omega
   have HH:Hid (Iv.has x.category ps=false):=Lh (by rw [Iv.l7,oW.out,List.getElem?_eq_none (by rw [<- HN.out];omega)]);have HI:Hid (Iv.ins x.category bp ps=ps.take n++⟨x.category,bp,0,0⟩::ps.drop n):=Lh (by rw [Iv.uY HH.out,oW.out]);go_wp2;refine wp_region_quiet_below (by kernel_rfl) (by kernel_rfl) ?_
   repeat (first | go_big_quiet_step (fail) | quiet_step (fail))
   refine wpQuiet_nil ?_;intro _ hw';obtain ⟨⟨dq,osq⟩,hw''⟩:=hw';subst hw'';have oo:=Lh (VQ.out.trans ((below_regrown w1 dq osq).mono (by have:=HG.out;have:=HsW.out;omega)));have gV:=Lh (HB.out.below (below_regrown w1 dq osq));have hC:=HC.out.below (below_regrown w1 dq osq);unfold Ln.C at hC;clear l0 l1 l2 l3 a0 a1 a2 a3;obtain ⟨a0,a1,a2,a3⟩:=hC;generalize grow (redrawn w1 dq) osq=u at *;go_wp2_with fail;have hbu:Below u.heap.size u (u.alloc (Pt.block ⟨x.category,bp,0,0⟩)):=(Below.refl _ _).alloc (Nat.le_refl _) _;refine (Pt.Js _ g c u.heap.size n ps Z z ⟨x.category,bp,0,0⟩ (gV.out.below hbu) HN.out Zc.out hc1 (heap_alloc_new u _)).mono ?_;rintro e w2 ⟨rfl,hB2,hb2⟩;have QK:=Lh (hb2 g w (oo.out.trans (hbu.mono (Nat.le_of_lt gV.out.lt))) (Nat.le_refl _));have oh:Hid (Pt.Block w2 g (Iv.ins x.category bp ps++Z)):=Lh (by rw [HI.out,HN.out,List.take_length,List.drop_length];exact hB2);clear hB2 hb2 hbu a0 a1 a2 a3;obtain ⟨hlt2,Gy⟩:=yF (c:=x.category) (bp:=bp) (Z:=Z) oW.out
   have hlen:(Iv.ins x.category bp ps).length=n+1:=by
    rw [HI.out,List.length_append,List.length_cons,List.length_take,List.length_drop,<- HN.out];omega
   have AZ:=Lh (Af (n:=n+1) (c:=c) HNN.out BZ.out oW.out QK.out oh.out (by have:=Zc.out;rw [List.length_append,List.length_cons,<- HN.out] at this;rw [List.length_append,hlen];omega) hlen.symm);have hrow:=oh.out.row n hlt2;rw [Gy] at hrow;have hfz:=oh.out.frozen (n*4+2);obtain ⟨p,hp⟩:∃ p,Iv.part x.category bp ps=p:=⟨_,rfl⟩;rw [hp] at hrow AZ HPS;obtain ⟨g0,g1,g2,g3⟩:=hrow;clear hp Gy hlt2 hlen;go_wp2_with fail;refine (pq p.net nn _ HPS.out.2.2.1 HF.out).mono ?_;rintro e w3 ⟨rfl,hw3⟩;subst hw3;unfold both;rcases Mn.jl (p.net+nn) with e2 | e2
   ·
    rw [e2,Mn.jk (Iv.kT e2)];have HR:=Lh (AZ.out.1 e2);clear e2;go_wp2_with fail;go_ret2;exact HR.out
   ·
    rw [e2,Mn.xZ (Sd e2)];have HR:=Lh (AZ.out.2 e2);clear e2;go_wp2_with fail;go_ret2;exact HR.out
 ·
  have HR:Hid (LA w g c x bp ps (.returned (.tuple #[.slice none 0 0,.int .i64 7])) w1):=Lh ⟨VQ.out,.inr ⟨.inl (by rw [HNN.out,e1];omega),_,rfl⟩⟩;rw [e1];clear e1 hnn;go_wp2_with fail;go_ret2;exact HR.out
end Go.Proofs.YtpfdnemaaeolcaaGreat
