import Derived.Laws.CopyOwn
import Derived.Laws.MakeOwn
import Derived.Laws.RangeAny
import Derived.Test.YtpfdnemaaeolcaaGreatZIb1
import Derived.Test.YtpfdnemaaeolcaaGreatZIb2
import Derived.Test.YtpfdnemaaeolcaaGreatZIb3
import Derived.Test.YtpfdnemaaeolcaaGreatZIb4
import Derived.Test.YtpfdnemaaeolcaaGreatZIb5
import Derived.Test.YtpfdnemaaeolcaaGreatZIb6
variable {w u v:Go.World} {g B n cap A p e k:Nat} {P:Nat->Prop} {xs:List Go.Value} {ao:Option Go.Addr}
set_option maxHeartbeats 8000000
set_option maxRecDepth 100000
set_option linter.unusedVariables false
namespace Go.Proofs.YtpfdnemaaeolcaaGreat
open Go.RowKit
open Mem Pk Cm
theorem Im.kF {α :Type} (f:St-> α ×St):∀ (k:Nat) (s:St),(Im.bC f (k+1) s).1=(Im.bC f k s).1++[(f (Im.bC f k s).2).1]/\(Im.bC f (k+1) s).2=(f (Im.bC f k s).2).2
 | 0,s=>⟨rfl,rfl⟩
 | k+1,s=>by
  obtain ⟨h1,h2⟩:=Im.kF f k (f s).2;rw [Im.bC,h1,h2,Im.bC];exact ⟨rfl,rfl⟩
theorem rA {v:Value} (h:w.ownsRow B e k v n xs) (q:gF w p u) (hp:p < B):u.ownsRow B e k v n xs:=by
 obtain ⟨h1,h2⟩:=h;refine ⟨h1,?_⟩;rcases h2 with h2 | ⟨g,cap,cur,h',hb,hg,h3⟩
 · exact .inl h2
 · exact .inr ⟨g,cap,cur,h',hb,(q.block g (Array.getElem?_eq_some_iff.1 hg).1 (by omega)).trans hg,h3⟩
theorem kG {v:Value} (h:w.ownsRow B e k v n xs):∃ ao cap,v=.slice ao n cap:=by
 rcases h.2 with ⟨h',h2⟩ | ⟨g',cap',cur,h',_⟩
 · exact ⟨none,0,by rw [h',h2]⟩
 · exact ⟨_,_,h'⟩
theorem gF.grown {w u v:World} {p:Nat} {row:Option Nat} (h:gF w p u) (gr:u.grownBy v row) (hr:∀ k,row=some k->w.heap.size<=k/\k < u.heap.size):gF w p v:=by
 refine ⟨Nat.le_trans h.size gr.size,fun b o hb hp=>?_,fun b o hb=>?_,fun w0 a c=>?_,fun b hb hp=>?_⟩
 · rw [World.cell?_of_block (gr.block b (Nat.lt_of_lt_of_le hb h.size) (fun e=>by have:=(hr b e.symm).1;omega)),h.cell b o hb hp]
 · rw [World.frozen?_of_block (gr.block b (Nat.lt_of_lt_of_le hb h.size) (fun e=>by have:=(hr b e.symm).1;omega)),h.frozen b o hb]
 ·
  have hb:=h.below w0 a c;exact hb.grown gr hb.size (fun k e=>by have:=(hr k e).1;have:=a.size;omega)
 · rw [gr.block b (Nat.lt_of_lt_of_le hb h.size) (fun e=>by have:=(hr b e.symm).1;omega),h.block b hb hp]
theorem Rd.grown {bs:List UInt8} {s:St} {row:Option Nat} (h:Rd u p ao n cap bs s) (gr:u.grownBy v row) (k:∀ q,row=some q->Off p q n ao):Rd v p ao n cap bs s:=by
 have hl:=aH h.c0;have hb:v.heap[p]? =u.heap[p]? :=gr.block p hl (fun e=>(k p e.symm).ne rfl);refine ⟨(World.cell?_of_block hb).trans h.c0,(World.cell?_of_block hb).trans h.c1,(World.cell?_of_block hb).trans h.c2,fun o=>(World.frozen?_of_block hb).trans (h.fz o),?_,h.apart,h.place⟩;refine ⟨h.ls.len,h.ls.fits,h.ls.reach,h.ls.nil,?_⟩;rcases h.ls.seg with e | ⟨b,off,e,hc⟩
 · exact .inl e
 ·
  refine .inr ⟨b,off,e,fun i hi=>?_⟩;have h0:=hc i hi;have hn:0 < n:=by rw [h.ls.len];omega
  exact (World.cell?_of_block (gr.block b (aH h0) (fun z=>(k b z.symm).bytes hn b off e rfl))).trans h0
structure Ri (w u:World) (p:Nat) (ao:Option Addr) (n cap:Nat) (bs:List UInt8) (s:St):Prop where
 rd:Rd u p ao n cap bs s
 upd:gF w p u
 off:∀ q,w.heap.size<=q->Off p q n ao
 lt:p < w.heap.size
section
variable {w u v:World} {p n cap:Nat} {ao:Option Addr} {bs:List UInt8} {s s':St}
theorem Ri.start (h:Rd w p ao n cap bs s):Ri w w p ao n cap bs s:=⟨h,gF.refl w p,fun q hq=>h.off hq,aH h.c0⟩
theorem Ri.call (h:Ri w u p ao n cap bs s) (r:Rd v p ao n cap bs s') (k:gF u p v):Ri w v p ao n cap bs s':=⟨r,h.upd.trans k,h.off,h.lt⟩
theorem Ri.app (h:Ri w u p ao n cap bs s) {row:Option Nat} (o:Obj) (gr:(u.alloc o).grownBy v row) (hr:∀ k,row=some k->w.heap.size<=k/\k < u.heap.size):Ri w v p ao n cap bs s:=by
 have hb:Below u.heap.size u (u.alloc o):=(Below.refl _ _).alloc (Nat.le_refl _) o;have hU:gF w p (u.alloc o):=h.upd.trans (gF.of p hb);exact ⟨(h.rd.below hb).grown gr fun q e=>h.off q (hr q e).1,hU.grown gr fun k e=>⟨(hr k e).1,Nat.lt_of_lt_of_le (hr k e).2 hb.size⟩,h.off,h.lt⟩
end
theorem Im.jA (bs:List UInt8) (most:Int) (s:St):(aR bs most s).1<=most\/(aR bs most s).1=0:=by
 unfold aR;split
 · exact .inr rfl
 ·
  unfold bS;split
  · exact .inr rfl
  ·
   split
   · exact .inr rfl
   ·
    rename_i h;exact .inl (by omega)
theorem FI (p:Nat) (ao:Option Addr) (n cap:Nat) (bs:List UInt8) (most:Int) (s:St) (w:World) (hR:Rd w p ao n cap bs s) (hm:most<=1000) :
  Calls Tryz.prog 48 #[.pointer (some ⟨p,0,none⟩),.int .i64 most,.func (.func 49) #[] #[]] w fun e w'=>∃ v,e=.returned v/\Sr.Own w' w.heap.size v (Im.dn bs most (Im.lF bs) s).1/\Rd w' p ao n cap bs (Im.dn bs most (Im.lF bs) s).2/\gF w p w':=by
 have HI0:=Lh (Ri.start hR);have HM:=Lh hm;clear hR hm;go_enter Tryz.func48,Tryz.ntmps48;go_wp2_with fail;refine (nK p ao n cap bs most s w HI0.out.rd).mono ?_;rintro e w1 ⟨rfl,r1,k1⟩;have HP:=Lh (iE bs most s);have AY:Hid ((aR bs most s).1<=1000):=Lh (by have h:=Im.jA bs most s;have h2:=HM.out;rcases h with h | h <;> omega);obtain ⟨c,s1,hv⟩:∃ c s1,aR bs most s=(c,s1):=⟨_,_,rfl⟩;have HV:=Lh hv;rw [hv] at r1 HP AY ⊢;dsimp only at r1 HP AY ⊢;obtain ⟨N,hN⟩:∃ N:Nat,c=(N:Int):=⟨c.toNat,by have:=HP.out;omega⟩;subst hN;have HI1:=Lh (HI0.out.call r1 k1);have hN1:N<=1000:=by have:=AY.out;omega
 clear r1 k1 hv;go_wp2_with fail
 go_loopw [7,11] (fun t j wr=>∃ (k:Nat) (vo:Option Addr) (q vc:Nat),k<=N/\j=.int .i64 k/\t=.slice vo q vc/\Hid (Ri w wr p ao n cap bs (Im.bC (Im.lF bs) k s1).2)/\Hid (Sr.Own wr w.heap.size (.slice vo q vc) (Im.bC (Im.lF bs) k s1).1)) (fun _ j _=>N - (intOf j).toNat)
 case atStart=>exact ⟨0,none,0,0,by omega,rfl,rfl,HI1,Lh (Sr.aN _ _)⟩
 case round =>
  clear HI1;rename World=>wz
  obtain ⟨k,vo,q,vc,hk,rfl,rfl,HI,HO⟩:=hrel;by_cases hlt:k < N
  ·
   have nS:=Lh (Im.kF (Im.lF bs) k s1);have lC:=Lh (Im.iH (Im.lF bs) k s1);generalize Im.bC (Im.lF bs) k s1=rk at HI HO nS lC;obtain ⟨L,sk⟩:=rk;dsimp only at HI HO nS lC;go_wp2_with fail;refine (I7 p ao n cap bs sk wz HI.out.rd).mono ?_;rintro e w2 ⟨rfl,r2,k2⟩;have HI2:=Lh (HI.out.call r2 k2);have lX:=Lh (rA HO.out k2 (by have:=HI.out.lt;omega));obtain ⟨r,hr⟩:∃ r,(Im.lF bs sk).1=r:=⟨_,rfl⟩;rw [hr] at nS ⊢;clear r2 k2 hr HO;go_wp2_with (at_builtin;go_must (refine Sr.aG _ rfl (.tmp 13) (.tmp 17) rfl w.heap.size (.slice vo q vc) L rfl (Sr.bA lX.out _) (some ⟨w2.heap.size,0,none⟩) 1 1 [r] rfl rfl (fun h=>by cases h) (Sr.bB (heap_alloc_new w2 _)) (by have:=lC.out;omega) (by have:=HI2.out.upd.size;simp;omega) ?_));intro v3 w3 o3 ou _;obtain ⟨va,YH,hv3⟩:=kG o3;subst hv3;have HI3:=Lh (HI2.out.app _ ou (World.ownsRow.lt lX.out));have ow:=Lh o3;clear ou o3;go_wp2_with fail;go_roundw
   case rel =>
    refine ⟨k+1,_,_,_,by omega,by go_num,rfl,Lh ?_,Lh ?_⟩
    ·
     rw [nS.out.2];exact HI3.out
    ·
     rw [nS.out.1];exact ow.out
   case measure=>simp [intOf];omega
  ·
   obtain rfl:k=N:=by omega
   have HE:Hid (Im.dn bs most (Im.lF bs) s=Im.bC (Im.lF bs) k s1):=Lh (by
    unfold Im.dn;rw [HV.out];dsimp only;rw [Int.toNat_natCast])
   go_wp2_with fail;go_ret;rw [HE.out];exact ⟨_,rfl,HO.out,HI.out.rd,HI.out.upd⟩
theorem FJ (p:Nat) (ao:Option Addr) (n cap:Nat) (bs:List UInt8) (most:Int) (s:St) (w:World) (hR:Rd w p ao n cap bs s) (hm:most<=1000) :
  Calls Tryz.prog 99 #[.pointer (some ⟨p,0,none⟩),.int .i64 most,.func (.func 100) #[] #[]] w fun e w'=>∃ v,e=.returned v/\Pt.Own w' w.heap.size v (Im.dn bs most (Im.gJ bs) s).1/\Rd w' p ao n cap bs (Im.dn bs most (Im.gJ bs) s).2/\gF w p w':=by
 have HI0:=Lh (Ri.start hR);have HM:=Lh hm;clear hR hm;go_enter Tryz.func99,Tryz.ntmps99;go_wp2_with fail;refine (nK p ao n cap bs most s w HI0.out.rd).mono ?_;rintro e w1 ⟨rfl,r1,k1⟩;have HP:=Lh (iE bs most s);have AY:Hid ((aR bs most s).1<=1000):=Lh (by have h:=Im.jA bs most s;have h2:=HM.out;rcases h with h | h <;> omega);obtain ⟨c,s1,hv⟩:∃ c s1,aR bs most s=(c,s1):=⟨_,_,rfl⟩;have HV:=Lh hv;rw [hv] at r1 HP AY ⊢;dsimp only at r1 HP AY ⊢;obtain ⟨N,hN⟩:∃ N:Nat,c=(N:Int):=⟨c.toNat,by have:=HP.out;omega⟩;subst hN;have HI1:=Lh (HI0.out.call r1 k1);have hN1:N<=1000:=by have:=AY.out;omega
 clear r1 k1 hv;go_wp2_with fail
 go_loopw [7,11] (fun t j wr=>∃ (k:Nat) (vo:Option Addr) (q vc:Nat),k<=N/\j=.int .i64 k/\t=.slice vo q vc/\Hid (Ri w wr p ao n cap bs (Im.bC (Im.gJ bs) k s1).2)/\Hid (Pt.Own wr w.heap.size (.slice vo q vc) (Im.bC (Im.gJ bs) k s1).1)) (fun _ j _=>N - (intOf j).toNat)
 case atStart=>exact ⟨0,none,0,0,by omega,rfl,rfl,HI1,Lh (Pt.aN _ _)⟩
 case round =>
  clear HI1;rename World=>wz
  obtain ⟨k,vo,q,vc,hk,rfl,rfl,HI,HO⟩:=hrel;by_cases hlt:k < N
  ·
   have nS:=Lh (Im.kF (Im.gJ bs) k s1);have lC:=Lh (Im.iH (Im.gJ bs) k s1);generalize Im.bC (Im.gJ bs) k s1=rk at HI HO nS lC;obtain ⟨L,sk⟩:=rk;dsimp only at HI HO nS lC;go_wp2_with fail;refine (QX p ao n cap bs sk wz HI.out.rd).mono ?_;rintro e w2 ⟨rfl,r2,k2⟩;have HI2:=Lh (HI.out.call r2 k2);have lX:=Lh (rA HO.out k2 (by have:=HI.out.lt;omega));obtain ⟨r,hr⟩:∃ r,(Im.gJ bs sk).1=r:=⟨_,rfl⟩;rw [hr] at nS ⊢;clear r2 k2 hr HO;go_wp2_with (at_builtin;go_must (refine Pt.aG _ rfl (.tmp 13) (.tmp 17) rfl w.heap.size (.slice vo q vc) L rfl (Pt.bA lX.out _) (some ⟨w2.heap.size,0,none⟩) 1 1 [r] rfl rfl (fun h=>by cases h) (Pt.bB (heap_alloc_new w2 _)) (by have:=lC.out;omega) (by have:=HI2.out.upd.size;simp;omega) ?_));intro v3 w3 o3 ou _;obtain ⟨va,YH,hv3⟩:=kG o3;subst hv3;have HI3:=Lh (HI2.out.app _ ou (World.ownsRow.lt lX.out));have ow:=Lh o3;clear ou o3;go_wp2_with fail;go_roundw
   case rel =>
    refine ⟨k+1,_,_,_,by omega,by go_num,rfl,Lh ?_,Lh ?_⟩
    ·
     rw [nS.out.2];exact HI3.out
    ·
     rw [nS.out.1];exact ow.out
   case measure=>simp [intOf];omega
  ·
   obtain rfl:k=N:=by omega
   have HE:Hid (Im.dn bs most (Im.gJ bs) s=Im.bC (Im.gJ bs) k s1):=Lh (by
    unfold Im.dn;rw [HV.out];dsimp only;rw [Int.toNat_natCast])
   go_wp2_with fail;go_ret;rw [HE.out];exact ⟨_,rfl,HO.out,HI.out.rd,HI.out.upd⟩
theorem FK (p:Nat) (ao:Option Addr) (n cap:Nat) (bs:List UInt8) (most:Int) (s:St) (w:World) (hR:Rd w p ao n cap bs s) (hm:most<=1000) :
  Calls Tryz.prog 52 #[.pointer (some ⟨p,0,none⟩),.int .i64 most,.func (.func 53) #[] #[]] w fun e w'=>∃ v,e=.returned v/\Sn.Own w' w.heap.size v (Im.dn bs most (Im.gK bs) s).1/\Rd w' p ao n cap bs (Im.dn bs most (Im.gK bs) s).2/\gF w p w':=by
 have HI0:=Lh (Ri.start hR);have HM:=Lh hm;clear hR hm;go_enter Tryz.func52,Tryz.ntmps52;go_wp2_with fail;refine (nK p ao n cap bs most s w HI0.out.rd).mono ?_;rintro e w1 ⟨rfl,r1,k1⟩;have HP:=Lh (iE bs most s);have AY:Hid ((aR bs most s).1<=1000):=Lh (by have h:=Im.jA bs most s;have h2:=HM.out;rcases h with h | h <;> omega);obtain ⟨c,s1,hv⟩:∃ c s1,aR bs most s=(c,s1):=⟨_,_,rfl⟩;have HV:=Lh hv;rw [hv] at r1 HP AY ⊢;dsimp only at r1 HP AY ⊢;obtain ⟨N,hN⟩:∃ N:Nat,c=(N:Int):=⟨c.toNat,by have:=HP.out;omega⟩;subst hN;have HI1:=Lh (HI0.out.call r1 k1);have hN1:N<=1000:=by have:=AY.out;omega
 clear r1 k1 hv;go_wp2_with fail
 go_loopw [7,11] (fun t j wr=>∃ (k:Nat) (vo:Option Addr) (q vc:Nat),k<=N/\j=.int .i64 k/\t=.slice vo q vc/\Hid (Ri w wr p ao n cap bs (Im.bC (Im.gK bs) k s1).2)/\Hid (Sn.Own wr w.heap.size (.slice vo q vc) (Im.bC (Im.gK bs) k s1).1)) (fun _ j _=>N - (intOf j).toNat)
 case atStart=>exact ⟨0,none,0,0,by omega,rfl,rfl,HI1,Lh (Sn.aN _ _)⟩
 case round =>
  clear HI1;rename World=>wz
  obtain ⟨k,vo,q,vc,hk,rfl,rfl,HI,HO⟩:=hrel;by_cases hlt:k < N
  ·
   have nS:=Lh (Im.kF (Im.gK bs) k s1);have lC:=Lh (Im.iH (Im.gK bs) k s1);generalize Im.bC (Im.gK bs) k s1=rk at HI HO nS lC;obtain ⟨L,sk⟩:=rk;dsimp only at HI HO nS lC;go_wp2_with fail;refine (QY p ao n cap bs sk wz HI.out.rd).mono ?_;rintro e w2 ⟨rfl,r2,k2⟩;have HI2:=Lh (HI.out.call r2 k2);have lX:=Lh (rA HO.out k2 (by have:=HI.out.lt;omega));obtain ⟨r,hr⟩:∃ r,(Im.gK bs sk).1=r:=⟨_,rfl⟩;rw [hr] at nS ⊢;clear r2 k2 hr HO;go_wp2_with (at_builtin;go_must (refine Sn.aG _ rfl (.tmp 13) (.tmp 17) rfl w.heap.size (.slice vo q vc) L rfl (Sn.bA lX.out _) (some ⟨w2.heap.size,0,none⟩) 1 1 [r] rfl rfl (fun h=>by cases h) (Sn.bB (heap_alloc_new w2 _)) (by have:=lC.out;omega) (by have:=HI2.out.upd.size;simp;omega) ?_));intro v3 w3 o3 ou _;obtain ⟨va,YH,hv3⟩:=kG o3;subst hv3;have HI3:=Lh (HI2.out.app _ ou (World.ownsRow.lt lX.out));have ow:=Lh o3;clear ou o3;go_wp2_with fail;go_roundw
   case rel =>
    refine ⟨k+1,_,_,_,by omega,by go_num,rfl,Lh ?_,Lh ?_⟩
    ·
     rw [nS.out.2];exact HI3.out
    ·
     rw [nS.out.1];exact ow.out
   case measure=>simp [intOf];omega
  ·
   obtain rfl:k=N:=by omega
   have HE:Hid (Im.dn bs most (Im.gK bs) s=Im.bC (Im.gK bs) k s1):=Lh (by
    unfold Im.dn;rw [HV.out];dsimp only;rw [Int.toNat_natCast])
   go_wp2_with fail;go_ret;rw [HE.out];exact ⟨_,rfl,HO.out,HI.out.rd,HI.out.upd⟩
theorem FL (p:Nat) (ao:Option Addr) (n cap:Nat) (bs:List UInt8) (most:Int) (s:St) (w:World) (hR:Rd w p ao n cap bs s) (hm:most<=1000) :
  Calls Tryz.prog 46 #[.pointer (some ⟨p,0,none⟩),.int .i64 most,.func (.func 47) #[] #[]] w fun e w'=>∃ v,e=.returned v/\nQ w' w.heap.size v (Im.dn bs most (Im.gI bs) s).1/\Rd w' p ao n cap bs (Im.dn bs most (Im.gI bs) s).2/\gF w p w':=by
 have HI0:=Lh (Ri.start hR);have HM:=Lh hm;clear hR hm;go_enter Tryz.func46,Tryz.ntmps46;go_wp2_with fail;refine (nK p ao n cap bs most s w HI0.out.rd).mono ?_;rintro e w1 ⟨rfl,r1,k1⟩;have HP:=Lh (iE bs most s);have AY:Hid ((aR bs most s).1<=1000):=Lh (by have h:=Im.jA bs most s;have h2:=HM.out;rcases h with h | h <;> omega);obtain ⟨c,s1,hv⟩:∃ c s1,aR bs most s=(c,s1):=⟨_,_,rfl⟩;have HV:=Lh hv;rw [hv] at r1 HP AY ⊢;dsimp only at r1 HP AY ⊢;obtain ⟨N,hN⟩:∃ N:Nat,c=(N:Int):=⟨c.toNat,by have:=HP.out;omega⟩;subst hN;have HI1:=Lh (HI0.out.call r1 k1);have hN1:N<=1000:=by have:=AY.out;omega
 clear r1 k1 hv;go_wp2_with fail
 go_loopw [7,11] (fun t j wr=>∃ (k:Nat) (vo:Option Addr) (q vc:Nat),k<=N/\j=.int .i64 k/\t=.slice vo q vc/\Hid (Ri w wr p ao n cap bs (Im.bC (Im.gI bs) k s1).2)/\Hid (nQ wr w.heap.size (.slice vo q vc) (Im.bC (Im.gI bs) k s1).1)) (fun _ j _=>N - (intOf j).toNat)
 case atStart=>exact ⟨0,none,0,0,by omega,rfl,rfl,HI1,Lh ⟨rfl,.inl ⟨rfl,rfl⟩⟩⟩
 case round =>
  clear HI1;rename World=>wz
  obtain ⟨k,vo,q,vc,hk,rfl,rfl,HI,HO⟩:=hrel;by_cases hlt:k < N
  ·
   have nS:=Lh (Im.kF (Im.gI bs) k s1);have lC:=Lh (Im.iH (Im.gI bs) k s1);generalize Im.bC (Im.gI bs) k s1=rk at HI HO nS lC;obtain ⟨L,sk⟩:=rk;dsimp only at HI HO nS lC;go_wp2_with fail;refine (QV p ao n cap bs sk wz HI.out.rd).mono ?_;rintro e w2 ⟨rfl,r2,k2⟩;have HI2:=Lh (HI.out.call r2 k2);have lX:=Lh (rA HO.out k2 (by have:=HI.out.lt;omega));obtain ⟨r,hr⟩:∃ r,(Im.gI bs sk).1=r:=⟨_,rfl⟩;rw [hr] at nS ⊢;clear r2 k2 hr HO;go_wp2_with (at_builtin;go_must (refine dD _ rfl (.tmp 13) (.tmp 17) rfl w.heap.size (.slice vo q vc) L rfl (bA lX.out _) (some ⟨w2.heap.size,0,none⟩) 1 1 [r] rfl rfl (fun h=>by cases h) (bB (heap_alloc_new w2 _)) (by have:=lC.out;omega) (by have:=HI2.out.upd.size;simp;omega) ?_));intro v3 w3 o3 ou _;obtain ⟨va,YH,hv3⟩:=kG o3;subst hv3;have HI3:=Lh (HI2.out.app _ ou (World.ownsRow.lt lX.out));have ow:=Lh o3;clear ou o3;go_wp2_with fail;go_roundw
   case rel =>
    refine ⟨k+1,_,_,_,by omega,by go_num,rfl,Lh ?_,Lh ?_⟩
    ·
     rw [nS.out.2];exact HI3.out
    ·
     rw [nS.out.1];exact ow.out
   case measure=>simp [intOf];omega
  ·
   obtain rfl:k=N:=by omega
   have HE:Hid (Im.dn bs most (Im.gI bs) s=Im.bC (Im.gI bs) k s1):=Lh (by
    unfold Im.dn;rw [HV.out];dsimp only;rw [Int.toNat_natCast])
   go_wp2_with fail;go_ret;rw [HE.out];exact ⟨_,rfl,HO.out,HI.out.rd,HI.out.upd⟩
structure Fg (A:Nat) (u v:World):Prop where
 block:∀ b,A<=b->b < u.heap.size->v.heap[b]? =u.heap[b]?
 size:u.heap.size<=v.heap.size
theorem Fg.trans {A:Nat} {u v w:World} (h:Fg A u v) (k:Fg A v w):Fg A u w:=⟨fun b ha hb=>(k.block b ha (Nat.lt_of_lt_of_le hb h.size)).trans (h.block b ha hb),Nat.le_trans h.size k.size⟩
theorem Fg.upd (h:gF u p v) (hp:p < A):Fg A u v:=⟨fun b ha hb=>h.block b hb (by omega),h.size⟩
theorem Fg.set (u:World) (hg:g < A) (o:Nat) (x:Value):Fg A u (u.setCell ⟨g,o,none⟩ x):=⟨fun b ha _=>heap_setCell_other u ⟨g,o,none⟩ b x (by show b≠g;omega),by simp⟩
theorem Fg.row (u:World) (hg:g < A) (vs:Array Value):Fg A u (u.setRow g vs):=⟨fun b ha _=>setRow_other u g b vs (by omega),by simp [World.setRow]⟩
theorem Fg.kR (h:Fg A u v) (hP:∀ b,P b->A<=b):jN P u v:=⟨fun b o hb hl=>World.cell?_of_block (h.block b (hP b hb) hl),h.size⟩
theorem Fg.rows {x:Value} (f:Fg A u v) (h:u.ownsRow B e k x n xs) (hA:A<=B):v.ownsRow B e k x n xs :=
 wH h fun g hg=>f.block g (Nat.le_trans hA (World.ownsRow.lt h g hg).1) (World.ownsRow.lt h g hg).2
theorem bI.kR {Q:Nat->Prop} (h:bI Q u v) (hP:∀ b,P b-> ¬ Q b):jN P u v:=⟨fun b o hb hl=>World.cell?_of_block (h.block b hl (hP b hb)),h.size⟩
theorem gF.row {q:Nat} (h:gF w p u) (hq:w.heap.size<=q) (vs:Array Value):gF w p (u.setRow q vs):=by
 have e:∀ b,b < w.heap.size->(u.setRow q vs).heap[b]? =u.heap[b]? :=fun b hb=>setRow_other u q b vs (by omega)
 refine ⟨by simpa [World.setRow] using h.size,fun b r hb hp=>?_,fun b r hb=>?_,fun w0 a c=>below_setRow (h.below w0 a c) (Nat.le_trans a.size hq) vs,fun b hb hp=>(e b hb).trans (h.block b hb hp)⟩
 · rw [World.cell?_of_block (e b hb),h.cell b r hb hp]
 · rw [World.frozen?_of_block (e b hb),h.frozen b r hb]
theorem Rd.row {q:Nat} {bs:List UInt8} {s:St} (h:Rd u p ao n cap bs s) (k:Off p q n ao) (vs:Array Value):Rd (u.setRow q vs) p ao n cap bs s:=by
 have hb:(u.setRow q vs).heap[p]? =u.heap[p]? :=setRow_other u q p vs (fun e=>k.ne e.symm);refine ⟨(World.cell?_of_block hb).trans h.c0,(World.cell?_of_block hb).trans h.c1,(World.cell?_of_block hb).trans h.c2,fun o=>(World.frozen?_of_block hb).trans (h.fz o),⟨h.ls.len,h.ls.fits,h.ls.reach,h.ls.nil,?_⟩,h.apart,h.place⟩;rcases h.ls.seg with e | ⟨b,off,e,hc⟩
 · exact .inl e
 ·
  refine .inr ⟨b,off,e,fun i hi=>?_⟩;have hn:0 < n:=by rw [h.ls.len];omega
  exact (World.cell?_of_block (setRow_other u q b vs (k.bytes hn b off e))).trans (hc i hi)
theorem Im.rY (bs:List UInt8) (s:St):(fC bs 64 s).1.size<=64:=by
 have h:=Im.jA bs 64 s;have h2:=iE bs 64 s
 have e:(fC bs 64 s).1.size=((bs.take ((aR bs 64 s).2.at'+(aR bs 64 s).1.toNat)).drop (aR bs 64 s).2.at').length:=by
  have q:∀ l:List UInt8,(str l).size=l.length:=fun l=>by
   have:txt (str l)=l:=rfl;unfold txt at this;rw [<- this,Array.length_toList];rfl
  exact q _
 rw [e,List.length_drop,List.length_take];rcases h with h | h <;> omega
theorem Im.rC (bs:List UInt8):∀ (k:Nat) (s:St),∀ x∈(Im.bC (Im.gJ bs) k s).1,Pt.Short x
 | 0,_,x,hx=>by cases hx
 | k+1,s,x,hx=>by
  rw [Im.bC] at hx;rcases List.mem_cons.1 hx with rfl | hx
  · exact ⟨by have:=Im.rY bs s;show (fC bs 64 s).1.size<=_;omega,aV _ _,aV _ _,⟨by show (-9223372036854775808:Int)<=0;omega,by show (0:Int)<=_;omega⟩⟩
  · exact Im.rC bs k _ x hx
theorem I8 (p:Nat) (ao:Option Addr) (n cap:Nat) (bs:List UInt8) (s:St) (w:World) (hR:Rd w p ao n cap bs s) :
  Calls Tryz.prog 51 #[.pointer (some ⟨p,0,none⟩)] w fun e w'=>∃ r:Pd.T,e=.returned (Pd.val r)/\Bl.AV w' r (Im.fE bs s).1/\sJ (w.heap.size+2) r.parts.ao r.parts.n/\Pt.Own w' (w.heap.size+2) (Bl.sl r.parts) (Im.fE bs s).1.tot.parts/\Rd w' p ao n cap bs (Im.fE bs s).2/\gF w p w':=by
 have HX0:=Lh (Rx.start hR #[.string ⟨#[]⟩,.int .i64 0,.int .i64 0,.int .i64 0,.int .i64 0,.int .i64 0,.int .i64 0,.int .i64 0,.slice none 0 0,.string ⟨#[]⟩,.int .i64 0,.bool false] 104);have hlt:=aH hR.c0;have hnp:w.heap.size≠p:=by omega
 have Dz:w.heap.size+1≠p:=by omega
 obtain ⟨U,hU⟩:∃ U,(w.alloc (.cells #[.string ⟨#[]⟩,.int .i64 0,.int .i64 0,.int .i64 0,.int .i64 0,.int .i64 0,.int .i64 0,.int .i64 0,.slice none 0 0,.string ⟨#[]⟩,.int .i64 0,.bool false] 104)).alloc (.cells #[.string ⟨#[]⟩,.int .i64 0,.int .i64 0,.int .i64 0,.int .i64 0,.int .i64 0,.int .i64 0,.int .i64 0,.slice none 0 0,.string ⟨#[]⟩,.int .i64 0,.bool false] 104)=U:=⟨_,rfl⟩;rw [hU] at HX0;clear hR;go_enter Tryz.func51,Tryz.ntmps51;go_wp2_with fail;clear hU;refine (rz p ao n cap bs s U HX0.out.rd).mono ?_;rintro e w1 ⟨rfl,r1,k1⟩;obtain ⟨a1,s1,hv1⟩:∃ a s',fC bs 64 s=(a,s'):=⟨_,_,rfl⟩;rw [hv1] at r1 ⊢;dsimp only at r1 ⊢;have KV:=Lh hv1;have iA:=Lh (HX0.out.call k1 r1);clear r1 k1 hv1;have c0:=iA.out.cell 0;have c1:=iA.out.cell 1;have c2:=iA.out.cell 2;have c3:=iA.out.cell 3;have c4:=iA.out.cell 4;have c5:=iA.out.cell 5;have c6:=iA.out.cell 6;have c7:=iA.out.cell 7;have c8:=iA.out.cell 8;have c9:=iA.out.cell 9;have c10:=iA.out.cell 10;have c11:=iA.out.cell 11;simp only [List.getElem?_toArray,List.getElem?_cons_zero,List.getElem?_cons_succ] at c0 c1 c2 c3 c4 c5 c6 c7 c8 c9 c10 c11;have z0:=iA.out.fz 0;have uN:Hid (Rx w (w1.setCell ⟨w.heap.size+1,0,none⟩ (.string a1)) p ao n cap bs s1 104 #[.string ⟨#[]⟩,.int .i64 0,.int .i64 0,.int .i64 0,.int .i64 0,.int .i64 0,.int .i64 0,.int .i64 0,.slice none 0 0,.string ⟨#[]⟩,.int .i64 0,.bool false] #[.string a1,.int .i64 0,.int .i64 0,.int .i64 0,.int .i64 0,.int .i64 0,.int .i64 0,.int .i64 0,.slice none 0 0,.string ⟨#[]⟩,.int .i64 0,.bool false]):=Lh (iA.out.set 0 (.string a1));obtain ⟨u1,hu1⟩:∃ u,(w1.setCell ⟨w.heap.size+1,0,none⟩ (.string a1))=u:=⟨_,rfl⟩;rw [hu1] at uN;go_wp2_with fail;clear hu1 c0 c1 c2 c3 c4 c5 c6 c7 c8 c9 c10 c11 z0;refine (KU p ao n cap bs s1 u1 uN.out.rd).mono ?_;rintro e w2 ⟨rfl,r2,k2⟩;obtain ⟨a2,s2,hv2⟩:∃ a s',qo bs s1=(a,s'):=⟨_,_,rfl⟩;rw [hv2] at r2 ⊢;dsimp only at r2 ⊢;have H9:=Lh hv2;have iK:=Lh (uN.out.call k2 r2);clear r2 k2 hv2;have c0:=iK.out.cell 0;have c1:=iK.out.cell 1;have c2:=iK.out.cell 2;have c3:=iK.out.cell 3;have c4:=iK.out.cell 4;have c5:=iK.out.cell 5;have c6:=iK.out.cell 6;have c7:=iK.out.cell 7;have c8:=iK.out.cell 8;have c9:=iK.out.cell 9;have c10:=iK.out.cell 10;have c11:=iK.out.cell 11;simp only [List.getElem?_toArray,List.getElem?_cons_zero,List.getElem?_cons_succ] at c0 c1 c2 c3 c4 c5 c6 c7 c8 c9 c10 c11;have z2:=iK.out.fz 2;have z3:=iK.out.fz 3;have z4:=iK.out.fz 4;have tC:Hid (Rx w (((w2.setCell ⟨w.heap.size+1,2,none⟩ (.int .i64 a2.1)).setCell ⟨w.heap.size+1,3,none⟩ (.int .i64 a2.2.1)).setCell ⟨w.heap.size+1,4,none⟩ (.int .i64 a2.2.2)) p ao n cap bs s2 104 #[.string ⟨#[]⟩,.int .i64 0,.int .i64 0,.int .i64 0,.int .i64 0,.int .i64 0,.int .i64 0,.int .i64 0,.slice none 0 0,.string ⟨#[]⟩,.int .i64 0,.bool false] #[.string a1,.int .i64 0,.int .i64 a2.1,.int .i64 a2.2.1,.int .i64 a2.2.2,.int .i64 0,.int .i64 0,.int .i64 0,.slice none 0 0,.string ⟨#[]⟩,.int .i64 0,.bool false]):=Lh (((iK.out.set 2 (.int .i64 a2.1)).set 3 (.int .i64 a2.2.1)).set 4 (.int .i64 a2.2.2));obtain ⟨u2,hu2⟩:∃ u,(((w2.setCell ⟨w.heap.size+1,2,none⟩ (.int .i64 a2.1)).setCell ⟨w.heap.size+1,3,none⟩ (.int .i64 a2.2.1)).setCell ⟨w.heap.size+1,4,none⟩ (.int .i64 a2.2.2))=u:=⟨_,rfl⟩;rw [hu2] at tC;go_wp2_with fail;clear hu2 c0 c1 c2 c3 c4 c5 c6 c7 c8 c9 c10 c11 z2 z3 z4;refine (rz p ao n cap bs s2 u2 tC.out.rd).mono ?_;rintro e w3 ⟨rfl,r3,k3⟩;obtain ⟨a3,s3,hv3⟩:∃ a s',fC bs 64 s2=(a,s'):=⟨_,_,rfl⟩;rw [hv3] at r3 ⊢;dsimp only at r3 ⊢;have QW:=Lh hv3;have jJ:=Lh (tC.out.call k3 r3);clear r3 k3 hv3;have c0:=jJ.out.cell 0;have c1:=jJ.out.cell 1;have c2:=jJ.out.cell 2;have c3:=jJ.out.cell 3;have c4:=jJ.out.cell 4;have c5:=jJ.out.cell 5;have c6:=jJ.out.cell 6;have c7:=jJ.out.cell 7;have c8:=jJ.out.cell 8;have c9:=jJ.out.cell 9
 have c10:=jJ.out.cell 10;have c11:=jJ.out.cell 11;simp only [List.getElem?_toArray,List.getElem?_cons_zero,List.getElem?_cons_succ] at c0 c1 c2 c3 c4 c5 c6 c7 c8 c9 c10 c11;have z9:=jJ.out.fz 9;have gD:Hid (Rx w (w3.setCell ⟨w.heap.size+1,9,none⟩ (.string a3)) p ao n cap bs s3 104 #[.string ⟨#[]⟩,.int .i64 0,.int .i64 0,.int .i64 0,.int .i64 0,.int .i64 0,.int .i64 0,.int .i64 0,.slice none 0 0,.string ⟨#[]⟩,.int .i64 0,.bool false] #[.string a1,.int .i64 0,.int .i64 a2.1,.int .i64 a2.2.1,.int .i64 a2.2.2,.int .i64 0,.int .i64 0,.int .i64 0,.slice none 0 0,.string a3,.int .i64 0,.bool false]):=Lh (jJ.out.set 9 (.string a3));obtain ⟨u3,hu3⟩:∃ u,(w3.setCell ⟨w.heap.size+1,9,none⟩ (.string a3))=u:=⟨_,rfl⟩;rw [hu3] at gD;go_wp2_with fail;clear hu3 c0 c1 c2 c3 c4 c5 c6 c7 c8 c9 c10 c11 z9;refine (iW p ao n cap bs s3 u3 gD.out.rd).mono ?_;rintro e w4 ⟨rfl,r4,k4⟩;obtain ⟨a4,s4,hv4⟩:∃ a s',bH bs s3=(a,s'):=⟨_,_,rfl⟩;rw [hv4] at r4 ⊢;dsimp only at r4 ⊢;have HV4:=Lh hv4;have uj:=Lh (gD.out.call k4 r4);clear r4 k4 hv4;have c0:=uj.out.cell 0;have c1:=uj.out.cell 1;have c2:=uj.out.cell 2;have c3:=uj.out.cell 3;have c4:=uj.out.cell 4;have c5:=uj.out.cell 5;have c6:=uj.out.cell 6;have c7:=uj.out.cell 7;have c8:=uj.out.cell 8;have c9:=uj.out.cell 9;have c10:=uj.out.cell 10;have c11:=uj.out.cell 11;simp only [List.getElem?_toArray,List.getElem?_cons_zero,List.getElem?_cons_succ] at c0 c1 c2 c3 c4 c5 c6 c7 c8 c9 c10 c11;have z10:=uj.out.fz 10;have OW:Hid (Rx w (w4.setCell ⟨w.heap.size+1,10,none⟩ (.int .i64 a4)) p ao n cap bs s4 104 #[.string ⟨#[]⟩,.int .i64 0,.int .i64 0,.int .i64 0,.int .i64 0,.int .i64 0,.int .i64 0,.int .i64 0,.slice none 0 0,.string ⟨#[]⟩,.int .i64 0,.bool false] #[.string a1,.int .i64 0,.int .i64 a2.1,.int .i64 a2.2.1,.int .i64 a2.2.2,.int .i64 0,.int .i64 0,.int .i64 0,.slice none 0 0,.string a3,.int .i64 a4,.bool false]):=Lh (uj.out.set 10 (.int .i64 a4));obtain ⟨u4,Va⟩:∃ u,(w4.setCell ⟨w.heap.size+1,10,none⟩ (.int .i64 a4))=u:=⟨_,rfl⟩;rw [Va] at OW;go_wp2_with fail;clear Va c0 c1 c2 c3 c4 c5 c6 c7 c8 c9 c10 c11 z10;refine (FJ p ao n cap bs 12 s4 u4 OW.out.rd (by omega)).mono ?_;rintro e w5 ⟨v5,rfl,o5,r5,k5⟩;have hsh:∀ x∈(Im.dn bs 12 (Im.gJ bs) s4).1,Pt.Short x:=Im.rC bs _ _;obtain ⟨a5,s5,hv5⟩:∃ a s',Im.dn bs 12 (Im.gJ bs) s4=(a,s'):=⟨_,_,rfl⟩;rw [hv5] at r5 o5 hsh;dsimp only at r5 o5 hsh;have HV5:=Lh hv5;obtain ⟨po,pc,hvp,l5,g5⟩:=Pt.aX o5 hsh;subst hvp;have OY:=Lh l5;have HG5:=Lh g5;have Xr:=Lh o5;have KW:Hid (w.heap.size+2<=u4.heap.size):=Lh (Nat.succ_le_of_lt (Array.getElem?_eq_some_iff.1 OW.out.var).1);obtain ⟨m5,hm5⟩:∃ m,a5.length=m:=⟨_,rfl⟩;rw [hm5] at OY Xr;rw [hm5];have oq:=Lh (OW.out.call k5 r5);clear r5 k5 hv5 o5 l5 g5 hsh hm5;have c0:=oq.out.cell 0;have c1:=oq.out.cell 1;have c2:=oq.out.cell 2;have c3:=oq.out.cell 3;have c4:=oq.out.cell 4;have c5:=oq.out.cell 5;have c6:=oq.out.cell 6;have c7:=oq.out.cell 7;have c8:=oq.out.cell 8;have c9:=oq.out.cell 9;have c10:=oq.out.cell 10;have c11:=oq.out.cell 11;simp only [List.getElem?_toArray,List.getElem?_cons_zero,List.getElem?_cons_succ] at c0 c1 c2 c3 c4 c5 c6 c7 c8 c9 c10 c11;have z8:=oq.out.fz 8;have p8:Hid (Rx w (w5.setCell ⟨w.heap.size+1,8,none⟩ (.slice po m5 pc)) p ao n cap bs s5 104 #[.string ⟨#[]⟩,.int .i64 0,.int .i64 0,.int .i64 0,.int .i64 0,.int .i64 0,.int .i64 0,.int .i64 0,.slice none 0 0,.string ⟨#[]⟩,.int .i64 0,.bool false] #[.string a1,.int .i64 0,.int .i64 a2.1,.int .i64 a2.2.1,.int .i64 a2.2.2,.int .i64 0,.int .i64 0,.int .i64 0,.slice po m5 pc,.string a3,.int .i64 a4,.bool false]):=Lh (oq.out.set 8 (.slice po m5 pc));obtain ⟨u5,OX⟩:∃ u,(w5.setCell ⟨w.heap.size+1,8,none⟩ (.slice po m5 pc))=u:=⟨_,rfl⟩;rw [OX] at p8;have hvar:=p8.out.var;have hres:=p8.out.res
 have hAt:Pd.At u5 (w.heap.size+1) 0 ⟨a1,0,a2.1,a2.2.1,a2.2.2,0,0,0,⟨po,m5,pc⟩,a3,a4,false⟩:=by
  refine ⟨?_,?_,?_,?_,?_,?_,?_,?_,?_,?_,?_,?_⟩
  all_goals rw [cell_of_row u5 _ _ _ _ _ hvar]
  all_goals rfl
 have HLu:Hid (Pt.Ls u5 po m5 pc a5):=Lh (by
  rw [<- OX];refine OY.out.kp (A:=w.heap.size+2) (fun hn b off e=>?_) (Kp.set w5 (by omega) _ _);obtain ⟨g,h1,h2⟩:=HG5.out _ e;cases h1
  have:=KW.out;omega)
 have HOu:Hid (Pt.Own u5 (w.heap.size+2) (.slice po m5 pc) a5):=Lh (by
  rw [<- OX];exact Pt.bD ((Fg.set w5 (A:=w.heap.size+2) (by omega) _ _).rows Xr.out KW.out) KW.out)
 go_wp2_with (first | ((with_reducible apply Pd.aI hAt);rfl;rfl;rfl)|((with_reducible apply Pd.aU (r:=⟨a1,0,a2.1,a2.2.1,a2.2.2,0,0,0,⟨po,m5,pc⟩,a3,a4,false⟩) hres rfl);rfl;rfl;rfl;rfl))
 have HV:Hid (Im.fE bs s=((⟨a1,0,a2.1,a2.2.1,a2.2.2,⟨0,0,0,a5⟩,a3,a4,false⟩:Bl.Ps),s5)):=Lh (by
  unfold Im.fE;dsimp only;rw [KV.out]
  try dsimp only
  rw [H9.out]
  try dsimp only
  rw [QW.out]
  try dsimp only
  rw [HV4.out]
  try dsimp only
  rw [HV5.out]
  try dsimp only
  )
 refine bodyPost_ret (Pd.FC Tryz.results51 rfl (Pd.heap_put _ hres)) rfl ⟨_,rfl,?_,?_,?_,?_,?_⟩
 ·
  rw [HV.out];refine ⟨rfl,rfl,rfl,rfl,rfl,rfl,rfl,rfl,?_,rfl,rfl,rfl⟩
  exact HLu.out.kp (A:=w.heap.size+2) (fun hn b off e=>by
   obtain ⟨g,h1,h2⟩:=HG5.out _ e;cases h1
   have:=KW.out;omega) ⟨fun b o ha hb=>World.cell?_of_block (setRow_other u5 w.heap.size b _ (by omega)),by simp [World.setRow]⟩
 ·
  intro hn b off e;obtain ⟨g,h1,h2⟩:=HG5.out _ e;cases h1
  have:=KW.out;omega
 ·
  rw [HV.out];exact (Fg.row u5 (A:=w.heap.size+2) (by omega) _).rows HOu.out (Nat.le_refl _)
 ·
  rw [HV.out];exact p8.out.rd.row p8.out.mh _
 · exact p8.out.upd.row (Nat.le_refl _) _
theorem gF.kR (h:gF u p v) (hP:∀ b,P b->b≠p):jN P u v:=⟨fun b o hb hl=>h.cell b o hl (hP b hb),h.size⟩
theorem QZ {row:Option Nat} (gr:u.grownBy v row) (hP:∀ b,P b->row≠some b):jN P u v :=
 ⟨fun b o hb hl=>World.cell?_of_block (gr.block b hl (fun k=>hP b hb k.symm)),gr.size⟩
theorem Bl.Each.kR {P:Nat->Prop} {w v:World} {rs:List Pd.T} {ps:List Bl.Ps} (h:Bl.Each w rs ps) (hi:∀ r∈rs,kQ P r.parts.ao r.parts.n) (k:jN P w v):Bl.Each v rs ps:=⟨h.len,fun i q=>(h.each i q).kR (hi _ (List.getElem_mem q)) k⟩
def PtN (w:World) (v:Value) (rs:List Pd.T):Prop:=∀ r∈rs,kQ (fun b=>w.heap.size<=b/\v.ownBlock≠some b) r.parts.ao r.parts.n
structure zL (w:World) (A:Nat) (v:Value) (rs:List Pd.T) (ps:List Bl.Ps):Prop where
 own:∀ i (h:i < rs.length) (k:i < ps.length),Pt.Own w A (Bl.sl rs[i].parts) ps[i].tot.parts
 off:∀ i (h:i < rs.length) b,(Bl.sl rs[i].parts).ownBlock=some b->v.ownBlock≠some b
 apart:∀ i j (hi:i < rs.length) (hj:j < rs.length),i < j->∀ b,(Bl.sl rs[i].parts).ownBlock=some b->(Bl.sl rs[j].parts).ownBlock≠some b
theorem zL.nil (w:World) (A:Nat) (v:Value):zL w A v [] []:=⟨fun _ h=>absurd h (Nat.not_lt_zero _),fun _ h=>absurd h (Nat.not_lt_zero _),fun _ _ h=>absurd h (Nat.not_lt_zero _)⟩
theorem zL.lt {w:World} {A:Nat} {v:Value} {rs:List Pd.T} {ps:List Bl.Ps} (h:zL w A v rs ps) (hl:rs.length=ps.length) (i:Nat) (hi:i < rs.length) (b:Nat) (e:(Bl.sl rs[i].parts).ownBlock=some b):A<=b/\b < w.heap.size :=
 World.ownsRow.lt (h.own i hi (hl▸hi)) b e
theorem zL.keep {v:Value} {rs:List Pd.T} {ps:List Bl.Ps} (h:zL w A v rs ps) (k:∀ i (hi:i < rs.length) g,(Bl.sl rs[i].parts).ownBlock=some g->u.heap[g]? =w.heap[g]?):zL u A v rs ps :=
 ⟨fun i hi hk=>wH (h.own i hi hk) (k i hi),h.off,h.apart⟩
theorem zL.move {v v':Value} {rs:List Pd.T} {ps:List Bl.Ps} (h:zL w A v rs ps) (k:∀ i (hi:i < rs.length) b,(Bl.sl rs[i].parts).ownBlock=some b->v'.ownBlock≠some b):zL w A v' rs ps:=⟨h.own,k,h.apart⟩
theorem zL.add {C:Nat} {v:Value} {rs:List Pd.T} {ps:List Bl.Ps} (h:zL w A v rs ps) (hl:rs.length=ps.length) {r:Pd.T} {p:Bl.Ps} (o:Pt.Own w C (Bl.sl r.parts) p.tot.parts) (hAC:A<=C) (hlt:∀ i (hi:i < rs.length) b,(Bl.sl rs[i].parts).ownBlock=some b->b < C) (hv:∀ b,v.ownBlock=some b->b < C):zL w A v (rs++[r]) (ps++[p]):=by
 have get:∀ i (hi:i < (rs++[r]).length),(∃ k:i < rs.length,(rs++[r])[i]=rs[i])\/(i=rs.length/\(rs++[r])[i]=r):=fun i hi=>by
  rcases Nat.lt_or_ge i rs.length with k | k
  · exact .inl ⟨k,List.getElem_append_left k⟩
  ·
   rw [List.length_append,List.length_singleton] at hi;obtain rfl:i=rs.length:=by omega
   exact .inr ⟨rfl,by simp⟩
 have ge:∀ b,(Bl.sl r.parts).ownBlock=some b->C<=b:=fun b e=>(World.ownsRow.lt o b e).1
 refine ⟨fun i hi hk=>?_,fun i hi b e z=>?_,fun i j hi hj hij b e z=>?_⟩
 ·
  rcases get i hi with ⟨k,e⟩ | ⟨rfl,e⟩
  ·
   rw [e,List.getElem_append_left (hl▸k)];exact h.own i k (hl▸k)
  ·
   rw [e]
   have e2 : (ps ++ [p])[rs.length]'hk = p := by
    rw [List.getElem_append_right (by omega)]
    simp
   rw [e2];exact Pt.bD o hAC
 ·
  rcases get i hi with ⟨k,q⟩ | ⟨rfl,q⟩
  ·
   rw [q] at e;exact h.off i k b e z
  ·
   rw [q] at e;have:=ge b e;have:=hv b z;omega
 ·
  rcases get i hi with ⟨k,q⟩ | ⟨rfl,q⟩
  ·
   rw [q] at e;rcases get j hj with ⟨k2,q2⟩ | ⟨rfl,q2⟩
   ·
    rw [q2] at z;exact h.apart i j k k2 hij b e z
   ·
    rw [q2] at z;have:=ge b z;have:=hlt i k b e;omega
  ·
   rw [List.length_append,List.length_singleton] at hj;omega
theorem FM (p:Nat) (ao:Option Addr) (n cap:Nat) (bs:List UInt8) (most:Int) (s:St) (w:World) (hR:Rd w p ao n cap bs s) (hm:most<=1000) :
  Calls Tryz.prog 50 #[.pointer (some ⟨p,0,none⟩),.int .i64 most,.func (.func 51) #[] #[]] w fun e w'=>∃ v rs,e=.returned v/\Pd.Own w' w.heap.size v rs/\Bl.Each w' rs (Im.dn bs most (Im.fE bs) s).1/\PtN w v rs/\zL w' w.heap.size v rs (Im.dn bs most (Im.fE bs) s).1/\Rd w' p ao n cap bs (Im.dn bs most (Im.fE bs) s).2/\gF w p w':=by
 have HI0:=Lh (Ri.start hR);have HM:=Lh hm;clear hR hm;go_enter Tryz.func50,Tryz.ntmps50;go_wp2_with fail;refine (nK p ao n cap bs most s w HI0.out.rd).mono ?_;rintro e w1 ⟨rfl,r1,k1⟩;have HP:=Lh (iE bs most s);have AY:Hid ((aR bs most s).1<=1000):=Lh (by have h:=Im.jA bs most s;have h2:=HM.out;rcases h with h | h <;> omega);obtain ⟨c,s1,hv⟩:∃ c s1,aR bs most s=(c,s1):=⟨_,_,rfl⟩;have HV:=Lh hv;rw [hv] at r1 HP AY ⊢;dsimp only at r1 HP AY ⊢;obtain ⟨N,hN⟩:∃ N:Nat,c=(N:Int):=⟨c.toNat,by have:=HP.out;omega⟩;subst hN;have HI1:=Lh (HI0.out.call r1 k1);have hN1:N<=1000:=by have:=AY.out;omega
 clear r1 k1 hv;go_wp2_with fail
 go_loopw [7,11] (fun t j wr=>∃ (k:Nat) (vo:Option Addr) (q vc:Nat) (rs:List Pd.T),k<=N/\j=.int .i64 k/\t=.slice vo q vc/\Hid (Ri w wr p ao n cap bs (Im.bC (Im.fE bs) k s1).2)/\Hid (Pd.Own wr w.heap.size (.slice vo q vc) rs)/\Hid (Bl.Each wr rs (Im.bC (Im.fE bs) k s1).1)/\Hid (PtN w (.slice vo q vc) rs)/\Hid (zL wr w.heap.size (.slice vo q vc) rs (Im.bC (Im.fE bs) k s1).1)) (fun _ j _=>N - (intOf j).toNat)
 case atStart=>exact ⟨0,none,0,0,[],by omega,rfl,rfl,HI1,Lh (Pd.aN _ _),Lh (Bl.qR _),Lh (fun r hr=>by cases hr),Lh (zL.nil _ _ _)⟩
 case round =>
  clear HI1;rename World=>wz
  obtain ⟨k,vo,q,vc,rs,hk,rfl,rfl,HI,HO,HE,HN,HY⟩:=hrel;by_cases hlt:k < N
  ·
   have nS:=Lh (Im.kF (Im.fE bs) k s1);have lC:Hid (rs.length=k):=Lh (by rw [HE.out.len,Im.iH]);generalize Im.bC (Im.fE bs) k s1=rk at HI HO HE nS HY;obtain ⟨L,sk⟩:=rk;dsimp only at HI HO HE nS HY;go_wp2_with fail;refine (I8 p ao n cap bs sk wz HI.out.rd).mono ?_;rintro e w2 ⟨r,rfl,i2,a2,y2,r2,k2⟩;have hpw:=HI.out.lt;have HI2:=Lh (HI.out.call r2 k2);have lX:=Lh (rA HO.out k2 (by omega));have HE2:=Lh (HE.out.kR HN.out (k2.kR fun b hb=>by have:=hb.1;omega));have HZ:=Lh (And.intro HI.out.upd.size k2.size);have Xt:=Lh i2
   have mP:Hid (zL w2 w.heap.size (.slice vo q vc) (rs++[r]) (L++[(Im.fE bs sk).1])):=Lh (by
    have hlen:=HE.out.len;have hsz:=HI.out.upd.size;refine (HY.out.keep fun i hi g hg=>k2.block g (HY.out.lt hlen i hi g hg).2 ?_).add hlen y2 (by omega) (fun i hi b e=>?_) fun b e=>?_
    ·
     have:=(HY.out.lt hlen i hi g hg).1;omega
    ·
     have:=(HY.out.lt hlen i hi b e).2;omega
    ·
     have:=(World.ownsRow.lt HO.out b e).2;omega)
   have HA2:=Lh a2;have Vb:=Lh (World.ownsRow.lt HO.out);clear r2 k2 i2 a2 y2 HO HE HY;go_wp2_with (first | ((with_reducible apply Pd.vD (r:=r));rfl;rfl;rfl)|(at_builtin;go_must (refine Pd.aG (w2.alloc (Pd.block r)) rfl (.tmp 13) (.tmp 17) rfl w.heap.size (.slice vo q vc) rs rfl (Pd.bA lX.out _) (some ⟨w2.heap.size,0,none⟩) 1 1 [r] rfl rfl (fun h=>by cases h) (Pd.bB (heap_alloc_new w2 _)) (by have:=lC.out;omega) (by have:=HI2.out.upd.size;simp;omega) ?_)));intro v3 w3 o3 ou at3;obtain ⟨va,YH,hv3⟩:=kG o3;subst hv3;have hz:=HZ.out;have hb2:Below w2.heap.size w2 (w2.alloc (Pd.block r)):=(Below.refl _ _).alloc (Nat.le_refl _) _;have hs2:(w2.alloc (Pd.block r)).heap.size=w2.heap.size+1:=by simp
   have HI3:=Lh (HI2.out.app _ ou (World.ownsRow.lt lX.out))
   have hNew:PtN w (.slice va _ YH) (rs++[r]):=fun x hx=>by
    rcases List.mem_append.1 hx with hx | hx
    ·
     intro hn b off e;have h1:=HN.out x hx hn b off e;obtain ⟨j,hj,e2⟩:=List.getElem_of_mem hx;have h2:=(HE2.out.each j hj).parts.inp (by rw [e2];exact hn) b off (by rw [e2];exact e);refine ⟨h1.1,fun z=>?_⟩;rcases at3 with y | y
     ·
      rw [y] at z;exact h1.2 z
     ·
      rw [y] at z;cases z
      omega
    ·
     rw [List.mem_singleton.1 hx];intro hn b off e;have h1:=HA2.out hn b off e;have h2:=Xt.out.parts.inp hn b off e;refine ⟨by omega,fun z=>?_⟩;rcases at3 with y | y
     ·
      rw [y] at z;have:=(Vb.out b z).2;omega
     ·
      rw [y] at z;cases z
      omega
   have hE3:Bl.Each w3 (rs++[r]) (L++[(Im.fE bs sk).1]):=by
    have e1:=(HE2.out.add Xt.out).below hb2;refine e1.kR (P:=fun b=>(Value.slice vo q vc).ownBlock≠some b) (fun x hx=>?_) (QZ ou fun b hb=>hb);rcases List.mem_append.1 hx with hx | hx
    · exact (HN.out x hx).mono fun b hb=>hb.2
    ·
     rw [List.mem_singleton.1 hx];intro hn b off e z;have h1:=HA2.out hn b off e;have:=(Vb.out b z).2;omega
   have hY3:zL w3 w.heap.size (.slice va (rs++[r]).length YH) (rs++[r]) (L++[(Im.fE bs sk).1]):=by
    have hlen:(rs++[r]).length=(L++[(Im.fE bs sk).1]).length:=by
     rw [List.length_append,List.length_append,HE2.out.len];rfl
    refine ((mP.out.keep (u:=w2.alloc (Pd.block r)) fun i hi g hg=>?_).keep fun i hi g hg=>?_).move fun i hi b e=>?_
    · exact hb2.block g (mP.out.lt hlen i hi g hg).2
    · exact ou.block g (by have:=(mP.out.lt hlen i hi g hg).2;omega) (fun z=>mP.out.off i hi g hg z.symm)
    ·
     rcases at3 with y | y
     ·
      rw [y];exact mP.out.off i hi b e
     ·
      rw [y];intro z;cases z
      have:=(mP.out.lt hlen i hi _ e).2;omega
   have xR:=Lh hY3;clear hY3;have ow:=Lh o3;have Ub:=Lh hE3;have HN3:=Lh hNew;clear ou o3 at3 hE3 hNew hb2 hs2 hz;go_wp2_with fail;go_roundw
   case rel =>
    refine ⟨k+1,_,_,_,rs++[r],by omega,by go_num,rfl,Lh ?_,ow,Lh ?_,HN3,Lh ?_⟩
    ·
     rw [nS.out.2];exact HI3.out
    ·
     rw [nS.out.1];exact Ub.out
    ·
     rw [nS.out.1];exact xR.out
   case measure=>simp [intOf];omega
  ·
   obtain rfl:k=N:=by omega
   have HQ:Hid (Im.dn bs most (Im.fE bs) s=Im.bC (Im.fE bs) k s1):=Lh (by
    unfold Im.dn;rw [HV.out];dsimp only;rw [Int.toNat_natCast])
   go_wp2_with fail;go_ret;rw [HQ.out];exact ⟨_,rs,rfl,HO.out,HE.out,HN.out,HY.out,HI.out.rd,HI.out.upd⟩
open Vt (Rt)
def oV (w:World) (g:Nat) (ts:List Rt):Prop:=w.heap[g]? =some (.cells (ts.flatMap rv).toArray 52 (0,0))
theorem oV.row {ts:List Rt} (h:oV w g ts) (k:Nat) (hk:k < ts.length):zq w g (k*5) ts[k]:=by
 have hc:∀ p,p < 5->w.cell? ⟨g,k*5+p,none⟩=(rv ts[k])[p]? :=by
  intro p hp;rw [cell_of_row w g _ _ _ _ h,<- aS ts k p hk hp]
  simp
 exact ⟨hc 0 (by omega),hc 1 (by omega),hc 2 (by omega),hc 3 (by omega),hc 4 (by omega)⟩
theorem oV.rts {ts zs:List Rt} (h:oV w g (ts++zs)) (n cap:Nat) (hn:n=ts.length) (hc:n<=cap) (hm:cap<=9223372036854775807) (hs:∀ r∈ts,Short r):om w (some ⟨g,0,none⟩) n cap ts:=by
 refine ⟨hn,hc,hm,(fun k=>by cases k),.inr ⟨g,0,rfl,fun k hk=>?_⟩,hs⟩;have hr:=h.row k (by rw [List.length_append];omega);rw [List.getElem_append_left hk] at hr;rw [Nat.zero_add];exact hr
def zM:Rt:=⟨.empty,0,0,0,0⟩
def zeroV:Value:=.agg #[.string .empty,.int .i64 0,.int .i64 0,.int .i64 0,.int .i64 0]
def jX (n:Nat):Array Value:=((List.replicate n zM).flatMap rv).toArray
theorem Xu:(Tryz.prog.info? 52).map (fun i=>(i.zero,i.size,i.bytes))=some (some zeroV,5,48):=by kernel_rfl
theorem lH:(Tryz.prog.info? 52).map (·.size)=some 5:=by kernel_rfl
theorem BG (n:Nat):madeCells zeroV.cells (n*5)=jX n:=by
 apply Array.ext_getElem?;intro j;by_cases hj:j < n*5
 ·
  obtain ⟨k,p,rfl,hp⟩:∃ k p,j=k*5+p/\p < 5:=⟨j / 5,j % 5,by omega,by omega⟩;have hk:k < n:=by omega
  have hz:(jX n)[k*5+p]? =(rv zM)[p]? :=by
   unfold jX;rw [List.getElem?_toArray,aS (List.replicate n zM) k p (by simpa using hk) hp,List.getElem_replicate]
  rw [hz];have e:(k*5+p) % 5=p:=by omega
  have hp':p=0\/p=1\/p=2\/p=3\/p=4:=by omega
  unfold madeCells;rw [Array.getElem?_map,Array.getElem?_range,if_pos hj];simp only [Option.map_some];rw [show zeroV.cells.size=5 from rfl,e];rcases hp' with rfl | rfl | rfl | rfl | rfl <;> rfl
 ·
  rw [Array.getElem?_eq_none (by rw [size_madeCells];omega),Array.getElem?_eq_none];unfold jX;rw [List.size_toArray,aB,List.length_replicate];omega
theorem M4 (n:Nat) (hn:n<=1000) (u:World):(Instr.makeSlice 24 (.int .i64 (n:Int)) (.int .i64 (n:Int))).run Tryz.prog u =
  .ok (.slice (some ⟨u.heap.size,0,none⟩) n n) (u.alloc (.cells (jX n) 52)):=by
 obtain ⟨i0,hi,hz0,hz1,hz2⟩:=info_parts Xu;have h:=run_make (P:=Tryz.prog) u 24 52 i0 zeroV Tryz.underlying24 hi hz0 .i64 .i64 (n:Int) (n:Int) (by omega) (Int.le_refl _) (by rw [hz2];omega) (by omega);rw [hz1,Int.toNat_natCast,BG] at h;exact h
theorem aZ (u:World) (n:Nat):oV (u.alloc (.cells (jX n) 52)) u.heap.size (List.replicate n zM):=heap_alloc_new u _
theorem M5 (u:World) (g:Nat) (ts:List Rt) (dCap:Nat) (ao:Option Addr) (n cap:Nat) (rs:List Rt) (hb:oV u g (List.replicate n zM++ts)) (hn:n=rs.length) (hs:E5 u ao rs) :
  ∃ u',(Builtin.copy_ #[24,24] 3 #[.slice (some ⟨g,0,none⟩) (n+ts.length) dCap,.slice ao n cap]).run Tryz.prog u=.ok (goInt n) u'/\oV u' g (rs++ts)/\(∀ B w0,Below B w0 u->B<=g->Below B w0 u')/\u'.heap.size=u.heap.size:=by
 obtain ⟨i0,hi,hi5⟩:=Option.map_eq_some_iff.1 lH;have hmin:Nat.min n (n+ts.length)=n:=Nat.min_eq_left (by omega);rcases hs with e | ⟨b,off,rfl,hc⟩
 ·
  subst e;obtain rfl:n=0:=hn;refine ⟨u,?_,by simpa using hb,fun _ _ h _=>h,rfl⟩;have hl:∀ (x:Addr),(loadCells x 0).run Tryz.prog u=.ok #[] u:=fun x=>by simpa using run_loadCells_list (P:=Tryz.prog) u x [] (by simp)
  cases ao <;> simp [Builtin.copy_,run_underlying Tryz.underlying24,Builtin.lenOf,Builtin.firstCells,sizeOf,typeInfo,hi,storeCells,hl]
 ·
  have hl:=run_loadCells_list (P:=Tryz.prog) u ⟨b,off,none⟩ (rs.flatMap rv) (fun j v hv=>dA hc j v hv);have hst:=run_storeCells_at Tryz.prog g 0 52 (rs.flatMap rv) 0 _ u hb (by rw [List.size_toArray,aB,aB,List.length_append,List.length_replicate];omega) (oneR rs);have hlen:(rs.flatMap rv).length=n*5:=by rw [aB,hn]
  have e:(((List.replicate n zM++ts).flatMap rv).toArray.toList.take (0+0)++rs.flatMap rv++((List.replicate n zM++ts).flatMap rv).toArray.toList.drop (0+0+(rs.flatMap rv).length))=(rs++ts).flatMap rv:=by
   rw [List.toList_toArray,List.take_zero,List.nil_append,Nat.zero_add,hlen,List.flatMap_append,List.flatMap_append,List.drop_left' (by rw [aB,List.length_replicate])]
  rw [e] at hst;refine ⟨u.setRow g ((rs++ts).flatMap rv).toArray,?_,setRow_heap u g _ _ 52 _ hb,fun B w0 h hB=>below_setRow h hB _,by simp [World.setRow]⟩;rw [hlen] at hl;simp [Builtin.copy_,run_underlying Tryz.underlying24,Builtin.lenOf,Builtin.firstCells,sizeOf,typeInfo,hi,hi5,hmin,hl,hst]
end Go.Proofs.YtpfdnemaaeolcaaGreat
namespace Go.Proofs.YtpfdnemaaeolcaaGreat.Sr
open Go.RowKit
open Mem
def Block (w:World) (g:Nat) (ts:List T):Prop:=w.heap[g]? =some (.cells (ts.flatMap rv).toArray 77 (0,0))
theorem Block.row {ts:List T} (h:Block w g ts) (k:Nat) (hk:k < ts.length):At w g (k*4) ts[k]:=by
 have hcell:∀ p,p < 4->w.cell? ⟨g,k*4+p,none⟩=(rv ts[k])[p]? :=by
  intro p hp;rw [cell_of_row w g _ _ _ _ h,<- aS ts k p hk hp]
  simp
 exact ⟨hcell 0 (by omega),hcell 1 (by omega),hcell 2 (by omega),hcell 3 (by omega)⟩
theorem Block.ls {ts zs:List T} (h:Block w g (ts++zs)) (n cap:Nat) (hn:n=ts.length) (hc:n<=cap) (hm:cap<=9223372036854775807) (hs:∀ r∈ts,Short r):Ls w (some ⟨g,0,none⟩) n cap ts:=by
 refine ⟨hn,hc,hm,(fun k=>by cases k),.inr ⟨g,0,rfl,fun k hk=>?_⟩,hs⟩;have hr:=h.row k (by rw [List.length_append];omega);rw [List.getElem_append_left hk] at hr;rw [Nat.zero_add];exact hr
def zeros (n:Nat):Array Value:=((List.replicate n zero).flatMap rv).toArray
theorem lH:(Tryz.prog.info? 77).map (·.size)=some 4:=by kernel_rfl
theorem made (n:Nat):madeCells zeroV.cells (n*4)=zeros n:=by
 apply Array.ext_getElem?;intro j;by_cases hj:j < n*4
 ·
  obtain ⟨k,p,rfl,hp⟩:∃ k p,j=k*4+p/\p < 4:=⟨j / 4,j % 4,by omega,by omega⟩;have hk:k < n:=by omega
  have hz:(zeros n)[k*4+p]? =(rv zero)[p]? :=by
   unfold zeros;rw [List.getElem?_toArray,aS (List.replicate n zero) k p (by simpa using hk) hp,List.getElem_replicate]
  rw [hz];have e:(k*4+p) % 4=p:=by omega
  have hp':p=0\/p=1\/p=2\/p=3:=by omega
  unfold madeCells;rw [Array.getElem?_map,Array.getElem?_range,if_pos hj];simp only [Option.map_some];rw [show zeroV.cells.size=4 from rfl,e];rcases hp' with rfl | rfl | rfl | rfl <;> rfl
 ·
  rw [Array.getElem?_eq_none (by rw [size_madeCells];omega),Array.getElem?_eq_none];unfold zeros;rw [List.size_toArray,aB,List.length_replicate];omega
theorem make (n:Nat) (hn:n<=100000) (u:World):(Instr.makeSlice 25 (.int .i64 (n:Int)) (.int .i64 (n:Int))).run Tryz.prog u =
  .ok (.slice (some ⟨u.heap.size,0,none⟩) n n) (u.alloc (.cells (zeros n) 77)):=by
 obtain ⟨i0,hi,hz0,hz1,hz2⟩:=info_parts info;have h:=run_make (P:=Tryz.prog) u 25 77 i0 zeroV Tryz.underlying25 hi hz0 .i64 .i64 (n:Int) (n:Int) (by omega) (Int.le_refl _) (by rw [hz2];omega) (by omega);rw [hz1,Int.toNat_natCast,made] at h;exact h
theorem aZ (u:World) (n:Nat):Block (u.alloc (.cells (zeros n) 77)) u.heap.size (List.replicate n zero):=heap_alloc_new u _
theorem copy (u:World) (g:Nat) (ts:List T) (dCap:Nat) (ao:Option Addr) (n cap:Nat) (rs:List T) (hb:Block u g (List.replicate n zero++ts)) (hn:n=rs.length) (hs:Seg u ao rs) :
  ∃ u',(Builtin.copy_ #[25,25] 3 #[.slice (some ⟨g,0,none⟩) (n+ts.length) dCap,.slice ao n cap]).run Tryz.prog u=.ok (goInt n) u'/\Block u' g (rs++ts)/\(∀ B w0,Below B w0 u->B<=g->Below B w0 u')/\u'.heap.size=u.heap.size:=by
 obtain ⟨i0,hi,hiK⟩:=Option.map_eq_some_iff.1 lH;have hmin:Nat.min n (n+ts.length)=n:=Nat.min_eq_left (by omega);rcases hs with e | ⟨b,off,rfl,hc⟩
 ·
  subst e;obtain rfl:n=0:=hn;refine ⟨u,?_,by simpa using hb,fun _ _ h _=>h,rfl⟩;have hl:∀ (x:Addr),(loadCells x 0).run Tryz.prog u=.ok #[] u:=fun x=>by simpa using run_loadCells_list (P:=Tryz.prog) u x [] (by simp)
  cases ao <;> simp [Builtin.copy_,run_underlying Tryz.underlying25,Builtin.lenOf,Builtin.firstCells,sizeOf,typeInfo,hi,storeCells,hl]
 ·
  have hl:=run_loadCells_list (P:=Tryz.prog) u ⟨b,off,none⟩ (rs.flatMap rv) (fun j v hv=>dA hc j v hv);have hst:=run_storeCells_at Tryz.prog g 0 77 (rs.flatMap rv) 0 _ u hb (by rw [List.size_toArray,aB,aB,List.length_append,List.length_replicate];omega) (one_cell rs);have hlen:(rs.flatMap rv).length=n*4:=by rw [aB,hn]
  have e:(((List.replicate n zero++ts).flatMap rv).toArray.toList.take (0+0)++rs.flatMap rv++((List.replicate n zero++ts).flatMap rv).toArray.toList.drop (0+0+(rs.flatMap rv).length))=(rs++ts).flatMap rv:=by
   rw [List.toList_toArray,List.take_zero,List.nil_append,Nat.zero_add,hlen,List.flatMap_append,List.flatMap_append,List.drop_left' (by rw [aB,List.length_replicate])]
  rw [e] at hst;refine ⟨u.setRow g ((rs++ts).flatMap rv).toArray,?_,setRow_heap u g _ _ 77 _ hb,fun B w0 h hB=>below_setRow h hB _,by simp [World.setRow]⟩;rw [hlen] at hl;simp [Builtin.copy_,run_underlying Tryz.underlying25,Builtin.lenOf,Builtin.firstCells,sizeOf,typeInfo,hi,hiK,hmin,hl,hst]
theorem dH {M:List T} (h:Own w B (.slice (some ⟨g,0,none⟩) n cap) M) (k:Nat) (hk:k < M.length):At w g (k*4) M[k]/\(∀ o,w.frozen? ⟨g,o,none⟩=false)/\B<=g:=by
 rcases h.2 with ⟨h',_⟩ | ⟨g',cap',cur,h',hb,hg,hnc,hcm,hcs,htake⟩
 · cases h'
 ·
  simp only [Value.slice.injEq,Option.some.injEq,Addr.mk.injEq,and_true] at h';obtain ⟨e1,e2,e3⟩:=h';subst e1 e3
  have hcell:∀ p,p < 4->w.cell? ⟨g,k*4+p,none⟩=(rv M[k])[p]? :=by
   intro p hp;rw [cell_of_row w g _ _ _ _ hg,<- aS M k p hk hp,<- htake,List.getElem?_take_of_lt (by omega)]
   simp
  exact ⟨⟨hcell 0 (by omega),hcell 1 (by omega),hcell 2 (by omega),hcell 3 (by omega)⟩,fun o=>frozen_of_row w g o _ _ hg,hb⟩
end Go.Proofs.YtpfdnemaaeolcaaGreat.Sr
namespace Go.Proofs.YtpfdnemaaeolcaaGreat.Pd
open Go.RowKit
open Mem
def Block (w:World) (g:Nat) (ts:List T):Prop:=w.heap[g]? =some (.cells (ts.flatMap rv).toArray 104 (0,0))
theorem Block.lt {ts:List T} (h:Block w g ts):g < w.heap.size:=by
 obtain ⟨hg,_⟩:=Array.getElem?_eq_some_iff.1 h;exact hg
theorem Block.row {ts:List T} (h:Block w g ts) (k:Nat) (hk:k < ts.length):At w g (k*12) ts[k]:=by
 have hcell:∀ p,p < 12->w.cell? ⟨g,k*12+p,none⟩=(rv ts[k])[p]? :=by
  intro p hp;rw [cell_of_row w g _ _ _ _ h,<- aS ts k p hk hp]
  simp
 exact ⟨hcell 0 (by omega),hcell 1 (by omega),hcell 2 (by omega),hcell 3 (by omega),hcell 4 (by omega),hcell 5 (by omega),hcell 6 (by omega),hcell 7 (by omega),hcell 8 (by omega),hcell 9 (by omega),hcell 10 (by omega),hcell 11 (by omega)⟩
theorem Block.frozen {w:World} {g:Nat} {ts:List T} (h:Block w g ts) (k:Nat):w.frozen? ⟨g,k,none⟩=false:=frozen_of_row w g k _ _ h
def zeros (n:Nat):Array Value:=((List.replicate n zero).flatMap rv).toArray
theorem lH:(Tryz.prog.info? 104).map (·.size)=some 12:=by kernel_rfl
theorem made (n:Nat):madeCells zeroV.cells (n*12)=zeros n:=by
 apply Array.ext_getElem?;intro j;by_cases hj:j < n*12
 ·
  obtain ⟨k,p,rfl,hp⟩:∃ k p,j=k*12+p/\p < 12:=⟨j / 12,j % 12,by omega,by omega⟩;have hk:k < n:=by omega
  have hz:(zeros n)[k*12+p]? =(rv zero)[p]? :=by
   unfold zeros;rw [List.getElem?_toArray,aS (List.replicate n zero) k p (by simpa using hk) hp,List.getElem_replicate]
  rw [hz];have e:(k*12+p) % 12=p:=by omega
  have hp':p=0\/p=1\/p=2\/p=3\/p=4\/p=5\/p=6\/p=7\/p=8\/p=9\/p=10\/p=11:=by omega
  unfold madeCells;rw [Array.getElem?_map,Array.getElem?_range,if_pos hj];simp only [Option.map_some];rw [show zeroV.cells.size=12 from rfl,e];rcases hp' with rfl | rfl | rfl | rfl | rfl | rfl | rfl | rfl | rfl | rfl | rfl | rfl <;> rfl
 ·
  rw [Array.getElem?_eq_none (by rw [size_madeCells];omega),Array.getElem?_eq_none];unfold zeros;rw [List.size_toArray,aB,List.length_replicate];omega
theorem make (n:Nat) (hn:n<=100000) (u:World):(Instr.makeSlice 26 (.int .i64 (n:Int)) (.int .i64 (n:Int))).run Tryz.prog u =
  .ok (.slice (some ⟨u.heap.size,0,none⟩) n n) (u.alloc (.cells (zeros n) 104)):=by
 obtain ⟨i0,hi,hz0,hz1,hz2⟩:=info_parts info;have h:=run_make (P:=Tryz.prog) u 26 104 i0 zeroV Tryz.underlying26 hi hz0 .i64 .i64 (n:Int) (n:Int) (by omega) (Int.le_refl _) (by rw [hz2];omega) (by omega);rw [hz1,Int.toNat_natCast,made] at h;exact h
theorem aZ (u:World) (n:Nat):Block (u.alloc (.cells (zeros n) 104)) u.heap.size (List.replicate n zero):=heap_alloc_new u _
theorem copy (u:World) (g:Nat) (ts:List T) (dCap:Nat) (ao:Option Addr) (n cap:Nat) (rs:List T) (hb:Block u g (List.replicate n zero++ts)) (hn:n=rs.length) (hs:Seg u ao rs) :
  ∃ u',(Builtin.copy_ #[26,26] 3 #[.slice (some ⟨g,0,none⟩) (n+ts.length) dCap,.slice ao n cap]).run Tryz.prog u=.ok (goInt n) u'/\Block u' g (rs++ts)/\(∀ B w0,Below B w0 u->B<=g->Below B w0 u')/\u'.heap.size=u.heap.size:=by
 obtain ⟨i0,hi,hiK⟩:=Option.map_eq_some_iff.1 lH;have hmin:Nat.min n (n+ts.length)=n:=Nat.min_eq_left (by omega);rcases hs with e | ⟨b,off,rfl,hc⟩
 ·
  subst e;obtain rfl:n=0:=hn;refine ⟨u,?_,by simpa using hb,fun _ _ h _=>h,rfl⟩;have hl:∀ (x:Addr),(loadCells x 0).run Tryz.prog u=.ok #[] u:=fun x=>by simpa using run_loadCells_list (P:=Tryz.prog) u x [] (by simp)
  cases ao <;> simp [Builtin.copy_,run_underlying Tryz.underlying26,Builtin.lenOf,Builtin.firstCells,sizeOf,typeInfo,hi,storeCells,hl]
 ·
  have hl:=run_loadCells_list (P:=Tryz.prog) u ⟨b,off,none⟩ (rs.flatMap rv) (fun j v hv=>dA hc j v hv);have hst:=run_storeCells_at Tryz.prog g 0 104 (rs.flatMap rv) 0 _ u hb (by rw [List.size_toArray,aB,aB,List.length_append,List.length_replicate];omega) (one_cell rs);have hlen:(rs.flatMap rv).length=n*12:=by rw [aB,hn]
  have e:(((List.replicate n zero++ts).flatMap rv).toArray.toList.take (0+0)++rs.flatMap rv++((List.replicate n zero++ts).flatMap rv).toArray.toList.drop (0+0+(rs.flatMap rv).length))=(rs++ts).flatMap rv:=by
   rw [List.toList_toArray,List.take_zero,List.nil_append,Nat.zero_add,hlen,List.flatMap_append,List.flatMap_append,List.drop_left' (by rw [aB,List.length_replicate])]
  rw [e] at hst;refine ⟨u.setRow g ((rs++ts).flatMap rv).toArray,?_,setRow_heap u g _ _ 104 _ hb,fun B w0 h hB=>below_setRow h hB _,by simp [World.setRow]⟩;rw [hlen] at hl;simp [Builtin.copy_,run_underlying Tryz.underlying26,Builtin.lenOf,Builtin.firstCells,sizeOf,typeInfo,hi,hiK,hmin,hl,hst]
theorem dH {M:List T} (h:Own w B (.slice (some ⟨g,0,none⟩) n cap) M) (k:Nat) (hk:k < M.length):At w g (k*12) M[k]/\(∀ o,w.frozen? ⟨g,o,none⟩=false)/\B<=g:=by
 rcases h.2 with ⟨h',_⟩ | ⟨g',cap',cur,h',hb,hg,hnc,hcm,hcs,htake⟩
 · cases h'
 ·
  simp only [Value.slice.injEq,Option.some.injEq,Addr.mk.injEq,and_true] at h';obtain ⟨e1,e2,e3⟩:=h';subst e1 e3
  have hcell:∀ p,p < 12->w.cell? ⟨g,k*12+p,none⟩=(rv M[k])[p]? :=by
   intro p hp;rw [cell_of_row w g _ _ _ _ hg,<- aS M k p hk hp,<- htake,List.getElem?_take_of_lt (by omega)]
   simp
  exact ⟨⟨hcell 0 (by omega),hcell 1 (by omega),hcell 2 (by omega),hcell 3 (by omega),hcell 4 (by omega),hcell 5 (by omega),hcell 6 (by omega),hcell 7 (by omega),hcell 8 (by omega),hcell 9 (by omega),hcell 10 (by omega),hcell 11 (by omega)⟩,fun o=>frozen_of_row w g o _ _ hg,hb⟩
theorem jU (r:T) (p:Nat) (x:Value) (hp:p < 12):∀ (M:List T) (k:Nat) (hk:k < M.length),rv r=(rv M[k]).set p x->(M.set k r).flatMap rv=(M.flatMap rv).set (k*12+p) x
 | a::l,0,_,h=>by
  have h':rv r=(rv a).set p x:=h;rw [List.set_cons_zero,List.flatMap_cons,List.flatMap_cons,Nat.zero_mul,Nat.zero_add,List.set_append_left _ _ (by rw [aM];exact hp),h']
 | a::l,k+1,hk,h=>by
  have ih:=jU r p x hp l k (by simpa using hk) (by simpa using h);rw [List.set_cons_succ,List.flatMap_cons,List.flatMap_cons,List.set_append_right _ _ (by rw [aM];omega),aM,show (k+1)*12+p - 12=k*12+p by omega,ih]
theorem jo {M:List T} (h:Own w B (.slice (some ⟨g,0,none⟩) n cap) M) (k p:Nat) (hk:k < M.length) (hp:p < 12) (x:Value) (r:T) (hr:rv r=(rv M[k]).set p x) :
  Own (w.setCell ⟨g,k*12+p,none⟩ x) B (.slice (some ⟨g,0,none⟩) n cap) (M.set k r):=by
 rcases h.2 with ⟨h',_⟩ | ⟨g',cap',cur,h',hb,hg,hnc,hcm,hcs,htake⟩
 · cases h'
 ·
  simp only [Value.slice.injEq,Option.some.injEq,Addr.mk.injEq,and_true] at h';obtain ⟨e1,e2,e3⟩:=h';subst e1 e3;have h1:=heap_setCell_same _ g (k*12+p) _ _ x hg;refine ⟨by rw [aB],.inr ⟨g,cap,_,by rw [List.length_set,e2],hb,h1,by rw [List.length_set];exact hnc,hcm,by simpa using hcs,?_⟩⟩;rw [List.length_set,jU r p x hp M k hk hr];simp only [Array.toList_setIfInBounds];rw [<- htake];simp only [List.take_set]
theorem fG {M:List T} (h:Block w g M) (hB:B<=g) (hn:n=M.length) (hm:n<=100000):Own w B (.slice (some ⟨g,0,none⟩) n n) M:=by
 subst hn;exact ⟨by rw [aB],.inr ⟨g,M.length,_,rfl,hB,h,Nat.le_refl _,by have:maxLen=9223372036854775807:=rfl;omega,by rw [List.size_toArray,aB],List.take_of_length_le (by show (M.flatMap rv).length<=_;rw [aB];exact Nat.le_refl _)⟩⟩
theorem rW {v:Value} {M:List T} (h:Own w B v M) {b:Nat} (hne:b < B) (o:Nat) (x:Value):Own (w.setCell ⟨b,o,none⟩ x) B v M:=by
 obtain ⟨h1,h2⟩:=h;refine ⟨h1,?_⟩;rcases h2 with h2 | ⟨g,cap,cur,h',hb,hg,h3⟩
 · exact .inl h2
 · exact .inr ⟨g,cap,cur,h',hb,by rw [heap_setCell_other w ⟨b,o,none⟩ g x (by show g≠b;omega)];exact hg,h3⟩
theorem jh (n:Nat) (hn:n<=1000) (u:World):(Instr.makeSlice 26 (.int .i64 0) (.int .i64 ((n:Int)+1))).run Tryz.prog u =
  .ok (.slice (some ⟨u.heap.size,0,none⟩) 0 (n+1)) (u.alloc (.cells (zeros (n+1)) 104)):=by
 obtain ⟨i0,hi,hz0,hz1,hz2⟩:=info_parts info;have h:=run_make (P:=Tryz.prog) u 26 104 i0 zeroV Tryz.underlying26 hi hz0 .i64 .i64 0 ((n:Int)+1) (by omega) (by omega) (by rw [hz2];omega) (by omega);rw [hz1,show ((n:Int)+1).toNat=n+1 from by omega,made] at h;exact h
theorem eT (u:World) (B c:Nat) (hB:B<=u.heap.size) (hc:c<=1000):Own (u.alloc (.cells (zeros c) 104)) B (.slice (some ⟨u.heap.size,0,none⟩) 0 c) [] :=
 ⟨rfl,.inr ⟨u.heap.size,c,zeros c,rfl,hB,heap_alloc_new u _,Nat.zero_le _,by have:maxLen=9223372036854775807:=rfl;omega,by unfold zeros;rw [List.size_toArray,aB,List.length_replicate],rfl⟩⟩
end Go.Proofs.YtpfdnemaaeolcaaGreat.Pd
namespace Go.Proofs.YtpfdnemaaeolcaaGreat.Ba
open Go.RowKit
open Mem
def Block (w:World) (g:Nat) (ts:List T):Prop:=w.heap[g]? =some (.cells (ts.flatMap rv).toArray 81 (0,0))
theorem Block.row {ts:List T} (h:Block w g ts) (k:Nat) (hk:k < ts.length):At w g (k*2) ts[k]:=by
 have hcell:∀ p,p < 2->w.cell? ⟨g,k*2+p,none⟩=(rv ts[k])[p]? :=by
  intro p hp;rw [cell_of_row w g _ _ _ _ h,<- aS ts k p hk hp]
  simp
 exact ⟨hcell 0 (by omega),hcell 1 (by omega)⟩
theorem Block.ls {ts zs:List T} (h:Block w g (ts++zs)) (n cap:Nat) (hn:n=ts.length) (hc:n<=cap) (hm:cap<=9223372036854775807) (hs:∀ r∈ts,Short r):Ls w (some ⟨g,0,none⟩) n cap ts:=by
 refine ⟨hn,hc,hm,(fun k=>by cases k),.inr ⟨g,0,rfl,fun k hk=>?_⟩,hs⟩;have hr:=h.row k (by rw [List.length_append];omega);rw [List.getElem_append_left hk] at hr;rw [Nat.zero_add];exact hr
def zeros (n:Nat):Array Value:=((List.replicate n zero).flatMap rv).toArray
theorem lH:(Tryz.prog.info? 81).map (·.size)=some 2:=by kernel_rfl
theorem made (n:Nat):madeCells zeroV.cells (n*2)=zeros n:=by
 apply Array.ext_getElem?;intro j;by_cases hj:j < n*2
 ·
  obtain ⟨k,p,rfl,hp⟩:∃ k p,j=k*2+p/\p < 2:=⟨j / 2,j % 2,by omega,by omega⟩;have hk:k < n:=by omega
  have hz:(zeros n)[k*2+p]? =(rv zero)[p]? :=by
   unfold zeros;rw [List.getElem?_toArray,aS (List.replicate n zero) k p (by simpa using hk) hp,List.getElem_replicate]
  rw [hz];have e:(k*2+p) % 2=p:=by omega
  have hp':p=0\/p=1:=by omega
  unfold madeCells;rw [Array.getElem?_map,Array.getElem?_range,if_pos hj];simp only [Option.map_some];rw [show zeroV.cells.size=2 from rfl,e];rcases hp' with rfl | rfl <;> rfl
 ·
  rw [Array.getElem?_eq_none (by rw [size_madeCells];omega),Array.getElem?_eq_none];unfold zeros;rw [List.size_toArray,aB,List.length_replicate];omega
theorem make (n:Nat) (hn:n<=100000) (u:World):(Instr.makeSlice 27 (.int .i64 (n:Int)) (.int .i64 (n:Int))).run Tryz.prog u =
  .ok (.slice (some ⟨u.heap.size,0,none⟩) n n) (u.alloc (.cells (zeros n) 81)):=by
 obtain ⟨i0,hi,hz0,hz1,hz2⟩:=info_parts info;have h:=run_make (P:=Tryz.prog) u 27 81 i0 zeroV Tryz.underlying27 hi hz0 .i64 .i64 (n:Int) (n:Int) (by omega) (Int.le_refl _) (by rw [hz2];omega) (by omega);rw [hz1,Int.toNat_natCast,made] at h;exact h
theorem aZ (u:World) (n:Nat):Block (u.alloc (.cells (zeros n) 81)) u.heap.size (List.replicate n zero):=heap_alloc_new u _
theorem copy (u:World) (g:Nat) (ts:List T) (dCap:Nat) (ao:Option Addr) (n cap:Nat) (rs:List T) (hb:Block u g (List.replicate n zero++ts)) (hn:n=rs.length) (hs:Seg u ao rs) :
  ∃ u',(Builtin.copy_ #[27,27] 3 #[.slice (some ⟨g,0,none⟩) (n+ts.length) dCap,.slice ao n cap]).run Tryz.prog u=.ok (goInt n) u'/\Block u' g (rs++ts)/\(∀ B w0,Below B w0 u->B<=g->Below B w0 u')/\u'.heap.size=u.heap.size:=by
 obtain ⟨i0,hi,hiK⟩:=Option.map_eq_some_iff.1 lH;have hmin:Nat.min n (n+ts.length)=n:=Nat.min_eq_left (by omega);rcases hs with e | ⟨b,off,rfl,hc⟩
 ·
  subst e;obtain rfl:n=0:=hn;refine ⟨u,?_,by simpa using hb,fun _ _ h _=>h,rfl⟩;have hl:∀ (x:Addr),(loadCells x 0).run Tryz.prog u=.ok #[] u:=fun x=>by simpa using run_loadCells_list (P:=Tryz.prog) u x [] (by simp)
  cases ao <;> simp [Builtin.copy_,run_underlying Tryz.underlying27,Builtin.lenOf,Builtin.firstCells,sizeOf,typeInfo,hi,storeCells,hl]
 ·
  have hl:=run_loadCells_list (P:=Tryz.prog) u ⟨b,off,none⟩ (rs.flatMap rv) (fun j v hv=>dA hc j v hv);have hst:=run_storeCells_at Tryz.prog g 0 81 (rs.flatMap rv) 0 _ u hb (by rw [List.size_toArray,aB,aB,List.length_append,List.length_replicate];omega) (one_cell rs);have hlen:(rs.flatMap rv).length=n*2:=by rw [aB,hn]
  have e:(((List.replicate n zero++ts).flatMap rv).toArray.toList.take (0+0)++rs.flatMap rv++((List.replicate n zero++ts).flatMap rv).toArray.toList.drop (0+0+(rs.flatMap rv).length))=(rs++ts).flatMap rv:=by
   rw [List.toList_toArray,List.take_zero,List.nil_append,Nat.zero_add,hlen,List.flatMap_append,List.flatMap_append,List.drop_left' (by rw [aB,List.length_replicate])]
  rw [e] at hst;refine ⟨u.setRow g ((rs++ts).flatMap rv).toArray,?_,setRow_heap u g _ _ 81 _ hb,fun B w0 h hB=>below_setRow h hB _,by simp [World.setRow]⟩;rw [hlen] at hl;simp [Builtin.copy_,run_underlying Tryz.underlying27,Builtin.lenOf,Builtin.firstCells,sizeOf,typeInfo,hi,hiK,hmin,hl,hst]
theorem set_right {a:T} (X:List Value) (k p:Nat) (v:Value):(rv a++X).set ((k+1)*2+p) v=rv a++X.set (k*2+p) v:=by
 rw [List.set_append_right _ _ (by rw [aM];omega),aM,show (k+1)*2+p - 2=k*2+p by omega]
theorem je:∀ (ts:List T) (k:Nat) (r:T),k < ts.length->(ts.set k r).flatMap rv=(((ts.flatMap rv).set (k*2) (.string r.aF)).set (k*2+1) (.int .i64 r.dG))
 | a::l,0,r,_=>rfl
 | a::l,k+1,r,h=>by
  have ih:=je l k r (by simpa using h);have e0:=fun (X:List Value) (v:Value)=>set_right (a:=a) X k 0 v
  simp only [Nat.add_zero] at e0;rw [List.set_cons_succ,List.flatMap_cons,ih,List.flatMap_cons,e0,set_right]
theorem gL {w0:World} (h:Below B w0 w) (hg:B<=g) (k:Nat) (x0 x1:Value) :
  Below B w0 ((w.setCell ⟨g,k*2,none⟩ x0).setCell ⟨g,k*2+1,none⟩ x1) :=
 ((h.setCell hg x0).setCell hg x1)
theorem rZ {M:List T} (h:Own w B (.slice (some ⟨g,0,none⟩) n cap) M) (k:Nat) (hk:k < M.length) (r:T) :
  Own ((w.setCell ⟨g,k*2,none⟩ (.string r.aF)).setCell ⟨g,k*2+1,none⟩ (.int .i64 r.dG)) B (.slice (some ⟨g,0,none⟩) n cap) (M.set k r):=by
 rcases h.2 with ⟨h',_⟩ | ⟨g',cap',cur,h',hb,hg,hnc,hcm,hcs,htake⟩
 · cases h'
 ·
  simp only [Value.slice.injEq,Option.some.injEq,Addr.mk.injEq,and_true] at h';obtain ⟨e1,e2,e3⟩:=h';subst e1 e3;have h1:=heap_setCell_same _ g (k*2) _ _ (.string r.aF) hg;have h2:=heap_setCell_same _ g (k*2+1) _ _ (.int .i64 r.dG) h1;refine ⟨by rw [aB],.inr ⟨g,cap,_,by rw [List.length_set,e2],hb,h2,by rw [List.length_set];exact hnc,hcm,by simpa using hcs,?_⟩⟩;rw [List.length_set,je M k r hk];simp only [Array.toList_setIfInBounds];rw [<- htake];simp only [List.take_set]
theorem dH {M:List T} (h:Own w B (.slice (some ⟨g,0,none⟩) n cap) M) (k:Nat) (hk:k < M.length):At w g (k*2) M[k]/\(∀ o,w.frozen? ⟨g,o,none⟩=false)/\B<=g:=by
 rcases h.2 with ⟨h',_⟩ | ⟨g',cap',cur,h',hb,hg,hnc,hcm,hcs,htake⟩
 · cases h'
 ·
  simp only [Value.slice.injEq,Option.some.injEq,Addr.mk.injEq,and_true] at h';obtain ⟨e1,e2,e3⟩:=h';subst e1 e3
  have hcell:∀ p,p < 2->w.cell? ⟨g,k*2+p,none⟩=(rv M[k])[p]? :=by
   intro p hp;rw [cell_of_row w g _ _ _ _ hg,<- aS M k p hk hp,<- htake,List.getElem?_take_of_lt (by omega)]
   simp
  exact ⟨⟨hcell 0 (by omega),hcell 1 (by omega)⟩,fun o=>frozen_of_row w g o _ _ hg,hb⟩
theorem jU (r:T) (p:Nat) (x:Value) (hp:p < 2):∀ (M:List T) (k:Nat) (hk:k < M.length),rv r=(rv M[k]).set p x->(M.set k r).flatMap rv=(M.flatMap rv).set (k*2+p) x
 | a::l,0,_,h=>by
  have h':rv r=(rv a).set p x:=h;rw [List.set_cons_zero,List.flatMap_cons,List.flatMap_cons,Nat.zero_mul,Nat.zero_add,List.set_append_left _ _ (by rw [aM];exact hp),h']
 | a::l,k+1,hk,h=>by
  have ih:=jU r p x hp l k (by simpa using hk) (by simpa using h);rw [List.set_cons_succ,List.flatMap_cons,List.flatMap_cons,List.set_append_right _ _ (by rw [aM];omega),aM,show (k+1)*2+p - 2=k*2+p by omega,ih]
theorem jo {M:List T} (h:Own w B (.slice (some ⟨g,0,none⟩) n cap) M) (k p:Nat) (hk:k < M.length) (hp:p < 2) (x:Value) (r:T) (hr:rv r=(rv M[k]).set p x) :
  Own (w.setCell ⟨g,k*2+p,none⟩ x) B (.slice (some ⟨g,0,none⟩) n cap) (M.set k r):=by
 rcases h.2 with ⟨h',_⟩ | ⟨g',cap',cur,h',hb,hg,hnc,hcm,hcs,htake⟩
 · cases h'
 ·
  simp only [Value.slice.injEq,Option.some.injEq,Addr.mk.injEq,and_true] at h';obtain ⟨e1,e2,e3⟩:=h';subst e1 e3;have h1:=heap_setCell_same _ g (k*2+p) _ _ x hg;refine ⟨by rw [aB],.inr ⟨g,cap,_,by rw [List.length_set,e2],hb,h1,by rw [List.length_set];exact hnc,hcm,by simpa using hcs,?_⟩⟩;rw [List.length_set,jU r p x hp M k hk hr];simp only [Array.toList_setIfInBounds];rw [<- htake];simp only [List.take_set]
theorem fG {M:List T} (h:Block w g M) (hB:B<=g) (hn:n=M.length) (hm:n<=100000):Own w B (.slice (some ⟨g,0,none⟩) n n) M:=by
 subst hn;exact ⟨by rw [aB],.inr ⟨g,M.length,_,rfl,hB,h,Nat.le_refl _,by have:maxLen=9223372036854775807:=rfl;omega,by rw [List.size_toArray,aB],List.take_of_length_le (by show (M.flatMap rv).length<=_;rw [aB];exact Nat.le_refl _)⟩⟩
end Go.Proofs.YtpfdnemaaeolcaaGreat.Ba
namespace Go.Proofs.YtpfdnemaaeolcaaGreat.Sn
open Go.RowKit
open Mem
def Block (w:World) (g:Nat) (ts:List T):Prop:=w.heap[g]? =some (.cells (ts.flatMap rv).toArray 84 (0,0))
variable {ts:List T}
theorem Block.lt (h:Block w g ts):g < w.heap.size:=by
 obtain ⟨hg,_⟩:=Array.getElem?_eq_some_iff.1 h;exact hg
theorem Block.below (h:Block w g ts) (k:Below w.heap.size w u):Block u g ts:=(k.block g h.lt).trans h
theorem Block.row (h:Block w g ts) (k:Nat) (hk:k < ts.length):At w g (k*5) ts[k]:=by
 have hcell:∀ p,p < 5->w.cell? ⟨g,k*5+p,none⟩=(rv ts[k])[p]? :=by
  intro p hp;rw [cell_of_row w g _ _ _ _ h,<- aS ts k p hk hp]
  simp
 exact ⟨hcell 0 (by omega),hcell 1 (by omega),hcell 2 (by omega),hcell 3 (by omega),hcell 4 (by omega)⟩
theorem Block.ls {zs:List T} (h:Block w g (ts++zs)) (n cap:Nat) (hn:n=ts.length) (hc:n<=cap) (hm:cap<=9223372036854775807) (hs:∀ r∈ts,Short r):Ls w (some ⟨g,0,none⟩) n cap ts:=by
 refine ⟨hn,hc,hm,(fun k=>by cases k),.inr ⟨g,0,rfl,fun k hk=>?_⟩,hs⟩;have hr:=h.row k (by rw [List.length_append];omega);rw [List.getElem_append_left hk] at hr;rw [Nat.zero_add];exact hr
def zeros (n:Nat):Array Value:=((List.replicate n zero).flatMap rv).toArray
theorem lH:(Tryz.prog.info? 84).map (·.size)=some 5:=by kernel_rfl
theorem made (n:Nat):madeCells zeroV.cells (n*5)=zeros n:=by
 apply Array.ext_getElem?;intro j;by_cases hj:j < n*5
 ·
  obtain ⟨k,p,rfl,hp⟩:∃ k p,j=k*5+p/\p < 5:=⟨j / 5,j % 5,by omega,by omega⟩;have hk:k < n:=by omega
  have hz:(zeros n)[k*5+p]? =(rv zero)[p]? :=by
   unfold zeros;rw [List.getElem?_toArray,aS (List.replicate n zero) k p (by simpa using hk) hp,List.getElem_replicate]
  rw [hz];have e:(k*5+p) % 5=p:=by omega
  have hp':p=0\/p=1\/p=2\/p=3\/p=4:=by omega
  unfold madeCells;rw [Array.getElem?_map,Array.getElem?_range,if_pos hj];simp only [Option.map_some];rw [show zeroV.cells.size=5 from rfl,e];rcases hp' with rfl | rfl | rfl | rfl | rfl <;> rfl
 ·
  rw [Array.getElem?_eq_none (by rw [size_madeCells];omega),Array.getElem?_eq_none];unfold zeros;rw [List.size_toArray,aB,List.length_replicate];omega
theorem make (n:Nat) (hn:n<=100000) (u:World):(Instr.makeSlice 28 (.int .i64 (n:Int)) (.int .i64 (n:Int))).run Tryz.prog u =
  .ok (.slice (some ⟨u.heap.size,0,none⟩) n n) (u.alloc (.cells (zeros n) 84)):=by
 obtain ⟨i0,hi,hz0,hz1,hz2⟩:=info_parts info;have h:=run_make (P:=Tryz.prog) u 28 84 i0 zeroV Tryz.underlying28 hi hz0 .i64 .i64 (n:Int) (n:Int) (by omega) (Int.le_refl _) (by rw [hz2];omega) (by omega);rw [hz1,Int.toNat_natCast,made] at h;exact h
theorem aZ (u:World) (n:Nat):Block (u.alloc (.cells (zeros n) 84)) u.heap.size (List.replicate n zero):=heap_alloc_new u _
theorem copy (u:World) (g:Nat) (ts:List T) (dCap:Nat) (ao:Option Addr) (n cap:Nat) (rs:List T) (hb:Block u g (List.replicate n zero++ts)) (hn:n=rs.length) (hs:Seg u ao rs) :
  ∃ u',(Builtin.copy_ #[28,28] 3 #[.slice (some ⟨g,0,none⟩) (n+ts.length) dCap,.slice ao n cap]).run Tryz.prog u=.ok (goInt n) u'/\Block u' g (rs++ts)/\(∀ B w0,Below B w0 u->B<=g->Below B w0 u')/\u'.heap.size=u.heap.size:=by
 obtain ⟨i0,hi,hiK⟩:=Option.map_eq_some_iff.1 lH;have hmin:Nat.min n (n+ts.length)=n:=Nat.min_eq_left (by omega);rcases hs with e | ⟨b,off,rfl,hc⟩
 ·
  subst e;obtain rfl:n=0:=hn;refine ⟨u,?_,by simpa using hb,fun _ _ h _=>h,rfl⟩;have hl:∀ (x:Addr),(loadCells x 0).run Tryz.prog u=.ok #[] u:=fun x=>by simpa using run_loadCells_list (P:=Tryz.prog) u x [] (by simp)
  cases ao <;> simp [Builtin.copy_,run_underlying Tryz.underlying28,Builtin.lenOf,Builtin.firstCells,sizeOf,typeInfo,hi,storeCells,hl]
 ·
  have hl:=run_loadCells_list (P:=Tryz.prog) u ⟨b,off,none⟩ (rs.flatMap rv) (fun j v hv=>dA hc j v hv);have hst:=run_storeCells_at Tryz.prog g 0 84 (rs.flatMap rv) 0 _ u hb (by rw [List.size_toArray,aB,aB,List.length_append,List.length_replicate];omega) (one_cell rs);have hlen:(rs.flatMap rv).length=n*5:=by rw [aB,hn]
  have e:(((List.replicate n zero++ts).flatMap rv).toArray.toList.take (0+0)++rs.flatMap rv++((List.replicate n zero++ts).flatMap rv).toArray.toList.drop (0+0+(rs.flatMap rv).length))=(rs++ts).flatMap rv:=by
   rw [List.toList_toArray,List.take_zero,List.nil_append,Nat.zero_add,hlen,List.flatMap_append,List.flatMap_append,List.drop_left' (by rw [aB,List.length_replicate])]
  rw [e] at hst;refine ⟨u.setRow g ((rs++ts).flatMap rv).toArray,?_,setRow_heap u g _ _ 84 _ hb,fun B w0 h hB=>below_setRow h hB _,by simp [World.setRow]⟩;rw [hlen] at hl;simp [Builtin.copy_,run_underlying Tryz.underlying28,Builtin.lenOf,Builtin.firstCells,sizeOf,typeInfo,hi,hiK,hmin,hl,hst]
theorem set_right {a:T} (X:List Value) (k p:Nat) (v:Value):(rv a++X).set ((k+1)*5+p) v=rv a++X.set (k*5+p) v:=by
 rw [List.set_append_right _ _ (by rw [aM];omega),aM,show (k+1)*5+p - 5=k*5+p by omega]
theorem je:∀ (ts:List T) (k:Nat) (r:T),k < ts.length->(ts.set k r).flatMap rv=((((((ts.flatMap rv).set (k*5) (.int .i64 r.id)).set (k*5+1) (.int .i64 r.last)).set (k*5+2) (.int .i64 r.why)).set (k*5+3) (.int .i64 r.num)).set (k*5+4) (.int .i64 r.au))
 | a::l,0,r,_=>rfl
 | a::l,k+1,r,h=>by
  have ih:=je l k r (by simpa using h);have e0:=fun (X:List Value) (v:Value)=>set_right (a:=a) X k 0 v
  simp only [Nat.add_zero] at e0;rw [List.set_cons_succ,List.flatMap_cons,ih,List.flatMap_cons,e0,set_right,set_right,set_right,set_right]
theorem gL {w0:World} (h:Below B w0 w) (hg:B<=g) (k:Nat) (x0 x1 x2 x3 x4:Value) :
  Below B w0 (((((w.setCell ⟨g,k*5,none⟩ x0).setCell ⟨g,k*5+1,none⟩ x1).setCell ⟨g,k*5+2,none⟩ x2).setCell ⟨g,k*5+3,none⟩ x3).setCell ⟨g,k*5+4,none⟩ x4) :=
 (((((h.setCell hg x0).setCell hg x1).setCell hg x2).setCell hg x3).setCell hg x4)
theorem rZ {M:List T} (h:Own w B (.slice (some ⟨g,0,none⟩) n cap) M) (k:Nat) (hk:k < M.length) (r:T) :
  Own (((((w.setCell ⟨g,k*5,none⟩ (.int .i64 r.id)).setCell ⟨g,k*5+1,none⟩ (.int .i64 r.last)).setCell ⟨g,k*5+2,none⟩ (.int .i64 r.why)).setCell ⟨g,k*5+3,none⟩ (.int .i64 r.num)).setCell ⟨g,k*5+4,none⟩ (.int .i64 r.au)) B (.slice (some ⟨g,0,none⟩) n cap) (M.set k r):=by
 rcases h.2 with ⟨h',_⟩ | ⟨g',cap',cur,h',hb,hg,hnc,hcm,hcs,htake⟩
 · cases h'
 ·
  simp only [Value.slice.injEq,Option.some.injEq,Addr.mk.injEq,and_true] at h';obtain ⟨e1,e2,e3⟩:=h';subst e1 e3;have h1:=heap_setCell_same _ g (k*5) _ _ (.int .i64 r.id) hg;have h2:=heap_setCell_same _ g (k*5+1) _ _ (.int .i64 r.last) h1;have h3:=heap_setCell_same _ g (k*5+2) _ _ (.int .i64 r.why) h2;have h4:=heap_setCell_same _ g (k*5+3) _ _ (.int .i64 r.num) h3;have h5:=heap_setCell_same _ g (k*5+4) _ _ (.int .i64 r.au) h4;refine ⟨by rw [aB],.inr ⟨g,cap,_,by rw [List.length_set,e2],hb,h5,by rw [List.length_set];exact hnc,hcm,by simpa using hcs,?_⟩⟩;rw [List.length_set,je M k r hk];simp only [Array.toList_setIfInBounds];rw [<- htake];simp only [List.take_set]
theorem dH {M:List T} (h:Own w B (.slice (some ⟨g,0,none⟩) n cap) M) (k:Nat) (hk:k < M.length):At w g (k*5) M[k]/\(∀ o,w.frozen? ⟨g,o,none⟩=false)/\B<=g:=by
 rcases h.2 with ⟨h',_⟩ | ⟨g',cap',cur,h',hb,hg,hnc,hcm,hcs,htake⟩
 · cases h'
 ·
  simp only [Value.slice.injEq,Option.some.injEq,Addr.mk.injEq,and_true] at h';obtain ⟨e1,e2,e3⟩:=h';subst e1 e3
  have hcell:∀ p,p < 5->w.cell? ⟨g,k*5+p,none⟩=(rv M[k])[p]? :=by
   intro p hp;rw [cell_of_row w g _ _ _ _ hg,<- aS M k p hk hp,<- htake,List.getElem?_take_of_lt (by omega)]
   simp
  exact ⟨⟨hcell 0 (by omega),hcell 1 (by omega),hcell 2 (by omega),hcell 3 (by omega),hcell 4 (by omega)⟩,fun o=>frozen_of_row w g o _ _ hg,hb⟩
theorem fG {M:List T} (h:Block w g M) (hB:B<=g) (hn:n=M.length) (hm:n<=100000):Own w B (.slice (some ⟨g,0,none⟩) n n) M:=by
 subst hn;exact ⟨by rw [aB],.inr ⟨g,M.length,_,rfl,hB,h,Nat.le_refl _,by have:maxLen=9223372036854775807:=rfl;omega,by rw [List.size_toArray,aB],List.take_of_length_le (by show (M.flatMap rv).length<=_;rw [aB];exact Nat.le_refl _)⟩⟩
theorem jh (n:Nat) (hn:n<=1000) (u:World):(Instr.makeSlice 28 (.int .i64 0) (.int .i64 ((n:Int)+1))).run Tryz.prog u =
  .ok (.slice (some ⟨u.heap.size,0,none⟩) 0 (n+1)) (u.alloc (.cells (zeros (n+1)) 84)):=by
 obtain ⟨i0,hi,hz0,hz1,hz2⟩:=info_parts info;have h:=run_make (P:=Tryz.prog) u 28 84 i0 zeroV Tryz.underlying28 hi hz0 .i64 .i64 0 ((n:Int)+1) (by omega) (by omega) (by rw [hz2];omega) (by omega);rw [hz1,show ((n:Int)+1).toNat=n+1 from by omega,made] at h;exact h
theorem eT (u:World) (B c:Nat) (hB:B<=u.heap.size) (hc:c<=1000):Own (u.alloc (.cells (zeros c) 84)) B (.slice (some ⟨u.heap.size,0,none⟩) 0 c) [] :=
 ⟨rfl,.inr ⟨u.heap.size,c,zeros c,rfl,hB,heap_alloc_new u _,Nat.zero_le _,by have:maxLen=9223372036854775807:=rfl;omega,by unfold zeros;rw [List.size_toArray,aB,List.length_replicate],rfl⟩⟩
end Go.Proofs.YtpfdnemaaeolcaaGreat.Sn
namespace Go.Proofs.YtpfdnemaaeolcaaGreat
open Go.RowKit
open Mem
def Sr.iL (w:World) (ao:Option Addr) (n:Nat) (rs:List Sr.T) (e:Ending) (w':World):Prop:=(ao=none/\e=.returned (.slice none 0 0)/\w'=w)\/(e=.returned (.slice (some ⟨w.heap.size,0,none⟩) n n)/\Sr.Block w' w.heap.size rs/\Below w.heap.size w w')
theorem DC (rs:List Sr.T) (ao:Option Addr) (n cap:Nat) (w:World) (hR:Sr.Ls w ao n cap rs) (hn:n<=1000) :
  Calls Tryz.prog 41 #[.slice ao n cap] w (Sr.iL w ao n rs):=by
 rcases ao with _ | ad
 ·
  have hz:=hR.nil rfl;have hz2:=hR.fits;obtain rfl:n=0:=by omega
  clear hR hz hz2;have hnil:∀ u:World,(binOp .eql 25 (.slice none 0 cap) (.slice none 0 0)).run Tryz.prog u=.ok (.bool true) u:=fun u=>by kernel_rfl
  go_enter Tryz.func41,Tryz.ntmps41;go_wp2_with fail;go_ret;exact .inl ⟨rfl,rfl,rfl⟩
 ·
  have HR:=Lh hR;have hcap:=hR.reach;have hfit:=hR.fits;have hmk:=Sr.make n (by omega);have eD:=Sr.aZ w n;have hbel0:Below w.heap.size w (w.alloc (.cells (Sr.zeros n) 77)):=(Below.refl _ _).alloc (Nat.le_refl _) _;obtain ⟨W1,hcp,hblk,hbel,hsz⟩:=Sr.copy (w.alloc (.cells (Sr.zeros n) 77)) w.heap.size [] n (some ad) n cap rs (by rw [List.append_nil];exact eD) hR.len ((hR.below hbel0).seg);rw [List.length_nil,Nat.add_zero] at hcp;rw [List.append_nil] at hblk;have HB1:=Lh (hbel _ _ hbel0 (Nat.le_refl _));have gV:=Lh hblk;clear hblk hbel eD hbel0 hR;have hnil:∀ u:World,(binOp .eql 25 (.slice (some ad) n cap) (.slice none 0 0)).run Tryz.prog u=.ok (.bool false) u:=fun u=>by kernel_rfl
  go_enter Tryz.func41,Tryz.ntmps41;go_wp2;go_ret;exact .inr ⟨rfl,gV.out,HB1.out⟩
theorem Sr.iL.ls {w w':World} {ao:Option Addr} {n cap:Nat} {rs:List Sr.T} {e:Ending} (h:Sr.iL w ao n rs e w') (hR:Sr.Ls w ao n cap rs):∃ bo c,e=.returned (.slice bo n c)/\Sr.Ls w' bo n c rs/\sJ w.heap.size bo n/\Below w.heap.size w w':=by
 rcases h with ⟨rfl,rfl,rfl⟩ | ⟨rfl,hb,hk⟩
 ·
  have hq:=hR.nil rfl;have hq2:=hR.fits;obtain rfl:n=0:=by omega
  have hz:rs=[]:=List.eq_nil_of_length_eq_zero hR.len.symm;subst hz;exact ⟨none,0,rfl,Sr.dL _,kP _ _,Below.refl _ _⟩
 · refine ⟨_,n,rfl,Sr.Block.ls (zs:=[]) (by rw [List.append_nil];exact hb) n n hR.len (Nat.le_refl _) (by have:=hR.fits;have:=hR.reach;omega) hR.short,dZ fun ad e=>⟨w.heap.size,by cases e;rfl,Nat.le_refl _⟩,hk⟩
def Pd.iL (w:World) (ao:Option Addr) (n:Nat) (rs:List Pd.T) (e:Ending) (w':World):Prop:=(ao=none/\e=.returned (.slice none 0 0)/\w'=w)\/(e=.returned (.slice (some ⟨w.heap.size,0,none⟩) n n)/\Pd.Block w' w.heap.size rs/\Below w.heap.size w w')
theorem DF (rs:List Pd.T) (ao:Option Addr) (n cap:Nat) (w:World) (hR:Pd.Ls w ao n cap rs) (hn:n<=1000) :
  Calls Tryz.prog 42 #[.slice ao n cap] w (Pd.iL w ao n rs):=by
 rcases ao with _ | ad
 ·
  have hz:=hR.nil rfl;have hz2:=hR.fits;obtain rfl:n=0:=by omega
  clear hR hz hz2;have hnil:∀ u:World,(binOp .eql 26 (.slice none 0 cap) (.slice none 0 0)).run Tryz.prog u=.ok (.bool true) u:=fun u=>by kernel_rfl
  go_enter Tryz.func42,Tryz.ntmps42;go_wp2_with fail;go_ret;exact .inl ⟨rfl,rfl,rfl⟩
 ·
  have HR:=Lh hR;have hcap:=hR.reach;have hfit:=hR.fits;have hmk:=Pd.make n (by omega);have eD:=Pd.aZ w n;have hbel0:Below w.heap.size w (w.alloc (.cells (Pd.zeros n) 104)):=(Below.refl _ _).alloc (Nat.le_refl _) _;obtain ⟨W1,hcp,hblk,hbel,hsz⟩:=Pd.copy (w.alloc (.cells (Pd.zeros n) 104)) w.heap.size [] n (some ad) n cap rs (by rw [List.append_nil];exact eD) hR.len ((hR.below hbel0).seg);rw [List.length_nil,Nat.add_zero] at hcp;rw [List.append_nil] at hblk;have HB1:=Lh (hbel _ _ hbel0 (Nat.le_refl _));have gV:=Lh hblk;clear hblk hbel eD hbel0 hR;have hnil:∀ u:World,(binOp .eql 26 (.slice (some ad) n cap) (.slice none 0 0)).run Tryz.prog u=.ok (.bool false) u:=fun u=>by kernel_rfl
  go_enter Tryz.func42,Tryz.ntmps42;go_wp2;go_ret;exact .inr ⟨rfl,gV.out,HB1.out⟩
def Pt.iL (w:World) (ao:Option Addr) (n:Nat) (rs:List Pt.T) (e:Ending) (w':World):Prop:=(ao=none/\e=.returned (.slice none 0 0)/\w'=w)\/(e=.returned (.slice (some ⟨w.heap.size,0,none⟩) n n)/\Pt.Block w' w.heap.size rs/\Below w.heap.size w w')
theorem DI (rs:List Pt.T) (ao:Option Addr) (n cap:Nat) (w:World) (hR:Pt.Ls w ao n cap rs) (hn:n<=1000) :
  Calls Tryz.prog 43 #[.slice ao n cap] w (Pt.iL w ao n rs):=by
 rcases ao with _ | ad
 ·
  have hz:=hR.nil rfl;have hz2:=hR.fits;obtain rfl:n=0:=by omega
  clear hR hz hz2;have hnil:∀ u:World,(binOp .eql 100 (.slice none 0 cap) (.slice none 0 0)).run Tryz.prog u=.ok (.bool true) u:=fun u=>by kernel_rfl
  go_enter Tryz.func43,Tryz.ntmps43;go_wp2_with fail;go_ret;exact .inl ⟨rfl,rfl,rfl⟩
 ·
  have HR:=Lh hR;have hcap:=hR.reach;have hfit:=hR.fits;have hmk:=Pt.make n (by omega);have eD:=Pt.aZ w n;have hbel0:Below w.heap.size w (w.alloc (.cells (Pt.zeros n) 108)):=(Below.refl _ _).alloc (Nat.le_refl _) _;obtain ⟨W1,hcp,hblk,hbel,hsz⟩:=Pt.copy (w.alloc (.cells (Pt.zeros n) 108)) w.heap.size [] n (some ad) n cap rs (by rw [List.append_nil];exact eD) hR.len ((hR.below hbel0).seg);rw [List.length_nil,Nat.add_zero] at hcp;rw [List.append_nil] at hblk;have HB1:=Lh (hbel _ _ hbel0 (Nat.le_refl _));have gV:=Lh hblk;clear hblk hbel eD hbel0 hR;have hnil:∀ u:World,(binOp .eql 100 (.slice (some ad) n cap) (.slice none 0 0)).run Tryz.prog u=.ok (.bool false) u:=fun u=>by kernel_rfl
  go_enter Tryz.func43,Tryz.ntmps43;go_wp2;go_ret;exact .inr ⟨rfl,gV.out,HB1.out⟩
theorem Pt.iL.ls {w w':World} {ao:Option Addr} {n cap:Nat} {rs:List Pt.T} {e:Ending} (h:Pt.iL w ao n rs e w') (hR:Pt.Ls w ao n cap rs):∃ bo c,e=.returned (.slice bo n c)/\Pt.Ls w' bo n c rs/\sJ w.heap.size bo n/\Below w.heap.size w w':=by
 rcases h with ⟨rfl,rfl,rfl⟩ | ⟨rfl,hb,hk⟩
 ·
  have hq:=hR.nil rfl;have hq2:=hR.fits;obtain rfl:n=0:=by omega
  have hz:rs=[]:=List.eq_nil_of_length_eq_zero hR.len.symm;subst hz;exact ⟨none,0,rfl,Pt.dL _,kP _ _,Below.refl _ _⟩
 · refine ⟨_,n,rfl,Pt.Block.ls (zs:=[]) (by rw [List.append_nil];exact hb) n n hR.len (Nat.le_refl _) (by have:=hR.fits;have:=hR.reach;omega) hR.short,dZ fun ad e=>⟨w.heap.size,by cases e;rfl,Nat.le_refl _⟩,hk⟩
def Ba.iL (w:World) (ao:Option Addr) (n:Nat) (rs:List Ba.T) (e:Ending) (w':World):Prop:=(ao=none/\e=.returned (.slice none 0 0)/\w'=w)\/(e=.returned (.slice (some ⟨w.heap.size,0,none⟩) n n)/\Ba.Block w' w.heap.size rs/\Below w.heap.size w w')
theorem DJ (rs:List Ba.T) (ao:Option Addr) (n cap:Nat) (w:World) (hR:Ba.Ls w ao n cap rs) (hn:n<=1000) :
  Calls Tryz.prog 44 #[.slice ao n cap] w (Ba.iL w ao n rs):=by
 rcases ao with _ | ad
 ·
  have hz:=hR.nil rfl;have hz2:=hR.fits;obtain rfl:n=0:=by omega
  clear hR hz hz2;have hnil:∀ u:World,(binOp .eql 27 (.slice none 0 cap) (.slice none 0 0)).run Tryz.prog u=.ok (.bool true) u:=fun u=>by kernel_rfl
  go_enter Tryz.func44,Tryz.ntmps44;go_wp2_with fail;go_ret;exact .inl ⟨rfl,rfl,rfl⟩
 ·
  have HR:=Lh hR;have hcap:=hR.reach;have hfit:=hR.fits;have hmk:=Ba.make n (by omega);have eD:=Ba.aZ w n;have hbel0:Below w.heap.size w (w.alloc (.cells (Ba.zeros n) 81)):=(Below.refl _ _).alloc (Nat.le_refl _) _;obtain ⟨W1,hcp,hblk,hbel,hsz⟩:=Ba.copy (w.alloc (.cells (Ba.zeros n) 81)) w.heap.size [] n (some ad) n cap rs (by rw [List.append_nil];exact eD) hR.len ((hR.below hbel0).seg);rw [List.length_nil,Nat.add_zero] at hcp;rw [List.append_nil] at hblk;have HB1:=Lh (hbel _ _ hbel0 (Nat.le_refl _));have gV:=Lh hblk;clear hblk hbel eD hbel0 hR;have hnil:∀ u:World,(binOp .eql 27 (.slice (some ad) n cap) (.slice none 0 0)).run Tryz.prog u=.ok (.bool false) u:=fun u=>by kernel_rfl
  go_enter Tryz.func44,Tryz.ntmps44;go_wp2;go_ret;exact .inr ⟨rfl,gV.out,HB1.out⟩
theorem Ba.iL.ls {w w':World} {ao:Option Addr} {n cap:Nat} {rs:List Ba.T} {e:Ending} (h:Ba.iL w ao n rs e w') (hR:Ba.Ls w ao n cap rs):∃ bo c,e=.returned (.slice bo n c)/\Ba.Ls w' bo n c rs/\sJ w.heap.size bo n/\Below w.heap.size w w':=by
 rcases h with ⟨rfl,rfl,rfl⟩ | ⟨rfl,hb,hk⟩
 ·
  have hq:=hR.nil rfl;have hq2:=hR.fits;obtain rfl:n=0:=by omega
  have hz:rs=[]:=List.eq_nil_of_length_eq_zero hR.len.symm;subst hz;exact ⟨none,0,rfl,Ba.dL _,kP _ _,Below.refl _ _⟩
 · refine ⟨_,n,rfl,Ba.Block.ls (zs:=[]) (by rw [List.append_nil];exact hb) n n hR.len (Nat.le_refl _) (by have:=hR.fits;have:=hR.reach;omega) hR.short,dZ fun ad e=>⟨w.heap.size,by cases e;rfl,Nat.le_refl _⟩,hk⟩
def Sn.iL (w:World) (ao:Option Addr) (n:Nat) (rs:List Sn.T) (e:Ending) (w':World):Prop:=(ao=none/\e=.returned (.slice none 0 0)/\w'=w)\/(e=.returned (.slice (some ⟨w.heap.size,0,none⟩) n n)/\Sn.Block w' w.heap.size rs/\Below w.heap.size w w')
theorem DK (rs:List Sn.T) (ao:Option Addr) (n cap:Nat) (w:World) (hR:Sn.Ls w ao n cap rs) (hn:n<=1000) :
  Calls Tryz.prog 45 #[.slice ao n cap] w (Sn.iL w ao n rs):=by
 rcases ao with _ | ad
 ·
  have hz:=hR.nil rfl;have hz2:=hR.fits;obtain rfl:n=0:=by omega
  clear hR hz hz2;have hnil:∀ u:World,(binOp .eql 28 (.slice none 0 cap) (.slice none 0 0)).run Tryz.prog u=.ok (.bool true) u:=fun u=>by kernel_rfl
  go_enter Tryz.func45,Tryz.ntmps45;go_wp2_with fail;go_ret;exact .inl ⟨rfl,rfl,rfl⟩
 ·
  have HR:=Lh hR;have hcap:=hR.reach;have hfit:=hR.fits;have hmk:=Sn.make n (by omega);have eD:=Sn.aZ w n;have hbel0:Below w.heap.size w (w.alloc (.cells (Sn.zeros n) 84)):=(Below.refl _ _).alloc (Nat.le_refl _) _;obtain ⟨W1,hcp,hblk,hbel,hsz⟩:=Sn.copy (w.alloc (.cells (Sn.zeros n) 84)) w.heap.size [] n (some ad) n cap rs (by rw [List.append_nil];exact eD) hR.len ((hR.below hbel0).seg);rw [List.length_nil,Nat.add_zero] at hcp;rw [List.append_nil] at hblk;have HB1:=Lh (hbel _ _ hbel0 (Nat.le_refl _));have gV:=Lh hblk;clear hblk hbel eD hbel0 hR;have hnil:∀ u:World,(binOp .eql 28 (.slice (some ad) n cap) (.slice none 0 0)).run Tryz.prog u=.ok (.bool false) u:=fun u=>by kernel_rfl
  go_enter Tryz.func45,Tryz.ntmps45;go_wp2;go_ret;exact .inr ⟨rfl,gV.out,HB1.out⟩
theorem Sn.iL.ls {w w':World} {ao:Option Addr} {n cap:Nat} {rs:List Sn.T} {e:Ending} (h:Sn.iL w ao n rs e w') (hR:Sn.Ls w ao n cap rs):∃ bo c,e=.returned (.slice bo n c)/\Sn.Ls w' bo n c rs/\sJ w.heap.size bo n/\Below w.heap.size w w':=by
 rcases h with ⟨rfl,rfl,rfl⟩ | ⟨rfl,hb,hk⟩
 ·
  have hq:=hR.nil rfl;have hq2:=hR.fits;obtain rfl:n=0:=by omega
  have hz:rs=[]:=List.eq_nil_of_length_eq_zero hR.len.symm;subst hz;exact ⟨none,0,rfl,Sn.dL _,kP _ _,Below.refl _ _⟩
 · refine ⟨_,n,rfl,Sn.Block.ls (zs:=[]) (by rw [List.append_nil];exact hb) n n hR.len (Nat.le_refl _) (by have:=hR.fits;have:=hR.reach;omega) hR.short,dZ fun ad e=>⟨w.heap.size,by cases e;rfl,Nat.le_refl _⟩,hk⟩
def Rt.iL (w:World) (ao:Option Addr) (n:Nat) (rs:List Vt.Rt) (e:Ending) (w':World):Prop:=(ao=none/\e=.returned (.slice none 0 0)/\w'=w)\/(e=.returned (.slice (some ⟨w.heap.size,0,none⟩) n n)/\oV w' w.heap.size rs/\Below w.heap.size w w')
theorem DL (rs:List Vt.Rt) (ao:Option Addr) (n cap:Nat) (w:World) (hR:om w ao n cap rs) (hn:n<=1000) :
  Calls Tryz.prog 40 #[.slice ao n cap] w (Rt.iL w ao n rs):=by
 rcases ao with _ | ad
 ·
  have hz:=hR.nil rfl;have hz2:=hR.fits;obtain rfl:n=0:=by omega
  clear hR hz hz2;have hnil:∀ u:World,(binOp .eql 24 (.slice none 0 cap) (.slice none 0 0)).run Tryz.prog u=.ok (.bool true) u:=fun u=>by kernel_rfl
  go_enter Tryz.func40,Tryz.ntmps40;go_wp2_with fail;go_ret;exact .inl ⟨rfl,rfl,rfl⟩
 ·
  have HR:=Lh hR;have hcap:=hR.reach;have hfit:=hR.fits;have hmk:=M4 n (by omega);have eD:=aZ w n;have hbel0:Below w.heap.size w (w.alloc (.cells (jX n) 52)):=(Below.refl _ _).alloc (Nat.le_refl _) _;obtain ⟨W1,hcp,hblk,hbel,hsz⟩:=M5 (w.alloc (.cells (jX n) 52)) w.heap.size [] n (some ad) n cap rs (by rw [List.append_nil];exact eD) hR.len ((hR.below hbel0).seg);rw [List.length_nil,Nat.add_zero] at hcp;rw [List.append_nil] at hblk;have HB1:=Lh (hbel _ _ hbel0 (Nat.le_refl _));have gV:=Lh hblk;clear hblk hbel eD hbel0 hR;have hnil:∀ u:World,(binOp .eql 24 (.slice (some ad) n cap) (.slice none 0 0)).run Tryz.prog u=.ok (.bool false) u:=fun u=>by kernel_rfl
  go_enter Tryz.func40,Tryz.ntmps40;go_wp2;go_ret;exact .inr ⟨rfl,gV.out,HB1.out⟩
theorem Rt.iL.ls {w':World} {rs:List Vt.Rt} {e:Ending} (h:Rt.iL w ao n rs e w') (hR:om w ao n cap rs):∃ bo c,e=.returned (.slice bo n c)/\om w' bo n c rs/\sJ w.heap.size bo n/\Below w.heap.size w w':=by
 rcases h with ⟨rfl,rfl,rfl⟩ | ⟨rfl,hb,hk⟩
 ·
  have hq:=hR.nil rfl;have hq2:=hR.fits;obtain rfl:n=0:=by omega
  have hz:rs=[]:=List.eq_nil_of_length_eq_zero hR.len.symm;subst hz;exact ⟨none,0,rfl,(fun W=>(⟨rfl,Nat.le_refl _,by show (0:Nat)<=_;omega,fun _=>rfl,.inl rfl,by intro r hr;cases hr⟩:om W none 0 0 [])) _,kP _ _,Below.refl _ _⟩
 · refine ⟨_,n,rfl,oV.rts (zs:=[]) (by rw [List.append_nil];exact hb) n n hR.len (Nat.le_refl _) (by have:=hR.fits;have:=hR.reach;omega) hR.short,dZ fun ad e=>⟨w.heap.size,by cases e;rfl,Nat.le_refl _⟩,hk⟩
theorem KX (s:ByteArray) (pos:Nat) (h:pos < s.size):(txt s).drop pos≠[]:=by
 intro e;have:=congrArg List.length e;rw [List.length_drop,dX,List.length_nil] at this;omega
theorem Q0 (s:ByteArray) (pos:Nat) (h: ¬ pos < s.size):(txt s).drop pos=[] :=
 List.drop_eq_nil_of_le (by rw [dX];omega)
theorem Q5 (s:ByteArray) (pos:Nat):Lib.decodeL ((txt s).drop pos)=Utf8.decode s pos:=Lib.decodeL_drop s pos
theorem Vd (s:ByteArray) (pos:Nat):1<=(Utf8.decode s pos).2:=Lib.width_pos s pos
theorem YI (s:ByteArray) (pos:Nat) (h:pos < s.size):pos+(Utf8.decode s pos).2<=s.size:=by
 have:=Rn.dle _ (KX s pos h);rw [Q5,List.length_drop,dX] at this;omega
theorem Q6 (s:ByteArray) (pos:Nat) (h:pos < s.size):Rn.runes ((txt s).drop pos)=(Utf8.decode s pos).1::Rn.runes ((txt s).drop (pos+(Utf8.decode s pos).2)):=by
 rw [Rn.Ii _ (KX s pos h),Q5,List.drop_drop]
theorem M6 (s:ByteArray) (pos:Nat) (h: ¬ pos < s.size):Rn.runes ((txt s).drop pos)=[]:=by rw [Q0 s pos h];rfl
theorem uw (w:World) (s:ByteArray) (pos:Nat):Below w.heap.size w (w.iter s pos):=(Below.refl _ _).alloc (Nat.le_refl _) _
theorem BH (s:ByteArray) (h:s.toList=[]\/24 < s.size):Rn.name (txt s)=false:=by
 unfold Rn.name;rcases h with h | h
 · rw [<- tl,h];rfl
 ·
  rw [show decide ((txt s).length<=24)=false from decide_eq_false (by rw [dX];omega)]
  simp
theorem I9 (s:ByteArray) (h:s.toList≠[]) (h2:s.size<=24):Rn.name (txt s)=Rn.oG true (Rn.runes (txt s)):=by
 unfold Rn.name;rw [show decide ((txt s).length<=24)=true from decide_eq_true (by rw [dX];omega)];rw [tl] at h;cases e:txt s with
 | nil=>exact absurd e h
 | cons _ _=>rfl
theorem ni (r a b:Int) (w:World) :
  Calls Tryz.prog 173 #[.int .i32 r,.int .i32 a,.int .i32 b] w fun e w'=>e=.returned (.bool (decide (a<=r/\r<=b)))/\w'=w:=by
 go_enter Tryz.func173,Tryz.ntmps173;by_cases h1:a<=r
 ·
  go_wp2;go_ret;exact ⟨ay (by simp [h1]),rfl⟩
 ·
  go_wp2;go_ret;refine ⟨ay ?_,rfl⟩;rw [Bool.eq_iff_iff]
  simp
  omega
theorem M7 (r:Int) (w:World) :
  Calls Tryz.prog 174 #[.int .i32 r] w fun e w'=>e=.returned (.bool (Rn.digit r))/\w'=w:=by
 go_enter Tryz.func174,Tryz.ntmps174;go_wp2_with fail;refine (ni _ _ _ _).mono ?_;rintro e _ ⟨rfl,rfl⟩;go_wp2;go_ret;exact ⟨ay (by simp [Rn.digit]),rfl⟩
theorem M8 (r:Int) (w:World) :
  Calls Tryz.prog 152 #[.int .i32 r] w fun e w'=>e=.returned (.bool (Rn.inner r))/\w'=w:=by
 go_enter Tryz.func152,Tryz.ntmps152;go_wp2_with fail;refine (M7 _ _).mono ?_;rintro e _ ⟨rfl,rfl⟩;cases hd:Rn.digit r
 ·
  by_cases h1:r=45
  ·
   subst h1;go_wp2;go_ret;exact ⟨rfl,rfl⟩
  ·
   by_cases h2:r=95
   ·
    subst h2;go_wp2;go_ret;exact ⟨rfl,rfl⟩
   ·
    go_wp2;go_ret;refine ⟨ay ?_,rfl⟩;rw [Bool.eq_iff_iff];simp [Rn.inner,hd,h1,h2]
 ·
  go_wp2;go_ret;exact ⟨ay (by simp [Rn.inner,hd]),rfl⟩
theorem Ja (r:Int) (w:World) :
  Calls Tryz.prog 151 #[.int .i32 r] w fun e w'=>e=.returned (.bool (Rn.letter r))/\w'=w:=by
 go_enter Tryz.func151,Tryz.ntmps151;go_wp2_with fail;refine (ni _ _ _ _).mono ?_;rintro e _ ⟨rfl,rfl⟩;by_cases h1:97<=r/\r<=122
 ·
  rw [show decide (97<=r/\r<=122)=true from decide_eq_true h1];go_wp2;go_ret;exact ⟨ay (by simp [Rn.letter,h1]),rfl⟩
 ·
  rw [show decide (97<=r/\r<=122)=false from decide_eq_false h1];go_wp2_with fail;refine (ni _ _ _ _).mono ?_;rintro e _ ⟨rfl,rfl⟩;by_cases h2:65<=r/\r<=90
  ·
   rw [show decide (65<=r/\r<=90)=true from decide_eq_true h2];go_wp2;go_ret;exact ⟨ay (by simp [Rn.letter,h2]),rfl⟩
  ·
   rw [show decide (65<=r/\r<=90)=false from decide_eq_false h2];go_wp2_with fail;refine (ni _ _ _ _).mono ?_;rintro e _ ⟨rfl,rfl⟩;by_cases h3:192<=r/\r<=591
   ·
    rw [show decide (192<=r/\r<=591)=true from decide_eq_true h3];by_cases h4:r=215
    ·
     subst h4;go_wp2;go_ret;exact ⟨rfl,rfl⟩
    ·
     go_wp2;go_ret;refine ⟨ay ?_,rfl⟩;rw [Bool.eq_iff_iff];simp [Rn.letter];omega
   ·
    rw [show decide (192<=r/\r<=591)=false from decide_eq_false h3];go_wp2;go_ret;refine ⟨ay ?_,rfl⟩;symm;simp only [Rn.letter,Bool.or_eq_false_iff,decide_eq_false_iff_not];omega
theorem vG (s:ByteArray) (w:World) (hs:s.size<=140737488355328) :
  Calls Tryz.prog 112 #[.string s] w fun e w'=>e=.returned (.bool (Rn.name (txt s)))/\Below w.heap.size w w':=by
 by_cases hn:s.toList=[]
 ·
  have HN:Hid (Rn.name (txt s)=false):=BH s (.inl hn);go_enter Tryz.func112,Tryz.ntmps112;go_wp2;go_ret;exact ⟨ay HN.out.symm,Below.refl _ _⟩
 have hn2:s.toList.isEmpty=false:=by cases e:s.toList with | nil=>exact absurd e hn | cons _ _=>rfl
 by_cases Z8:24 < s.size
 ·
  have HN:Hid (Rn.name (txt s)=false):=BH s (.inr Z8);go_enter Tryz.func112,Tryz.ntmps112;go_wp2;go_ret;exact ⟨ay HN.out.symm,Below.refl _ _⟩
 have HN:Hid (Rn.name (txt s)=Rn.oG true (Rn.runes (txt s))):=I9 s hn (by omega);go_enter Tryz.func112,Tryz.ntmps112;go_wp2;clear hn hn2
 go_loopw [3,4] (fun _ _ w'=>∃ (pos:Nat),w'=w.iter s pos/\Hid (Rn.oG (decide (pos=0)) (Rn.runes ((txt s).drop pos))=Rn.oG true (Rn.runes (txt s)))/\pos<=s.size) (fun _ _ w'=>s.size - w'.iterPos w.heap.size)
 case atStart=>exact ⟨0,rfl,by show _=_;simp,by omega⟩
 case round =>
  obtain ⟨pos,rfl,HC,hb⟩:=hrel;by_cases hp:pos < s.size
  ·
   have hnx:∀ ty,(Instr.next (.pointer (some ⟨w.heap.size,0,none⟩)) true ty).run Tryz.prog (w.iter s pos)=_:=fun ty=>run_next_any w s pos ty hp
   have hwd:=Vd s pos;have hle:=YI s pos hp
   have HS:Hid (Rn.oG (decide (pos=0)) (Rn.runes ((txt s).drop pos))=((Rn.letter ((Utf8.decode s pos).1:Int)||(!decide (pos=0)&&Rn.inner ((Utf8.decode s pos).1:Int)))&&Rn.oG (decide (pos+(Utf8.decode s pos).2=0)) (Rn.runes ((txt s).drop (pos+(Utf8.decode s pos).2))))):=by
    show _=_;rw [Q6 s pos hp,Rn.oG,show decide (pos+(Utf8.decode s pos).2=0)=false from decide_eq_false (by omega)]
   go_wp2_with fail;refine (Ja _ _).mono ?_;rintro e _ ⟨rfl,rfl⟩;cases hL:Rn.letter ((Utf8.decode s pos).1:Int)
   ·
    by_cases h0:pos=0
    ·
     go_wp2;go_ret;refine ⟨ay ?_,uw w s _⟩;rw [HN.out,<- HC.out,HS.out,hL];simp [h0]
    ·
     go_wp2_with fail;refine (M8 _ _).mono ?_;rintro e _ ⟨rfl,rfl⟩;cases hI:Rn.inner ((Utf8.decode s pos).1:Int)
     ·
      go_wp2;go_ret;refine ⟨ay ?_,uw w s _⟩;rw [HN.out,<- HC.out,HS.out,hL,hI]
      simp
     ·
      go_wp2;go_roundw
      case rel =>
       refine ⟨pos+(Utf8.decode s pos).2,rfl,?_,by omega⟩;show _=_;rw [<- HC.out,HS.out,hL,hI];simp [h0]
      case measure =>
       simp
       omega
   ·
    go_wp2;go_roundw
    case rel =>
     refine ⟨pos+(Utf8.decode s pos).2,rfl,?_,by omega⟩;show _=_;rw [<- HC.out,HS.out,hL]
     simp
    case measure =>
     simp
     omega
  ·
   have hnx:∀ ty,(Instr.next (.pointer (some ⟨w.heap.size,0,none⟩)) true ty).run Tryz.prog (w.iter s pos)=_:=fun ty=>run_next_end w s pos ty hp
   go_wp2;go_ret;refine ⟨ay ?_,uw w s pos⟩;rw [HN.out,<- HC.out,M6 s pos hp];rfl
theorem FN (s:ByteArray) (w0 w:World) (hb:Below w0.heap.size w0 w) (hs:s.size<=140737488355328) :
  Calls Tryz.prog 112 #[.string s] w fun e w'=>e=.returned (.bool (Rn.name (txt s)))/\Below w0.heap.size w0 w' :=
 (vG s w hs).mono fun _ _ ⟨h1,h2⟩=>⟨h1,hb.trans (h2.mono hb.size)⟩
end Go.Proofs.YtpfdnemaaeolcaaGreat
