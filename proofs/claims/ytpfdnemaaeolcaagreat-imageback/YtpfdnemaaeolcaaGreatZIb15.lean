import Derived.Test.YtpfdnemaaeolcaaGreatZIb1
import Derived.Test.YtpfdnemaaeolcaaGreatZIb2
import Derived.Test.YtpfdnemaaeolcaaGreatZIb4
import Derived.Test.YtpfdnemaaeolcaaGreatZIb11
import Derived.Test.YtpfdnemaaeolcaaGreatZIb12
import Derived.Test.YtpfdnemaaeolcaaGreatZIb14
variable {w u w0:Go.World} {v:Go.Value} {B A B2 B3 B4 n B1 cap q g:Nat} {bs xs:List UInt8} {ao:Option Go.Addr} {a:Go.Act} {Q:Go.Exit->Go.Act->Go.World->Prop} {o:Go.Oper}
set_option maxHeartbeats 8000000
set_option maxRecDepth 100000
set_option linter.unusedVariables false
namespace Go.Proofs.YtpfdnemaaeolcaaGreat
open Go.RowKit
open Mem Pk Cm
open Go.Sort (grow)
theorem Im.Ao {w:World} (c:ByteArray):∀ {rs:List Pd.T} {ps:List Bl.Ps},rs.map (·.av)=ps.map (·.av)->Im.jC c rs=Bl.cnt c ps
 | [],[],_=>rfl
 | [],_::_,h=>by cases h
 | _::_,[],h=>by cases h
 | r::l,p::m,h=>by
  rw [List.map_cons,List.map_cons,List.cons.injEq] at h;rw [Im.jC,Bl.cnt,Im.Ao (w:=w) c h.2,h.1]
theorem Im.GY {c:ByteArray} {n:Int}:∀ {rs:List Pd.T} {ps:List Bl.Ps},rs.map (fun r=>(r.bf,r.aY))=ps.map (fun r=>(r.bf,r.aY))->Im.nH c n rs=Im.D7 c n ps
 | [],[],_=>rfl
 | [],_::_,h=>by cases h
 | _::_,[],h=>by cases h
 | a::l,b::m,h=>by
  rw [List.map_cons,List.map_cons,List.cons.injEq,Prod.mk.injEq] at h;have ih:=Im.GY (c:=c) (n:=n) h.2;unfold Im.nH Im.D7 at ih ⊢;rw [List.any_cons,List.any_cons,ih,h.1.1,h.1.2]
variable {rs:List Pd.T}
theorem Bl.Each.ZJ {ps:List Bl.Ps} (h:Bl.Each w rs ps) {β :Type} (f:Pd.T-> β) (g:Bl.Ps-> β) (e:∀ r p,Bl.AV w r p->f r=g p):rs.map f=ps.map g:=by
 refine List.ext_getElem (by rw [List.length_map,List.length_map,h.len]) fun i h1 h2=>?_
 rw [List.length_map] at h1;rw [List.getElem_map,List.getElem_map];exact e _ _ (h.each i h1)
theorem Bl.Each.num {ps:List Bl.Ps} (h:Bl.Each w rs ps):Bl.Each w (rs.mapIdx (Im.nF rs)) (Im.nU ps):=by
 refine ⟨by rw [List.length_mapIdx,Im.gB,h.len],fun i hi=>?_⟩;rw [List.length_mapIdx] at hi;have e:=h.each i hi;have hm:=h.ZJ (·.av) (·.av) fun _ _ z=>z.av
 have hc : Im.jC rs[i].av (rs.take i) = Bl.cnt (ps[i]'(h.len ▸ hi)).av (ps.take i) := by
  rw [e.av];exact Im.Ao (w:=w) _ (by rw [List.map_take,List.map_take,hm])
 rw [List.getElem_mapIdx,Im.ny];exact ⟨e.av,by show (Im.jC rs[i].av (rs.take i):Int)+1=_;rw [hc];rfl,e.y,e.m,e.d,e.net,e.aP,e.au,e.parts,e.bf,e.aY,e.back⟩
theorem Bl.Each.UN {ps:List Bl.Ps} (h:Bl.Each w rs ps):Bl.Each w (rs.mapIdx (Im.bF rs)) (Im.mE ps):=by
 refine ⟨by rw [List.length_mapIdx,Im.eH,h.len],fun i hi=>?_⟩;rw [List.length_mapIdx] at hi;have e:=h.each i hi;have hm:=h.ZJ (fun r=>(r.bf,r.aY)) (fun r=>(r.bf,r.aY)) fun _ _ z=>by rw [z.bf,z.aY]
 have hc : Im.nH rs[i].av rs[i].num (rs.drop (i + 1)) = Im.D7 (ps[i]'(h.len ▸ hi)).av (ps[i]'(h.len ▸ hi)).num (ps.drop (i + 1)) := by
  rw [e.av,e.num];exact Im.GY (by rw [List.map_drop,List.map_drop,hm])
 rw [List.getElem_mapIdx,Im.lq];exact ⟨e.av,e.num,e.y,e.m,e.d,e.net,e.aP,e.au,e.parts,e.bf,e.aY,hc⟩
section
variable {A B1 B2 B3 B4:Nat} {w u:World} {h:Bl.Sv} {s:Bl.St} {rs:List Pd.T}
theorem Im.Rn.tK (r:Im.Rn A B1 B2 B3 B4 w h s rs) (b:Nat) (e:(Bl.sl h.post).ownBlock=some b):B2<=b/\b < B3:=⟨(World.ownsRow.lt r.post b e).1,r.dS b e⟩
theorem Im.Rn.GZ (r:Im.Rn A B1 B2 B3 B4 w h s rs) (b:Nat) (e:(Bl.sl h.av).ownBlock=some b):B1<=b/\b < B2:=⟨(World.ownsRow.lt r.av b e).1,r.iY b e⟩
theorem Im.Rn.Aq (r:Im.Rn A B1 B2 B3 B4 w h s rs) (i:Nat) (hi:i < rs.length) (b:Nat) (e:(Bl.sl rs[i].parts).ownBlock=some b):B2<=b/\b < B3:=⟨(r.AB.lt r.each.len i hi b e).1,r.NI i hi b e⟩
theorem Im.Rn.rows (r:Im.Rn A B1 B2 B3 B4 w h s rs) {rs':List Pd.T} {ps':List Bl.Ps} (k:bI (fun b=>(Bl.sl h.post).ownBlock=some b) w u) (hO:Pd.Own u B2 (Bl.sl h.post) rs') (hl:rs'.length=rs.length) (hsh:∀ x∈rs',Pd.Short x) (hE:Bl.Each w rs' ps') (hp:∀ i (h1:i < rs'.length) (h2:i < rs.length),rs'[i].parts=rs[i].parts) (hq:∀ i (h1:i < ps'.length) (h2:i < s.post.length),ps'[i].tot.parts=s.post[i].tot.parts):Im.Rn A B1 B2 B3 B4 u h ⟨s.tab,s.av,ps',s.book,s.ak,s.next⟩ rs':=by
 have kq:jN (fun b=>A<=b/\b < B4/\(b < B1\/B3<=b)) w u:=k.kR fun b hb e=>by
  have:=r.tK b e;have:=r.VB;omega
 have hle:=r.each.len
 have off:∀ i (hi:i < rs'.length) b,(Bl.sl rs'[i].parts).ownBlock=some b->(Bl.sl h.post).ownBlock≠some b:=fun i hi b e=>by
  rw [hp i hi (hl▸hi)] at e;exact r.AB.off i (hl▸hi) b e
 refine ⟨r.Y1,r.VB,r.VD,r.XJ,Nat.le_trans r.Y2 k.size,k.rows r.av fun b e q=>?_,r.iY,hO,r.dS,hsh,?_,?_,?_,r.tab.kR r.jf kq,r.ak.kR r.eY kq,r.next,r.fit,r.jf,r.eY⟩
 ·
  have h1:=r.GZ b e;have h2:=r.tK b q;omega
 ·
  refine ⟨hE.len,fun i hi=>(hE.each i hi).kR (P:=fun b=>(Bl.sl h.post).ownBlock≠some b) (fun hn b o e=>off i hi b ?_) (k.kR fun b hb=>hb)⟩;show (Value.slice rs'[i].parts.ao rs'[i].parts.n rs'[i].parts.cap).ownBlock=_;rw [e];rfl
 ·
  refine ⟨fun i hi hk=>?_,off,fun i j hi hj hij b e=>?_⟩
  ·
   have hi':i < rs.length:=hl▸hi;have h1:=r.AB.own i hi' (hle▸hi');rw [hp i hi hi',hq i hk (hle▸hi')];exact k.rows h1 fun b e q=>r.AB.off i hi' b e q
  ·
   rw [hp i hi (hl▸hi)] at e;rw [hp j hj (hl▸hj)];exact r.AB.apart i j (hl▸hi) (hl▸hj) hij b e
 ·
  intro i hi b e;rw [hp i hi (hl▸hi)] at e;exact r.NI i (hl▸hi) b e
theorem Im.Rn.UJ (r:Im.Rn A B1 B2 B3 B4 w h s rs) {ss':List Sr.T} (k:bI (fun b=>(Bl.sl h.av).ownBlock=some b) w u) (hO:Sr.Own u B1 (Bl.sl h.av) ss'):Im.Rn A B1 B2 B3 B4 u h ⟨s.tab,ss',s.post,s.book,s.ak,s.next⟩ rs:=by
 have kq:jN (fun b=>A<=b/\b < B4/\(b < B1\/B3<=b)) w u:=k.kR fun b hb e=>by
  have:=r.GZ b e;have:=r.VD;omega
 have hle:=r.each.len
 have np:∀ b,B2<=b-> ¬ (Bl.sl h.av).ownBlock=some b:=fun b hb e=>by
  have:=r.GZ b e;omega
 refine ⟨r.Y1,r.VB,r.VD,r.XJ,Nat.le_trans r.Y2 k.size,hO,r.iY,k.rows r.post fun b e=>np b (r.tK b e).1,r.dS,r.short,?_,?_,r.NI,r.tab.kR r.jf kq,r.ak.kR r.eY kq,r.next,r.fit,r.jf,r.eY⟩
 ·
  refine ⟨hle,fun i hi=>(r.each.each i hi).kR (P:=fun b=>B2<=b) (fun hn b o e=>(r.Aq i hi b ?_).1) (k.kR fun b hb=>np b hb)⟩;show (Value.slice rs[i].parts.ao rs[i].parts.n rs[i].parts.cap).ownBlock=_;rw [e];rfl
 · exact ⟨fun i hi hk=>k.rows (r.AB.own i hi hk) fun b e=>np b (r.Aq i hi b e).1,r.AB.off,r.AB.apart⟩
theorem Im.Rn.one (r:Im.Rn A B1 B2 B3 B4 w h s rs) {k:Nat} (hk:k < rs.length) (hkp:k < s.post.length) {N T G:Int} {ts:List Pt.T} (hU:bI (fun b=>(Bl.sl h.post).ownBlock=some b\/(Bl.sl rs[k].parts).ownBlock=some b) w u) (hO:Pd.Own u B2 (Bl.sl h.post) (rs.set k (Im.mI rs[k] N T G))) (hP:Pt.Own u B2 (Bl.sl rs[k].parts) ts) (hts:∀ x∈ts,Pt.Short x) (hN:Fit N) (hT:Fit T) (hG:Fit G) :
  Im.Rn A B1 B2 B3 B4 u h ⟨s.tab,s.av,s.post.set k (Im.wQ s.post[k] ⟨N,T,G,ts⟩),s.book,s.ak,s.next⟩ (rs.set k (Im.mI rs[k] N T G)):=by
 have gq:∀ b,((Bl.sl h.post).ownBlock=some b\/(Bl.sl rs[k].parts).ownBlock=some b)->B2<=b/\b < B3:=fun b e=>e.elim (r.tK b) (r.Aq k hk b)
 have kq:jN (fun b=>A<=b/\b < B4/\(b < B1\/B3<=b)) w u:=hU.kR fun b hb e=>by
  have:=gq b e;have:=r.VB;omega
 have hle:=r.each.len
 have pts : ∀ i (hi : i < (rs.set k (Im.mI rs[k] N T G)).length),(rs.set k (Im.mI rs[k] N T G))[i].parts = (rs[i]'(by rw [List.length_set] at hi; exact hi)).parts := fun i hi => by
  rw [List.getElem_set];by_cases e:k=i
  ·
   subst e;rw [ab rfl];rfl
  · rw [aa e]
 have off:∀ i (hi:i < rs.length),i≠k->∀ b,(Bl.sl rs[i].parts).ownBlock=some b-> ¬ ((Bl.sl h.post).ownBlock=some b\/(Bl.sl rs[k].parts).ownBlock=some b):=fun i hi hne b e z=>by
  rcases z with z | z
  · exact r.AB.off i hi b e z
  ·
   rcases Nat.lt_or_ge i k with q | q
   · exact r.AB.apart i k hi hk q b e z
   · exact r.AB.apart k i hk hi (by omega) b z e
 refine ⟨r.Y1,r.VB,r.VD,r.XJ,Nat.le_trans r.Y2 hU.size,hU.rows r.av fun b e q=>?_,r.iY,hO,r.dS,?_,?_,?_,?_,r.tab.kR r.jf kq,r.ak.kR r.eY kq,r.next,r.fit,r.jf,r.eY⟩
 ·
  have h1:=r.GZ b e;have h2:=gq b q;omega
 ·
  intro x hx;rcases List.mem_or_eq_of_mem_set hx with hx | rfl
  · exact r.short x hx
  ·
   have h0:=r.short _ (ae hk);exact ⟨h0.1,h0.2.1,h0.2.2.1,h0.2.2.2.1,h0.2.2.2.2.1,hN,hT,hG,h0.2.2.2.2.2.2.2.2.1,h0.2.2.2.2.2.2.2.2.2⟩
 ·
  refine ⟨by rw [List.length_set,List.length_set,hle],fun i hi=>?_⟩;rw [List.length_set] at hi;have e:=r.each.each i hi;rw [List.getElem_set];simp only [List.getElem_set];by_cases q:k=i
  ·
   subst q;simp only [ab];obtain ⟨ao,cap,e1,l1,_⟩:=Pt.aX hP hts;unfold Bl.sl at e1;simp only [Value.slice.injEq] at e1;refine ⟨e.av,e.num,e.y,e.m,e.d,rfl,rfl,rfl,?_,e.bf,e.aY,e.back⟩;show Pt.Ls u rs[k].parts.ao rs[k].parts.n rs[k].parts.cap ts;rw [e1.1,e1.2.1,e1.2.2];exact l1
  ·
   simp only [aa q];refine e.kR (P:=fun b=> ¬ ((Bl.sl h.post).ownBlock=some b\/(Bl.sl rs[k].parts).ownBlock=some b)) (fun hn b o z=>off i hi (fun y=>q y.symm) b ?_) (hU.kR fun b hb=>hb);show (Value.slice rs[i].parts.ao rs[i].parts.n rs[i].parts.cap).ownBlock=_;rw [z];rfl
 ·
  refine ⟨fun i hi hk2=>?_,fun i hi b e=>?_,fun i j hi hj hij b e=>?_⟩
  ·
   rw [pts i hi];rw [List.length_set] at hi;have Vn:i < s.post.length:=hle▸hi;by_cases q:k=i
   ·
    subst q;rw [List.getElem_set_self];exact hP
   ·
    rw [List.getElem_set_ne q];exact hU.rows (r.AB.own i hi Vn) fun b e=>off i hi (fun y=>q y.symm) b e
  ·
   rw [pts i hi] at e;exact r.AB.off i (by rw [List.length_set] at hi;exact hi) b e
  ·
   rw [pts i hi] at e;rw [pts j hj];exact r.AB.apart i j (by rw [List.length_set] at hi;exact hi) (by rw [List.length_set] at hj;exact hj) hij b e
 ·
  intro i hi b e;rw [pts i hi] at e;exact r.NI i (by rw [List.length_set] at hi;exact hi) b e
end
theorem Im.G5:∀ (l:List Pt.T) {a:Int},Fit a->Fit (Im.mF a l)
 | [],_,h=>h
 | _::l,_,_=>Im.G5 l (Im.Ec _)
theorem Im.G6:∀ (l:List Pt.T) {a:Int},Fit a->Fit (Im.mG a l)
 | [],_,h=>h
 | _::l,_,_=>Im.G6 l (Im.Ec _)
theorem Im.G7 {x:Pt.T} (h:Pt.Short x):Pt.Short (Im.fH x):=⟨h.1,h.2.1,h.2.2.1,yE _ _⟩
def Im.tF (_:Nat) (p:Bl.Ps):Bl.Ps:=Im.wQ p (Im.D8 p.tot)
variable {h:Bl.Sv} {s:Bl.St}
theorem Bd (r:Im.Rn A B1 B2 B3 B4 w h s rs) (k g:Nat) (hk:k < rs.length) (hkp:k < s.post.length) (hg:h.post.ao=some ⟨g,0,none⟩) (hm:s.post[k].tot.parts.length<=1000) (hs:∀ x∈s.post[k].tot.parts,Pt.Short x) :
  Calls Tryz.prog 58 #[.pointer (some ⟨g,k*12+5,none⟩)] w fun e w'=>((e=.returned (.bool true)/\Im.dK s.post[k].tot=true/\∃ rs',rs'.length=rs.length/\Im.Rn A B1 B2 B3 B4 w' h ⟨s.tab,s.av,s.post.set k (Im.tF k s.post[k]),s.book,s.ak,s.next⟩ rs')\/(e=.returned (.bool false)/\Im.dK s.post[k].tot=false))/\bI (fun b=>B2<=b/\b < B3) w w':=by
 have hsl:Bl.sl h.post=.slice (some ⟨g,0,none⟩) h.post.n h.post.cap:=by unfold Bl.sl;rw [hg]
 have hO:=r.post;have e:=r.each.each k hk;have hP:=r.AB.own k hk hkp;have hsh:=r.short _ (ae hk);have gp:=r.tK g (by rw [hsl];rfl);have hoff:=r.AB.off k hk;have hne:∀ b,(Bl.sl rs[k].parts).ownBlock=some b->g≠b:=fun b z q=>hoff b z (by rw [hsl,<- q];rfl)
 obtain ⟨ts,hts⟩:∃ ts,s.post[k].tot.parts=ts:=⟨_,rfl⟩;rw [hts] at hP hm hs;have hTe:Im.dK s.post[k].tot=ts.all fun p=>decide (Sh.iC p.net p.bp=0):=by unfold Im.dK;rw [hts]
 have hTf:Im.D8 s.post[k].tot=⟨Im.mF rs[k].net ts,Im.mG rs[k].aP (ts.map Im.fH),Im.wr (Im.mF rs[k].net ts+Im.mG rs[k].aP (ts.map Im.fH)),ts.map Im.fH⟩:=by unfold Im.D8;rw [hts,e.net,e.aP]
 have f1:Fit (Im.mF rs[k].net ts):=Im.G5 _ hsh.2.2.2.2.2.1;have f2:Fit (Im.mG rs[k].aP (ts.map Im.fH)):=Im.G6 _ hsh.2.2.2.2.2.2.1;have f3:=Im.Ec (Im.mF rs[k].net ts+Im.mG rs[k].aP (ts.map Im.fH))
 have hsF:∀ x∈ts.map Im.fH,Pt.Short x:=fun x hx=>by
  obtain ⟨y,hy,rfl⟩:=List.mem_map.1 hx;exact Im.G7 (hs y hy)
 rcases hP.2 with ⟨h1,h2⟩ | ⟨pg,pc,cur,h1,hrest⟩
 ·
  have hnil:ts=[]:=List.length_eq_zero_iff.1 h2
  have hpr:rs[k].parts=⟨none,0,0⟩:=by
   unfold Bl.sl at h1;simp only [Value.slice.injEq] at h1;exact (show rs[k].parts=⟨rs[k].parts.ao,rs[k].parts.n,rs[k].parts.cap⟩ from rfl).trans (by rw [h1.1,h1.2.1,h1.2.2])
  rw [hsl] at hO;refine (A9 rs k g h.post.n h.post.cap B2 hk w hO hpr).mono ?_;rintro e' w' ⟨rfl,o1,u1⟩;subst hnil;have z:=r.one (N:=rs[k].net) (T:=rs[k].aP) (G:=Im.wr (rs[k].net+rs[k].aP)) (ts:=[]) hk hkp (u1.mono fun b q=>.inl (by rw [hsl,show b=g from q];rfl)) (by rw [hsl];exact o1) (u1.rows hP fun b z q=>hne b z (show b=g from q).symm) (fun x hx=>by cases hx) f1 f2 f3;refine ⟨.inl ⟨rfl,hTe,rs.set k (Im.mI rs[k] rs[k].net rs[k].aP (Im.wr (rs[k].net+rs[k].aP))),List.length_set,?_⟩,u1.mono fun b q=>by rw [show b=g from q];exact gp⟩;unfold Im.tF;rw [hTf];exact z
 ·
  have hn:ts.length=rs[k].parts.n:=by
   unfold Bl.sl at h1;simp only [Value.slice.injEq] at h1;exact h1.2.1.symm
  have hpr:rs[k].parts=⟨some ⟨pg,0,none⟩,ts.length,pc⟩:=by
   unfold Bl.sl at h1;simp only [Value.slice.injEq] at h1;exact (show rs[k].parts=⟨rs[k].parts.ao,rs[k].parts.n,rs[k].parts.cap⟩ from rfl).trans (by rw [h1.1,h1.2.1,h1.2.2])
  have hps:Bl.sl rs[k].parts=.slice (some ⟨pg,0,none⟩) ts.length pc:=by rw [hpr];rfl
  have gpp:=r.Aq k hk pg (by rw [hps];rfl);have hneq:g≠pg:=hne pg (by rw [hps];rfl);rw [hsl] at hO;rw [hps] at hP;refine (NY rs ts k g pg h.post.n h.post.cap ts.length pc B2 B2 hk w hO hP hneq hpr rfl hm hs).mono ?_;rintro e' w' ⟨h3,u1⟩;refine ⟨?_,u1.mono fun b q=>q.elim (fun z=>by rw [z];exact gp) fun z=>by rw [z];exact gpp⟩;rcases h3 with ⟨rfl,h4,o1,p1⟩ | ⟨rfl,x,hx,h4⟩
  ·
   have z:=r.one (N:=Im.mF rs[k].net ts) (T:=Im.mG rs[k].aP (ts.map Im.fH)) (G:=Im.wr (Im.mF rs[k].net ts+Im.mG rs[k].aP (ts.map Im.fH))) (ts:=ts.map Im.fH) hk hkp (u1.mono fun b q=>q.elim (fun z=>.inl (by rw [hsl,z];rfl)) fun z=>.inr (by rw [hps,z];rfl)) (by rw [hsl];exact o1) (by rw [hps];exact p1) hsF f1 f2 f3;refine .inl ⟨rfl,?_,rs.set k (Im.mI rs[k] (Im.mF rs[k].net ts) (Im.mG rs[k].aP (ts.map Im.fH)) (Im.wr (Im.mF rs[k].net ts+Im.mG rs[k].aP (ts.map Im.fH)))),List.length_set,?_⟩
   ·
    rw [hTe,List.all_eq_true];exact fun x hx=>decide_eq_true (h4 x hx)
   ·
    unfold Im.tF;rw [hTf];exact z
  ·
   refine .inr ⟨rfl,?_⟩;rw [hTe,List.all_eq_false];exact ⟨x,hx,by simpa using h4⟩
theorem Im.Rn.lp (r:Im.Rn A B1 B2 B3 B4 w h s rs) (hs:∀ x∈s.av,Sr.Short x) {bo:Sl} {b:List Ba.T} (hb:Ba.Ls w bo.ao bo.n bo.cap b) (pb:kQ (fun c=>A<=c/\c≠q) bo.ao bo.n) (hq:q < A\/B4<=q):Bl.Lp (fun c=>A<=c/\c≠q) w ⟨h.tab,h.av,h.post,bo,h.ak,h.next⟩ ⟨s.tab,s.av,s.post,b,s.ak,s.next⟩:=by
 have inp:∀ {ao:Option Addr} {n cap:Nat},(∀ c,(Value.slice ao n cap).ownBlock=some c->A<=c/\c < B4)->kQ (fun c=>A<=c/\c≠q) ao n:=fun k _ c o e=>by
  have:=k c (by rw [e];rfl);exact ⟨this.1,by omega⟩
 have l3:=r.VD;have l4:=r.XJ;have l1:=r.Y1;have l2:=r.VB;obtain ⟨ao1,c1,e1,s1,_⟩:=Sr.aX r.av hs;obtain ⟨mO,c2,e2,s2,_⟩:=Pd.aX r.post r.short;unfold Bl.sl at e1 e2;simp only [Value.slice.injEq] at e1 e2;refine ⟨r.tab,?_,⟨rs,?_,r.each,fun x hx=>?_⟩,hb,r.ak,r.next,r.fit,r.jf.mono fun c hc=>⟨hc.1,by omega⟩,inp (cap:=h.av.cap) fun c e=>by have:=r.GZ c e;omega,inp (cap:=h.post.cap) fun c e=>by have:=r.tK c e;omega,pb,r.eY.mono fun c hc=>⟨hc.1,by omega⟩⟩
 ·
  show Sr.Ls w h.av.ao h.av.n h.av.cap s.av;rw [e1.1,e1.2.1,e1.2.2];exact s1
 ·
  show Pd.Ls w h.post.ao h.post.n h.post.cap rs;rw [e2.1,e2.2.1,e2.2.2];exact s2
 ·
  obtain ⟨i,hi,rfl⟩:=List.getElem_of_mem hx;exact inp (cap:=rs[i].parts.cap) fun c e=>by have:=r.Aq i hi c e;omega
theorem Im.Rn.keep (r:Im.Rn A B1 B2 B3 B4 w h s rs) (k:bI (fun b=>b=q) w u) (hq:q < A\/B4<=q):Im.Rn A B1 B2 B3 B4 u h s rs:=by
 have l1:=r.Y1;have l2:=r.VB;have l3:=r.VD;have l4:=r.XJ;have kq:jN (fun b=>A<=b/\b < B4) w u:=k.kR fun b hb e=>by have:=hb;omega
 refine ⟨l1,l2,r.VD,r.XJ,Nat.le_trans r.Y2 k.size,k.rows r.av fun b e z=>?_,r.iY,k.rows r.post fun b e z=>?_,r.dS,r.short,⟨r.each.len,fun i hi=>(r.each.each i hi).kR (fun hn b o e=>?_) kq⟩,⟨fun i hi hk=>k.rows (r.AB.own i hi hk) fun b e z=>?_,r.AB.off,r.AB.apart⟩,r.NI,r.tab.kR (r.jf.mono fun c hc=>⟨hc.1,hc.2.1⟩) kq,r.ak.kR (r.eY.mono fun c hc=>⟨hc.1,hc.2.1⟩) kq,r.next,r.fit,r.jf,r.eY⟩
 ·
  have:=r.GZ b e;omega
 ·
  have:=r.tK b e;omega
 ·
  have:=r.Aq i hi b (by show (Value.slice rs[i].parts.ao rs[i].parts.n rs[i].parts.cap).ownBlock=_;rw [e];rfl);show A<=b/\b < B4;omega
 ·
  have:=r.Aq i hi b e;omega
theorem Im.Rn.below {A B1 B2 B3 B4:Nat} {w u:World} {h:Bl.Sv} {s:Bl.St} {rs:List Pd.T} (r:Im.Rn A B1 B2 B3 B4 w h s rs) (k:Below w.heap.size w u):Im.Rn A B1 B2 B3 B4 u h s rs:=by
 exact ⟨r.Y1,r.VB,r.VD,r.XJ,Nat.le_trans r.Y2 k.size,Sr.own_below r.av k,r.iY,Pd.own_below r.post k,r.dS,r.short,r.each.below k,⟨fun i hi hk=>Pt.own_below (r.AB.own i hi hk) k,r.AB.off,r.AB.apart⟩,r.NI,r.tab.below k,r.ak.below k,r.next,r.fit,r.jf,r.eY⟩
theorem Im.Wy {k:Nat} (hk:k < (Im.mE (Im.nU s.post)).length) (h:Im.dK (Im.mE (Im.nU s.post))[k].tot=false):Im.fill s=none:=by
 unfold Im.fill;rw [aa];intro hall;rw [List.all_eq_true] at hall;have hk2:k < s.post.length:=by rw [Im.eH,Im.gB] at hk;exact hk
 have h1:=hall _ (ae hk2);rw [Im.lq,Im.ny] at h;rw [show Im.dK s.post[k].tot=false from h] at h1;cases h1
theorem Im.Te (h:∀ i (hi:i < (Im.mE (Im.nU s.post)).length),Im.dK (Im.mE (Im.nU s.post))[i].tot=true):(s.post.all fun p=>Im.dK p.tot)=true:=by
 rw [List.all_eq_true];intro p hp;obtain ⟨i,hi,rfl⟩:=List.getElem_of_mem hp;have h1:=h i (by rw [Im.eH,Im.gB];exact hi);rw [Im.lq,Im.ny] at h1;exact h1
theorem Im.ZK (l:List Bl.Ps):l.mapIdx Im.tF=l.map fun p=>Im.wQ p (Im.D8 p.tot):=by
 refine List.ext_getElem (by rw [List.length_mapIdx,List.length_map]) fun i h1 h2=>?_
 rw [List.getElem_mapIdx,List.getElem_map];rfl
theorem Im.updA {v:World} (h:bI (fun b=>A<=b/\b < B4) w u) (k:bI (fun b=>B2<=b/\b < B3) u v) (hA:A<=B2) (hB:B3<=B4):bI (fun b=>A<=b/\b < B4) w v:=h.trans (k.mono fun b hb=>by omega)
theorem Im.At.keep {v:World} {Q:Nat->Prop} (a:Bl.At u q h) (k:bI Q u v) (hq: ¬ Q q):Bl.At v q h:=(k.block q a.lt hq).trans a
theorem J5 (q:Nat) (hA:Bl.At w q h) (hR:Im.Rn A B1 B2 B3 B4 w h s rs) (hS:Im.Rs s) (hq:q < A\/B4<=q) :
  Calls Tryz.prog 21 #[.pointer (some ⟨q,0,none⟩)] w fun e w'=>((∃ t h',e=.returned (.bool true)/\Im.fill s=some t/\Bl.At w' q h'/\Bl.Lp (fun b=>A<=b/\b≠q) w' h' t)\/(e=.returned (.bool false)/\Im.fill s=none))/\bI (fun b=>b=q\/(A<=b/\b < B4)) w w':=by
 have HS:=Lh hS;have HR:=Lh hR;have l1:=hR.Y1;have l2:=hR.VB;have l3:=hR.VD;have l4:=hR.XJ
 have hn:h.post.n=rs.length:=by
  obtain ⟨a,c,e,l,_⟩:=Pd.aX hR.post hR.short;unfold Bl.sl at e;simp only [Value.slice.injEq] at e;exact e.2.1
 have hnS:h.av.n=s.av.length:=by
  obtain ⟨a,c,e,l,_⟩:=Sr.aX hR.av hS.Y3;unfold Bl.sl at e;simp only [Value.slice.injEq] at e;exact e.2.1
 have hn40:h.post.n<=40:=by
  have h1:=hR.each.len;have h2:=hS.post;omega
 have hs8:h.av.n<=8:=by
  have h2:=hS.av;omega
 have HN:=Lh hn;have HNS:=Lh hnS
 have HNum:Hid (∀ u,Im.Rn A B1 B2 B3 B4 u h s rs->Calls Tryz.prog 55 #[.slice h.post.ao h.post.n h.post.cap] u fun e w'=>e=.returned (.tuple #[])/\(∃ rs',rs'.length=rs.length/\Im.Rn A B1 B2 B3 B4 w' h ⟨s.tab,s.av,Im.nU s.post,s.book,s.ak,s.next⟩ rs')/\bI (fun b=>B2<=b/\b < B3) u w'):=Lh fun u r=>by
  refine (JF rs h.post.ao h.post.n h.post.cap B2 u r.post r.short HN.out (by omega)).mono ?_;rintro e w' ⟨rfl,o,k⟩;refine ⟨rfl,⟨_,List.length_mapIdx,r.rows k o List.length_mapIdx ?_ r.each.num ?_ ?_⟩,k.mono fun b hb=>r.tK b hb⟩
  ·
   have:=Im.Gt r.short (by have:=HN.out;omega) rs.length;rw [Im.mH (ac _)] at this;exact this
  ·
   intro i h1 h2;rw [List.getElem_mapIdx];rfl
  ·
   intro i h1 h2;rw [Im.ny];rfl
 have HCrd:Hid (∀ u (s1:Bl.St) (Em:List Pd.T),Em.length=rs.length->Im.Rn A B1 B2 B3 B4 u h s1 Em->Calls Tryz.prog 56 #[.slice h.post.ao h.post.n h.post.cap] u fun e w'=>e=.returned (.tuple #[])/\(∃ rs',rs'.length=rs.length/\Im.Rn A B1 B2 B3 B4 w' h ⟨s1.tab,s1.av,Im.mE s1.post,s1.book,s1.ak,s1.next⟩ rs')/\bI (fun b=>B2<=b/\b < B3) u w'):=Lh fun u s1 Em hl r=>by
  refine (JH Em h.post.ao h.post.n h.post.cap B2 u r.post r.short (by rw [hl];exact HN.out) (by omega)).mono ?_;rintro e w' ⟨rfl,o,k⟩;refine ⟨rfl,⟨_,List.length_mapIdx.trans hl,r.rows k o List.length_mapIdx ?_ r.each.UN ?_ ?_⟩,k.mono fun b hb=>r.tK b hb⟩
  ·
   have:=Im.Gu r.short Em.length;rw [Im.mH (ac _)] at this;exact this
  ·
   intro i h1 h2;rw [List.getElem_mapIdx];rfl
  ·
   intro i h1 h2;rw [Im.lq];rfl
 have HAdv:Hid (∀ u (s1:Bl.St) (Em:List Pd.T),Em.length=rs.length->s1.av=s.av->s1.post.map (·.av)=s.post.map (·.av)->Im.Rn A B1 B2 B3 B4 u h s1 Em->Calls Tryz.prog 57 #[.slice h.av.ao h.av.n h.av.cap,.slice h.post.ao h.post.n h.post.cap] u fun e w'=>e=.returned (.tuple #[])/\Im.Rn A B1 B2 B3 B4 w' h ⟨s1.tab,Im.sK s.av s.post,s1.post,s1.book,s1.ak,s1.next⟩ Em/\bI (fun b=>A<=b/\b < B4) u w'):=Lh fun u s1 Em hl hss hps r=>by
  have Ny:Pd.Ls u h.post.ao h.post.n h.post.cap Em:=by
   obtain ⟨a,c,e,l,_⟩:=Pd.aX r.post r.short;unfold Bl.sl at e;simp only [Value.slice.injEq] at e;rw [e.1,e.2.1,e.2.2];exact l
  refine (Gw s1.av Em h.av.ao h.post.ao h.av.n h.av.cap h.post.n h.post.cap B1 u r.av (by rw [hss];exact HS.out.Y3) (by rw [hss];exact HNS.out) Ny (by omega) (by omega) (fun hn b o e z=>?_)).mono ?_
  ·
   have h1:=r.GZ b z;have h2:=r.tK b (by unfold Bl.sl;rw [e];rfl);omega
  rintro e w' ⟨rfl,o,k⟩;refine ⟨rfl,?_,k.mono fun b hb=>by have:=r.GZ b hb;omega⟩
  have hsf:s1.av.mapIdx (Im.sF Em)=Im.sK s.av s.post:=by
   rw [hss];unfold Im.sK;refine List.ext_getElem (by rw [List.length_mapIdx,List.length_map]) fun i h1 h2=>?_
   rw [List.getElem_mapIdx,List.getElem_map];unfold Im.sF Im.Lm;rw [Im.Ao (w:=u) _ ((r.each.ZJ (·.av) (·.av) fun _ _ z=>z.av).trans hps)]
  rw [<- hsf];exact r.UJ k o
 have HA0:=Lh hA;obtain ⟨x0,x1,x2,x3,x4,x5⟩:=hA.cells;clear hA hR hS hn hnS;go_enter Tryz.func21,Tryz.ntmps21;go_wp2_with fail;refine (HNum.out w HR.out).mono ?_;rintro e w1 ⟨rfl,⟨Em,hl1,r1⟩,k1⟩;have lK:=Lh hl1;have HR1:=Lh r1;have HA1:=Lh (Im.At.keep HA0.out k1 (by omega));have mQ:Hid (bI (fun b=>A<=b/\b < B4) w w1):=Lh (k1.mono fun b hb=>by omega);clear hl1 r1 k1 HNum x0 x1 x2 x3 x4 x5;obtain ⟨x0,x1,x2,x3,x4,x5⟩:=HA1.out.cells;go_wp2_with fail;refine (HCrd.out w1 _ Em lK.out HR1.out).mono ?_;rintro e w2 ⟨rfl,⟨Yb,hl2,r2⟩,k2⟩;have HL2:=Lh hl2;have HR2:=Lh r2;have HA2:=Lh (Im.At.keep HA1.out k2 (by omega));have uM:Hid (bI (fun b=>A<=b/\b < B4) w w2):=Lh (Im.updA mQ.out k2 (by omega) (by omega));clear hl2 r2 k2 HCrd x0 x1 x2 x3 x4 x5;obtain ⟨x0,x1,x2,x3,x4,x5⟩:=HA2.out.cells;obtain ⟨P2,hP2⟩:∃ P,Im.mE (Im.nU s.post)=P:=⟨_,rfl⟩;have Tf:=Lh hP2
 have HAd:Hid (∀ u,Below w2.heap.size w2 u->Calls Tryz.prog 57 #[.slice h.av.ao h.av.n h.av.cap,.slice h.post.ao h.post.n h.post.cap] u fun e w'=>e=.returned (.tuple #[])/\Hid (Im.Rn A B1 B2 B3 B4 w' h ⟨s.tab,Im.sK s.av s.post,P2,s.book,s.ak,s.next⟩ Yb)/\Hid (Bl.At w' q h)/\Hid (bI (fun b=>A<=b/\b < B4) w w')):=Lh fun u hu=>by
  refine (HAdv.out u ⟨s.tab,s.av,Im.mE (Im.nU s.post),s.book,s.ak,s.next⟩ Yb HL2.out rfl ?_ (HR2.out.below hu)).mono ?_
  ·
   show (Im.mE (Im.nU s.post)).map (·.av)=s.post.map (·.av);refine List.ext_getElem (by rw [List.length_map,List.length_map,Im.eH,Im.gB]) fun i h1 h2=>?_
   rw [List.getElem_map,List.getElem_map,Im.lq,Im.ny];rfl
  ·
   rintro e w' ⟨rfl,r,k⟩;refine ⟨rfl,Lh (by rw [<- Tf.out];exact r),Lh (Im.At.keep (HA2.out.below hu) k (by omega)),Lh ((uM.out.ru hu).trans k)⟩
 clear HAdv hP2;go_wp2_with fail
 go_cut [] (fun wx=>Hid (Im.Rn A B1 B2 B3 B4 wx h ⟨s.tab,Im.sK s.av s.post,P2,s.book,s.ak,s.next⟩ Yb)/\Hid (Bl.At wx q h)/\Hid (bI (fun b=>A<=b/\b < B4) w wx))
 case first =>
  go_region_with (go_at_call 57;refine (HAd.out _ (by first | exact ah | exact ah.drew)).mono ?_;rintro e u ⟨rfl,r3,a3,k3⟩)
  all_goals (try go_wp2_with fail)
  all_goals go_meet
  all_goals exact ⟨r3,a3,k3⟩
 case rest =>
  obtain ⟨HR3,JR,FH⟩:=hcut;clear HR2 HA2 uM HR1 HA1 mQ HAd x0 x1 x2 x3 x4 x5;rename World=>w3
  obtain ⟨x0,x1,x2,x3,x4,x5⟩:=JR.out.cells;have HLP:Hid (P2.length=h.post.n):=Lh (by rw [<- Tf.out,Im.eH,Im.gB];have:=HN.out;have:=HR.out.each.len;omega)
  have O7:Hid (∀ p∈P2,p.tot.parts.length<=12/\∀ x∈p.tot.parts,Pt.Short x/\x.cat.size<=64):=Lh fun p hp=>by
   rw [<- Tf.out] at hp;obtain ⟨i,hi,rfl⟩:=List.getElem_of_mem hp;rw [Im.lq,Im.ny];rw [Im.eH,Im.gB] at hi;exact ⟨show s.post[i].tot.parts.length<=12 from HS.out.parts _ (ae hi),show ∀ x∈s.post[i].tot.parts,Pt.Short x/\x.cat.size<=64 from HS.out.partS _ (ae hi)⟩
  go_wp2_with fail;clear x0 x1 x2 x3 x4 x5
  go_loopw [3,29] (fun _ j wr=>∃ (k:Nat) (rk:List Pd.T),k<=h.post.n/\j=.int .i64 k/\Hid (rk.length=rs.length)/\Hid (Im.Rn A B1 B2 B3 B4 wr h ⟨s.tab,Im.sK s.av s.post,Im.mix Im.tF k P2,s.book,s.ak,s.next⟩ rk)/\Hid (Bl.At wr q h)/\Hid (bI (fun b=>A<=b/\b < B4) w wr)/\Hid (∀ i (hi:i < P2.length),i < k->Im.dK P2[i].tot=true)) (fun _ j _=>h.post.n - (intOf j).toNat)
  case atStart=>exact ⟨0,Yb,by omega,rfl,HL2,Lh (by rw [Im.rJ];exact HR3.out),JR,FH,Lh fun i hi hk=>absurd hk (Nat.not_lt_zero _)⟩
  case round =>
   clear HR3 JR FH HL2;rename World=>wz
   obtain ⟨k,rk,hk,rfl,HLk,NG,HAk,HUk,ZG⟩:=hrel;obtain ⟨x0,x1,x2,x3,x4,x5⟩:=HAk.out.cells;by_cases hlt:k < h.post.n
   ·
    have hkr:k < rk.length:=by have:=HLk.out;have:=HN.out;omega
    have hkP:k < P2.length:=by have:=HLP.out;omega
    have hkm:k < (Im.mix Im.tF k P2).length:=by rw [Im.dB];exact hkP
    obtain ⟨g,hg⟩:∃ g,h.post.ao=some ⟨g,0,none⟩:=Im.Lx (by have h1:=NG.out.post;unfold Pd.Own Bl.sl at h1;rw [show rk.length=h.post.n from by have:=HLk.out;have:=HN.out;omega] at h1;exact h1) (by omega);have HGo:=Lh hg;have HMa:=Lh (Im.qF (f:=Im.tF) hkP);have HMs:=Lh (Im.oN (f:=Im.tF) hkP)
    have Eh:Hid (Calls Tryz.prog 58 #[.pointer (some ⟨g,k*12+5,none⟩)] wz fun e w'=>((e=.returned (.bool true)/\Im.dK P2[k].tot=true/\∃ rs',rs'.length=rs.length/\Im.Rn A B1 B2 B3 B4 w' h ⟨s.tab,Im.sK s.av s.post,Im.mix Im.tF (k+1) P2,s.book,s.ak,s.next⟩ rs')\/(e=.returned (.bool false)/\Im.dK P2[k].tot=false))/\bI (fun b=>B2<=b/\b < B3) wz w'):=Lh (by
     have hmem:=O7.out _ (ae hkP);refine (Bd NG.out k g hkr hkm HGo.out (by show (Im.mix Im.tF k P2)[k].tot.parts.length<=1000;rw [HMa.out];have:=hmem.1;omega) (by show ∀ x∈(Im.mix Im.tF k P2)[k].tot.parts,Pt.Short x;rw [HMa.out];exact fun x hx=>(hmem.2 x hx).1)).mono ?_;rintro e w' ⟨h1,h2⟩;refine ⟨?_,h2⟩;rcases h1 with ⟨rfl,h3,rs',h4,h5⟩ | ⟨rfl,h3⟩
     ·
      refine .inl ⟨rfl,?_,rs',h4.trans HLk.out,?_⟩
      ·
       have h6:Im.dK (Im.mix Im.tF k P2)[k].tot=true:=h3;rw [HMa.out] at h6;exact h6
      ·
       rw [<- HMs.out];have h6:Im.Rn A B1 B2 B3 B4 w' h ⟨s.tab,Im.sK s.av s.post,(Im.mix Im.tF k P2).set k (Im.tF k (Im.mix Im.tF k P2)[k]),s.book,s.ak,s.next⟩ rs':=h5;rw [HMa.out] at h6;exact h6
     ·
      refine .inr ⟨rfl,?_⟩;have h6:Im.dK (Im.mix Im.tF k P2)[k].tot=false:=h3;rw [HMa.out] at h6;exact h6)
    have hcp:h.post.n<=h.post.cap/\h.post.cap<=9223372036854775807:=by
     obtain ⟨a,c,e,l,_⟩:=Pd.aX NG.out.post NG.out.short;unfold Bl.sl at e;simp only [Value.slice.injEq] at e;rw [e.2.1,e.2.2];exact ⟨l.fits,l.reach⟩
    obtain ⟨hc1,hc2⟩:=hcp;rw [hg] at x2;clear hg;go_wp2_with fail;refine Eh.out.mono ?_;rintro e w4 ⟨h4,k4⟩;have JX:=Lh (Im.At.keep HAk.out k4 (by omega));have ZL:Hid (bI (fun b=>A<=b/\b < B4) w w4):=Lh (Im.updA HUk.out k4 (by omega) (by omega));clear k4 Eh x0 x1 x2 x3 x4 x5;rcases h4 with ⟨rfl,hT,rs4,hl4,r4⟩ | ⟨rfl,hT⟩
    ·
     have HE4:Hid (∀ i (hi:i < P2.length),i < k+1->Im.dK P2[i].tot=true):=Lh fun i hi hik=>by
      rcases Nat.lt_or_ge i k with z | z
      · exact ZG.out i hi z
      ·
       obtain rfl:i=k:=by omega
       exact hT
     have AJ:=Lh hl4;have HR4:=Lh r4;clear hT hl4 r4;go_wp2_with fail;go_roundw
     case rel=>exact ⟨k+1,rs4,by omega,by go_num,AJ,HR4,JX,ZL,HE4⟩
     case measure=>simp [intOf];omega
    ·
     have cK:Hid (Im.fill s=none):=Lh (Im.Wy (k:=k) (by rw [Tf.out];exact hkP) (by simp only [Tf.out];exact hT));clear hT;go_wp2_with fail;go_ret;exact ⟨.inr ⟨rfl,cK.out⟩,ZL.out.mono fun b hb=>.inr hb⟩
   ·
    obtain rfl:k=h.post.n:=by omega
    have HFull:Hid (Im.mix Im.tF h.post.n P2=Im.nV s.post):=Lh (by
     rw [Im.mH (by have:=HLP.out;omega),Im.ZK,<- Tf.out];rfl)
    rw [HFull.out] at NG
    have VT:Hid ((s.post.all fun p=>Im.dK p.tot)=true):=Lh (Im.Te fun i hi=>by
     have h1:=ZG.out i (by rw [<- Tf.out];exact hi) (by have:=HLP.out;rw [<- this,<- Tf.out];exact hi);simp only [Tf.out];exact h1)
    have gV:Hid (Calls Tryz.prog 59 #[.slice h.post.ao h.post.n h.post.cap] wz fun e w'=>((∃ v b,e=.returned (.tuple #[v,.bool true])/\Bl.aT (Im.nV s.post) []=some b/\Ba.Own w' wz.heap.size v b/\∀ r∈b,Ba.Short r)\/(e=.returned (.tuple #[.slice none 0 0,.bool false])/\Bl.aT (Im.nV s.post) []=none))/\Below wz.heap.size wz w'):=Lh (by
     have Ny:Pd.Ls wz h.post.ao h.post.n h.post.cap rk:=by
      obtain ⟨a,c,e,l,_⟩:=Pd.aX NG.out.post NG.out.short;unfold Bl.sl at e;simp only [Value.slice.injEq] at e;rw [e.1,e.2.1,e.2.2];exact l
     refine Td (Im.nV s.post) rk _ _ _ wz Ny NG.out.each hn40 fun p hp=>?_
     obtain ⟨i,hi,rfl⟩:=List.getElem_of_mem hp;rw [Im.Ae];have hi2:i < P2.length:=by rw [Im.nW] at hi;rw [<- Tf.out,Im.eH,Im.gB];exact hi
     have hm:=O7.out _ (ae hi2);simp only [Tf.out];refine ⟨?_,fun x hx=>?_⟩
     ·
      show (P2[i].tot.parts.map Im.fH).length<=12;rw [List.length_map];exact hm.1
     ·
      have hx':x∈P2[i].tot.parts.map Im.fH:=hx;obtain ⟨y,hy,rfl⟩:=List.mem_map.1 hx';have:=(hm.2 y hy).2;show y.cat.size<=_;omega)
    go_wp2_with fail;refine gV.out.mono ?_;rintro e w5 ⟨h5,b5⟩;have HQz:=Lh HAk.out.lt;have Wz:=Lh (HAk.out.below b5);have HR5:=Lh (NG.out.below b5);have HU5:Hid (bI (fun b=>A<=b/\b < B4) w w5):=Lh (HUk.out.ru b5);have HZ5:Hid (A<=wz.heap.size):=Lh (by have:=NG.out.Y2;omega);clear b5 gV x0 x1 x2 x3 x4 x5;obtain ⟨x0,x1,x2,x3,x4,x5⟩:=Wz.out.cells;have z3:=Wz.out.frozen 3;have hqw:=Wz.out.lt;rcases h5 with ⟨v,b,rfl,hb,ob,sb⟩ | ⟨rfl,hb⟩
    ·
     obtain ⟨vo,vc,rfl,l5,g5⟩:=Ba.aX ob sb;have HOb:=Lh l5;have HGb:=Lh g5
     have HFi:Hid (Im.fill s=some ⟨s.tab,Im.sK s.av s.post,Im.nV s.post,b,s.ak,s.next⟩):=Lh (by
      unfold Im.fill;rw [ab VT.out,hb])
     obtain ⟨m,hm⟩:∃ m,b.length=m:=⟨_,rfl⟩;rw [hm] at HOb;rw [hm];clear ob sb l5 g5 hb hm;go_wp2_with fail;go_ret;have hset:bI (fun b=>b=q) w5 (w5.setCell ⟨q,3,none⟩ (.slice vo m vc)):=bI.set (Q:=fun b=>b=q) w5 rfl _ _;have hR6:=HR5.out.keep hset hq
     have hB6:Ba.Ls (w5.setCell ⟨q,3,none⟩ (.slice vo m vc)) vo m vc b:=HOb.out.kR (P:=fun c=>c≠q) (fun hn c o e=>by
      obtain ⟨g,h1,h2⟩:=HGb.out _ e;cases h1
      have:=HQz.out;show c≠q;omega) (hset.kR fun c hc z=>hc z)
     refine ⟨.inl ⟨_,⟨h.tab,h.av,h.post,⟨vo,m,vc⟩,h.ak,h.next⟩,rfl,HFi.out,(Bl.bY Wz.out 3 _).trans rfl,hR6.lp (fun x hx=>?_) hB6 (fun hn c o e=>?_) hq⟩,(HU5.out.mono fun b hb=>.inr hb).trans (hset.mono fun b hb=>.inl hb)⟩
     ·
      have h1:x∈Im.sK s.av s.post:=hx;unfold Im.sK at h1;obtain ⟨y,hy,rfl⟩:=List.mem_map.1 h1;have h2:=HS.out.Y3 y hy;have h3:=Bl.Df y.name s.post;have h4:=HS.out.post;exact ⟨h2.1,⟨by show -9223372036854775808<=(Bl.cnt y.name s.post:Int)+1;omega,by show (Bl.cnt y.name s.post:Int)+1<=_;omega⟩,h2.2.2⟩
     ·
      obtain ⟨g,h1,h2⟩:=HGb.out _ e;cases h1
      have:=HZ5.out;have:=HQz.out;show A<=c/\c≠q;omega
    ·
     have cK:Hid (Im.fill s=none):=Lh (by
      unfold Im.fill;rw [ab VT.out,hb])
     clear hb;go_wp2_with fail;go_ret;exact ⟨.inr ⟨rfl,cK.out⟩,(HU5.out.mono fun b hb=>.inr hb).trans (bI.set w5 (.inl rfl) _ _)⟩
end Go.Proofs.YtpfdnemaaeolcaaGreat
namespace Go.Proofs.YtpfdnemaaeolcaaGreat.By
open Go.RowKit
open Mem
def Own (w:World) (B:Nat) (v:Value) (xs:List UInt8):Prop:=w.ownsRow B 5 1 v xs.length (xs.map bv)
theorem aN (w:World) (B:Nat):Own w B (.slice none 0 0) []:=⟨rfl,.inl ⟨rfl,rfl⟩⟩
theorem Ou {X:World} (hB:B<=g) (hg:X.heap[g]? =some (.cells #[] 5 (0,0))):Own X B (.slice (some ⟨g,0,none⟩) 0 0) [] :=
 ⟨rfl,.inr ⟨g,0,#[],rfl,hB,hg,ac _,Nat.zero_le _,rfl,rfl⟩⟩
theorem aX (h:Own w B v xs):∃ ao cap,v=.slice ao xs.length cap/\Ls w ao xs.length cap xs/\(∀ ad,ao=some ad->∃ g,ad=⟨g,0,none⟩/\B<=g):=by
 rcases h.2 with ⟨h',h2⟩ | ⟨g,cap,cur,h',hb,hg,hnc,hcm,hcs,htake⟩
 ·
  have e:xs=[]:=List.length_eq_zero_iff.1 h2;subst e;exact ⟨none,0,h',dL w,fun ad k=>by cases k⟩
 ·
  refine ⟨some ⟨g,0,none⟩,cap,h',⟨rfl,hnc,hcm,fun k=>(by cases k),.inr ⟨g,0,rfl,fun k hk=>?_⟩⟩,fun ad k=>by cases k;exact ⟨g,rfl,hb⟩⟩;rw [Nat.zero_add,cell_of_row w g _ _ _ _ hg];rw [Nat.mul_one] at htake;have e:(cur.toList.take xs.length)[k]? =(xs.map bv)[k]? :=by rw [htake]
  rw [List.getElem?_take_of_lt hk,List.getElem?_map,List.getElem?_eq_getElem hk] at e;simpa using e
theorem bK (h:Own w B v xs):∀ k,v.ownBlock=some k->B<=k:=by
 intro k hk;rcases h.2 with ⟨h',_⟩ | ⟨g,cap,cur,h',hb,_⟩
 ·
  rw [h'] at hk;cases hk
 ·
  rw [h'] at hk;simp only [Value.ownBlock,Option.some.injEq] at hk;omega
theorem bA (h:Own w B v xs) (o:Obj):Own (w.alloc o) B v xs:=World.ownsRow.alloc h o
theorem own_below (h:Own w B v xs) (k:Below w.heap.size w u):Own u B v xs:=by
 obtain ⟨h1,h2⟩:=h;refine ⟨h1,?_⟩;rcases h2 with h2 | ⟨g,cap,cur,h',hb,hg,h3⟩
 · exact .inl h2
 ·
  refine .inr ⟨g,cap,cur,h',hb,?_,h3⟩
  have hl:g < w.heap.size:=by
   obtain ⟨hl,_⟩:=Array.getElem?_eq_some_iff.1 hg;exact hl
  rw [k.block g hl];exact hg
theorem aG {ops:Array Oper} {rest:List Oper} (w:World) (hgd:o.guard=none) (s x:Operand)
  (ho:o.op=.call { callee:=.builtin .append,args:=#[s,x],argTypes:=#[23,23] })
  (B:Nat) (v:Value) (xs:List UInt8) (hs:a.eval s=v) (hown:Own w B v xs)
  (ao:Option Addr) (n cap:Nat) (zs:List UInt8) (hx:a.eval x=.slice ao n cap) (hn:n=zs.length) (hnil:ao=none->cap=0) (hsrc:Seg w ao zs) (hl:xs.length+n<=140737488355328) (hb:B<=w.heap.size)
  (h:∀ v' w1,Own w1 B v' (xs++zs)->w.grownBy w1 v.ownBlock->(v'.ownBlock=v.ownBlock\/v'.ownBlock=some w.heap.size)->wpList Tryz.prog ops Q rest (a.put o.dst v') w1):wpList Tryz.prog ops Q (o::rest) a w:=by
 refine wpList_plain hgd fun K hK=>?_
 obtain ⟨i0,hi,hz0,hz1,hz2⟩:=info_parts info;have hmx:maxLen=9223372036854775807:=rfl;cases ao with
 | none =>
  obtain rfl:cap=0:=hnil rfl;rcases hsrc with e | ⟨b,off,e,_⟩
  ·
   obtain rfl:n=0:=by rw [hn,e];rfl
   have hrun:=run_append_owned_none (P:=Tryz.prog) (w:=w) B 23 o.type 5 i0 1 Tryz.underlying23 hi v _ _ hown;unfold Oper.wp;simp [execOp,ho,resolve,invoke,builtin,hs,hx,hrun,Result.andThen];exact hK _ _ (h v w (by rw [e,List.append_nil];exact hown) ⟨rfl,rfl,rfl,ac _,fun _ _ _=>rfl⟩ (.inl rfl))
  · cases e
 | some ad =>
  obtain ⟨v',w',hr,h2,h3,_,h5⟩:=run_append_own_at (P:=Tryz.prog) w B 23 o.type 5 i0 (.int .u8 0) 1 1 Tryz.underlying23 hi hz0 hz1 hz2 rfl (by omega) v xs.length (xs.map bv) hown ad n cap (zs.map bv) (by rw [List.length_map,hn,Nat.mul_one]) (by
   rcases hsrc with e | ⟨b,off,e,hc⟩
   ·
    rw [e];intro j u hu;simp at hu
   ·
    cases e
    exact fun j u hu=>dA hc j u hu) (one_cell zs) (by omega) (by omega) hb
  unfold Oper.wp execOp;simp only [ho,resolve,invoke,builtin,Sem.run_bind,Sem.run_pure,Result.andThen_ok,List.map_toArray,List.map_cons,List.map_nil,hs,hx,hr];refine hK _ _ (h v' w' ?_ h3 h5);unfold Own;rw [List.map_append,ag,<- hn];exact h2
theorem WA {X:World} {x:UInt8} (h:X.heap[g]? =some (.cells #[v] 5 (0,0))) (e:bv x=v):Seg X (some ⟨g,0,none⟩) [x]:=by
 refine .inr ⟨g,0,rfl,fun k hk=>?_⟩;obtain rfl:k=0:=by simpa using hk
 rw [cell_of_row X g _ _ _ _ h];rw [List.getElem_cons_zero,e];rfl
end Go.Proofs.YtpfdnemaaeolcaaGreat.By
namespace Go.Proofs.YtpfdnemaaeolcaaGreat
open Go.RowKit
open Mem Pk Cm
open Go.Sort (grow)
structure Iw (w0 w:World) (bs:List UInt8) (ao:Option Addr) (n cap:Nat):Prop where
 dx:Below w0.heap.size w0 w
 box:w.heap[w0.heap.size]? =some (.cells #[.slice ao n cap] 72 (0,0))
 own:By.Own w (w0.heap.size+1) (.slice ao n cap) bs
def iU (w0 w:World) (bs:List UInt8):Prop:=∃ ao n cap,Iw w0 w bs ao n cap
section
variable {w0 w v:World} {bs:List UInt8} {ao:Option Addr} {n cap:Nat}
theorem Iw.lt (h:Iw w0 w bs ao n cap):w0.heap.size < w.heap.size:=(Array.getElem?_eq_some_iff.1 h.box).1
theorem Iw.below (h:Iw w0 w bs ao n cap) (k:Below w.heap.size w v):Iw w0 v bs ao n cap:=⟨aj h.dx k,(k.block _ h.lt).trans h.box,By.own_below h.own k⟩
theorem Iw.cell (h:Iw w0 w bs ao n cap):w.cell? ⟨w0.heap.size,0,none⟩=some (.slice ao n cap):=by
 rw [cell_of_row w _ 0 _ _ _ h.box];rfl
theorem Iw.frozen (h:Iw w0 w bs ao n cap) (o:Nat):w.frozen? ⟨w0.heap.size,o,none⟩=false:=frozen_of_row w _ o _ _ h.box
theorem Iw.put (h:Iw w0 w bs ao n cap) {bs':List UInt8} {u:World} {Hw:Option Addr} {n' cap':Nat} (o:By.Own u (w0.heap.size+1) (.slice Hw n' cap') bs') (gr:w.grownBy u (Value.slice ao n cap).ownBlock):Iw w0 (u.setCell ⟨w0.heap.size,0,none⟩ (.slice Hw n' cap')) bs' Hw n' cap':=by
 have hge:=By.bK h.own;have hb:Below w0.heap.size w0 u:=h.dx.grown gr h.dx.size (fun k e=>by have:=hge k e;omega);have hx:u.heap[w0.heap.size]? =some (.cells #[.slice ao n cap] 72 (0,0)):=(gr.block _ h.lt (fun e=>by have:=hge _ e.symm;omega)).trans h.box;refine ⟨bU hb (ac _) _ _,(heap_setCell_same u _ 0 _ _ _ hx).trans rfl,?_⟩;obtain ⟨h1,h2⟩:=o;refine ⟨h1,?_⟩;rcases h2 with h2 | ⟨g,c,cur,h',hg,hq,h3⟩
 · exact .inl h2
 · exact .inr ⟨g,c,cur,h',hg,by rw [heap_setCell_other u ⟨w0.heap.size,0,none⟩ g _ (by show g≠w0.heap.size;omega)];exact hq,h3⟩
end
def Ap (w0 w:World) (b:Nat):Prop:=b < w.heap.size/\b≠w0.heap.size/\∀ ao n cap,w.heap[w0.heap.size]? =some (.cells #[.slice ao n cap] 72 (0,0))->(Value.slice ao n cap).ownBlock≠some b
def nC (w0 w w':World):Prop:=∀ b,Ap w0 w b->Ap w0 w' b/\w'.heap[b]? =w.heap[b]?
theorem nC.trans {w0 u v w:World} (h:nC w0 u v) (k:nC w0 v w):nC w0 u w:=fun b hb=>⟨(k b (h b hb).1).1,(k b (h b hb).1).2.trans (h b hb).2⟩
theorem nC.of {v:World} (k:Below w.heap.size w v) (h:Iw w0 w bs ao n cap):nC w0 w v:=fun b hb=>by
 have e:=k.block b hb.1;refine ⟨⟨Nat.lt_of_lt_of_le hb.1 k.size,hb.2.1,fun ao n cap q=>hb.2.2 ao n cap ?_⟩,e⟩;rw [<- q];exact (k.block _ h.lt).symm
theorem Iw.frame {bs':List UInt8} {Hw:Option Addr} {n' cap':Nat} (h:Iw w0 w bs ao n cap) (gr:w.grownBy u (Value.slice ao n cap).ownBlock) (hat:(Value.slice Hw n' cap').ownBlock=(Value.slice ao n cap).ownBlock\/(Value.slice Hw n' cap').ownBlock=some w.heap.size) (hN:Iw w0 (u.setCell ⟨w0.heap.size,0,none⟩ (.slice Hw n' cap')) bs' Hw n' cap'):nC w0 w (u.setCell ⟨w0.heap.size,0,none⟩ (.slice Hw n' cap')):=fun b hb=>by
 have hne:=hb.2.2 ao n cap h.box;have e1:u.heap[b]? =w.heap[b]? :=gr.block b hb.1 (fun e=>hne e.symm);have e2:(u.setCell ⟨w0.heap.size,0,none⟩ (.slice Hw n' cap')).heap[b]? =u.heap[b]? :=heap_setCell_other u ⟨w0.heap.size,0,none⟩ b _ hb.2.1;refine ⟨⟨by rw [show (u.setCell ⟨w0.heap.size,0,none⟩ (.slice Hw n' cap')).heap.size=u.heap.size by simp];exact Nat.lt_of_lt_of_le hb.1 gr.size,hb.2.1,fun a m c q=>?_⟩,e2.trans e1⟩;rw [hN.box] at q;cases q
 rcases hat with z | z
 ·
  rw [z];exact hne
 ·
  rw [z];intro e;cases e
  exact Nat.lt_irrefl _ hb.1
theorem Iw.fresh (h:Iw w0 w bs ao n cap) (o:Obj):Ap w0 (w.alloc o) w.heap.size:=by
 refine ⟨by simp,by have:=h.lt;omega,fun a m c q e=>?_⟩;have e1:(w.alloc o).heap[w0.heap.size]? =w.heap[w0.heap.size]? :=(ah.alloc (ac _) o).block _ h.lt;rw [e1,h.box] at q;cases q
 exact Nat.lt_irrefl _ (World.ownsRow.lt h.own _ e).2
theorem By.jK {M:List UInt8} (h:By.Own w B v M):∃ ao n cap,v=.slice ao n cap:=by
 rcases h.2 with ⟨h',_⟩ | ⟨g',cap',cur,h',_⟩
 · exact ⟨_,_,_,h'⟩
 · exact ⟨_,_,_,h'⟩
theorem By.eG {K:Act->World->Prop} (w:World) (s x:Operand)
  (ho:o.op=.call { callee:=.builtin .append,args:=#[s,x],argTypes:=#[23,23] })
  (B:Nat) (v:Value) (xs:List UInt8) (hs:a.eval s=v) (hown:By.Own w B v xs)
  (ad:Addr) (n cap:Nat) (zs:List UInt8) (hx:a.eval x=.slice (some ad) n cap) (hn:n=zs.length) (hsrc:By.Seg w (some ad) zs) (hl:xs.length+n<=140737488355328) (hb:B<=w.heap.size)
  (h:∀ v' w1,By.Own w1 B v' (xs++zs)->w.grownBy w1 v.ownBlock->(v'.ownBlock=v.ownBlock\/v'.ownBlock=some w.heap.size)->K (a.put o.dst v') w1):o.wp Tryz.prog a w K Q:=by
 obtain ⟨i0,hi,hz0,hz1,hz2⟩:=info_parts By.info;have hmx:maxLen=9223372036854775807:=rfl
 obtain ⟨v',w',hr,h2,h3,_,h5⟩:=run_append_own_at (P:=Tryz.prog) w B 23 o.type 5 i0 (.int .u8 0) 1 1 Tryz.underlying23 hi hz0 hz1 hz2 rfl (by omega) v xs.length (xs.map By.bv) hown ad n cap (zs.map By.bv) (by rw [List.length_map,hn,Nat.mul_one]) (by
  rcases hsrc with e | ⟨b,off,e,hc⟩
  ·
   rw [e];intro j u hu;simp at hu
  ·
   cases e
   exact fun j u hu=>By.dA hc j u hu) (By.one_cell zs) (by omega) (by omega) hb
 unfold Oper.wp execOp;simp only [ho,resolve,invoke,builtin,Sem.run_bind,Sem.run_pure,Result.andThen_ok,List.map_toArray,List.map_cons,List.map_nil,hs,hx,hr];refine h v' w' ?_ h3 h5;unfold By.Own;rw [List.map_append,ag,<- hn];exact h2
theorem J6 {ops:Array Oper} {K:Act->World->Prop} {E:Prop} {x y:Tmp} {p:Nat} {v0:Value} (hgd:o.guard=none) (ho:o.op=.store 23 (.tmp x) (.tmp y)) (hd:o.dst=none) (hx:a.tmps.toList[x]? =some (.pointer (some ⟨p,0,none⟩))) (hy:a.tmps.toList[y]? =some (.slice ao n cap)) (hc:w.cell? ⟨p,0,none⟩=some v0) (hf:w.frozen? ⟨p,0,none⟩=false)
  (k:K a (w.setCell ⟨p,0,none⟩ (.slice ao n cap))):if Region.wanted o (yielded ops a.tmps)=true then Oper.wp Tryz.prog o a w K Q else E:=by
 have hw:Region.wanted o (yielded ops a.tmps)=true:=by simp [Region.wanted,hgd]
 rw [ab hw];unfold Oper.wp;simp only [execOp,ho,Ca.gY hx,Ca.gY hy];simp [go_sem,hc,hf,hd];exact k
theorem Iw.J7 {id:Nat} {o0 o1 o2 o3 o4 o5 o6 o7 o8 o9 eU:Oper} (p:Nat) (x:Value) (w0:World) (bs zs:List UInt8) (ao:Option Addr) (n cap:Nat) {f:FuncId} {args:Array Value} {s7 x7 x10 y10:Tmp}
  (hp:p=w0.heap.size) (hW:Iw w0 w bs ao n cap) (c:Region.noSelect #[o0,o1,o2,o3,o4,o5,o6,o7,o8,o9,eU]=true) (c0:Bl.tk #[o0,o1,o2,o3,o4,o5,o6,o7,o8,o9,eU] [false,false,false,false,false,false,false,false,false,false,false] 0=true) (d0:(kK .any #[o0,o1,o2,o3,o4,o5,o6,o7,o8,o9,eU] 10 0 [10]&&lN [false,false,false,false,false,false,false,false,false,false,false].toArray [10])=true) (c1:Bl.tk #[o0,o1,o2,o3,o4,o5,o6,o7,o8,o9,eU] [true,false,false,false,false,false,false,false,false,false,false] 1=true) (d1:(kK .any #[o0,o1,o2,o3,o4,o5,o6,o7,o8,o9,eU] 10 1 [10]&&lN [true,false,false,false,false,false,false,false,false,false,false].toArray [10])=true) (c2:Bl.tk #[o0,o1,o2,o3,o4,o5,o6,o7,o8,o9,eU] [true,true,false,false,false,false,false,false,false,false,false] 2=true) (d2:(kK .any #[o0,o1,o2,o3,o4,o5,o6,o7,o8,o9,eU] 10 2 [10]&&lN [true,true,false,false,false,false,false,false,false,false,false].toArray [10])=true) (c3:Bl.tk #[o0,o1,o2,o3,o4,o5,o6,o7,o8,o9,eU] [true,true,true,false,false,false,false,false,false,false,false] 3=true) (d3:(kK .any #[o0,o1,o2,o3,o4,o5,o6,o7,o8,o9,eU] 10 3 [10]&&lN [true,true,true,false,false,false,false,false,false,false,false].toArray [10])=true) (c4:Bl.tk #[o0,o1,o2,o3,o4,o5,o6,o7,o8,o9,eU] [true,true,true,true,false,false,false,false,false,false,false] 4=true) (d4:(kK .any #[o0,o1,o2,o3,o4,o5,o6,o7,o8,o9,eU] 10 4 [10]&&lN [true,true,true,true,false,false,false,false,false,false,false].toArray [10])=true) (c5:Bl.tk #[o0,o1,o2,o3,o4,o5,o6,o7,o8,o9,eU] [true,true,true,true,true,false,false,false,false,false,false] 5=true) (d5:(kK .any #[o0,o1,o2,o3,o4,o5,o6,o7,o8,o9,eU] 10 5 [10]&&lN [true,true,true,true,true,false,false,false,false,false,false].toArray [10])=true) (r6:Region.ready .any #[o0,o1,o2,o3,o4,o5,o6,o7,o8,o9,eU] [true,true,true,true,true,true,false,false,false,false,false].toArray=[6]) (r7:Region.ready .any #[o0,o1,o2,o3,o4,o5,o6,o7,o8,o9,eU] [true,true,true,true,true,true,true,false,false,false,false].toArray=[7]) (c8:Bl.tk #[o0,o1,o2,o3,o4,o5,o6,o7,o8,o9,eU] [true,true,true,true,true,true,true,true,false,false,false] 8=true) (d8:(kK .any #[o0,o1,o2,o3,o4,o5,o6,o7,o8,o9,eU] 10 8 [10,9]&&lN [true,true,true,true,true,true,true,true,false,false,false].toArray [10,9])=true) (c9:Bl.tk #[o0,o1,o2,o3,o4,o5,o6,o7,o8,o9,eU] [true,true,true,true,true,true,true,true,true,false,false] 9=true) (d9:(kK .any #[o0,o1,o2,o3,o4,o5,o6,o7,o8,o9,eU] 10 9 [10]&&lN [true,true,true,true,true,true,true,true,true,false,false].toArray [10])=true) (r10:Region.ready .any #[o0,o1,o2,o3,o4,o5,o6,o7,o8,o9,eU] [true,true,true,true,true,true,true,true,true,true,false].toArray=[10]) (rE:Region.ready .any #[o0,o1,o2,o3,o4,o5,o6,o7,o8,o9,eU] [true,true,true,true,true,true,true,true,true,true,true].toArray=[])
  (y0:YieldsIf Tryz.prog #[o0,o1,o2,o3,o4,o5,o6,o7,o8,o9,eU] (fun u=>u.cell? ⟨p,0,none⟩=some (.slice ao n cap)) o0 (.pointer (some ⟨p,0,none⟩)) a) (y1:YieldsIf Tryz.prog #[o0,o1,o2,o3,o4,o5,o6,o7,o8,o9,eU] (fun u=>u.cell? ⟨p,0,none⟩=some (.slice ao n cap)) o1 (.pointer (some ⟨p,0,none⟩)) (a.put o0.dst (.pointer (some ⟨p,0,none⟩)))) (y2:YieldsIf Tryz.prog #[o0,o1,o2,o3,o4,o5,o6,o7,o8,o9,eU] (fun u=>u.cell? ⟨p,0,none⟩=some (.slice ao n cap)) o2 (.pointer (some ⟨p,0,none⟩)) ((a.put o0.dst (.pointer (some ⟨p,0,none⟩))).put o1.dst (.pointer (some ⟨p,0,none⟩)))) (y3:YieldsIf Tryz.prog #[o0,o1,o2,o3,o4,o5,o6,o7,o8,o9,eU] (fun u=>u.cell? ⟨p,0,none⟩=some (.slice ao n cap)) o3 (.pointer (some ⟨p,0,none⟩)) (((a.put o0.dst (.pointer (some ⟨p,0,none⟩))).put o1.dst (.pointer (some ⟨p,0,none⟩))).put o2.dst (.pointer (some ⟨p,0,none⟩)))) (y4:YieldsIf Tryz.prog #[o0,o1,o2,o3,o4,o5,o6,o7,o8,o9,eU] (fun u=>u.cell? ⟨p,0,none⟩=some (.slice ao n cap)) o4 (.slice ao n cap) ((((a.put o0.dst (.pointer (some ⟨p,0,none⟩))).put o1.dst (.pointer (some ⟨p,0,none⟩))).put o2.dst (.pointer (some ⟨p,0,none⟩))).put o3.dst (.pointer (some ⟨p,0,none⟩)))) (y5:YieldsIf Tryz.prog #[o0,o1,o2,o3,o4,o5,o6,o7,o8,o9,eU] (fun u=>u.cell? ⟨p,0,none⟩=some (.slice ao n cap)) o5 x (((((a.put o0.dst (.pointer (some ⟨p,0,none⟩))).put o1.dst (.pointer (some ⟨p,0,none⟩))).put o2.dst (.pointer (some ⟨p,0,none⟩))).put o3.dst (.pointer (some ⟨p,0,none⟩))).put o4.dst (.slice ao n cap))) (y8:∀ v v',YieldsIf Tryz.prog #[o0,o1,o2,o3,o4,o5,o6,o7,o8,o9,eU] (fun u=>u.cell? ⟨p,0,none⟩=some (.slice ao n cap)) o8 (.pointer (some ⟨p,0,none⟩)) ((((((((a.put o0.dst (.pointer (some ⟨p,0,none⟩))).put o1.dst (.pointer (some ⟨p,0,none⟩))).put o2.dst (.pointer (some ⟨p,0,none⟩))).put o3.dst (.pointer (some ⟨p,0,none⟩))).put o4.dst (.slice ao n cap)).put o5.dst x).put o6.dst v).put o7.dst v')) (y9:∀ v v',YieldsIf Tryz.prog #[o0,o1,o2,o3,o4,o5,o6,o7,o8,o9,eU] (fun u=>u.cell? ⟨p,0,none⟩=some (.slice ao n cap)) o9 (.pointer (some ⟨p,0,none⟩)) (((((((((a.put o0.dst (.pointer (some ⟨p,0,none⟩))).put o1.dst (.pointer (some ⟨p,0,none⟩))).put o2.dst (.pointer (some ⟨p,0,none⟩))).put o3.dst (.pointer (some ⟨p,0,none⟩))).put o4.dst (.slice ao n cap)).put o5.dst x).put o6.dst v).put o7.dst v').put o8.dst (.pointer (some ⟨p,0,none⟩))))
  (q0:∀ c a w,Q (.panic c) (Act.put a o0.dst (.pointer (some ⟨p,0,none⟩))) w->Q (.panic c) a w) (q1:∀ c a w,Q (.panic c) (Act.put a o1.dst (.pointer (some ⟨p,0,none⟩))) w->Q (.panic c) a w) (q2:∀ c a w,Q (.panic c) (Act.put a o2.dst (.pointer (some ⟨p,0,none⟩))) w->Q (.panic c) a w) (q3:∀ c a w,Q (.panic c) (Act.put a o3.dst (.pointer (some ⟨p,0,none⟩))) w->Q (.panic c) a w) (q4:∀ c a w,Q (.panic c) (Act.put a o4.dst (.slice ao n cap)) w->Q (.panic c) a w) (q5:∀ c a w,Q (.panic c) (Act.put a o5.dst x) w->Q (.panic c) a w) (q8:∀ c a w,Q (.panic c) (Act.put a o8.dst (.pointer (some ⟨p,0,none⟩))) w->Q (.panic c) a w) (q9:∀ c a w,Q (.panic c) (Act.put a o9.dst (.pointer (some ⟨p,0,none⟩))) w->Q (.panic c) a w) (Zz:o6.guard=none) (XR:o7.guard=none) (Oq:eU.guard=none) (AP:eU.dst=none)
  (h6:∀ u,(execOp ((((((a.put o0.dst (.pointer (some ⟨p,0,none⟩))).put o1.dst (.pointer (some ⟨p,0,none⟩))).put o2.dst (.pointer (some ⟨p,0,none⟩))).put o3.dst (.pointer (some ⟨p,0,none⟩))).put o4.dst (.slice ao n cap)).put o5.dst x).eval o6).run Tryz.prog u=.ok (.enter f args) u)
  (k6:∀ u,Below w.heap.size w u->Calls Tryz.prog f args u fun e u'=>(∃ g,e=.returned (.slice (some ⟨g,0,none⟩) zs.length zs.length)/\u.heap.size<=g/\By.Block u' g zs)/\Below u.heap.size u u')
  (XT:o7.op=.call { callee:=.builtin .append,args:=#[.tmp s7,.tmp x7],argTypes:=#[23,23] }) (Ot:eU.op=.store 23 (.tmp x10) (.tmp y10))
  (e7:∀ v,(((((((a.put o0.dst (.pointer (some ⟨p,0,none⟩))).put o1.dst (.pointer (some ⟨p,0,none⟩))).put o2.dst (.pointer (some ⟨p,0,none⟩))).put o3.dst (.pointer (some ⟨p,0,none⟩))).put o4.dst (.slice ao n cap)).put o5.dst x).put o6.dst v).tmps.toList[s7]? =some (.slice ao n cap)/\(((((((a.put o0.dst (.pointer (some ⟨p,0,none⟩))).put o1.dst (.pointer (some ⟨p,0,none⟩))).put o2.dst (.pointer (some ⟨p,0,none⟩))).put o3.dst (.pointer (some ⟨p,0,none⟩))).put o4.dst (.slice ao n cap)).put o5.dst x).put o6.dst v).tmps.toList[x7]? =some v)
  (e10:∀ v v',((((((((((a.put o0.dst (.pointer (some ⟨p,0,none⟩))).put o1.dst (.pointer (some ⟨p,0,none⟩))).put o2.dst (.pointer (some ⟨p,0,none⟩))).put o3.dst (.pointer (some ⟨p,0,none⟩))).put o4.dst (.slice ao n cap)).put o5.dst x).put o6.dst v).put o7.dst v').put o8.dst (.pointer (some ⟨p,0,none⟩))).put o9.dst (.pointer (some ⟨p,0,none⟩))).tmps.toList[x10]? =some (.pointer (some ⟨p,0,none⟩))/\((((((((((a.put o0.dst (.pointer (some ⟨p,0,none⟩))).put o1.dst (.pointer (some ⟨p,0,none⟩))).put o2.dst (.pointer (some ⟨p,0,none⟩))).put o3.dst (.pointer (some ⟨p,0,none⟩))).put o4.dst (.slice ao n cap)).put o5.dst x).put o6.dst v).put o7.dst v').put o8.dst (.pointer (some ⟨p,0,none⟩))).put o9.dst (.pointer (some ⟨p,0,none⟩))).tmps.toList[y10]? =some v')
  (hm:bs.length+zs.length<=100000000)
  (k:∀ v v' w',iU w0 w' (bs++zs)->nC w0 w w'->Q .normal ((((((((((a.put o0.dst (.pointer (some ⟨p,0,none⟩))).put o1.dst (.pointer (some ⟨p,0,none⟩))).put o2.dst (.pointer (some ⟨p,0,none⟩))).put o3.dst (.pointer (some ⟨p,0,none⟩))).put o4.dst (.slice ao n cap)).put o5.dst x).put o6.dst v).put o7.dst v').put o8.dst (.pointer (some ⟨p,0,none⟩))).put o9.dst (.pointer (some ⟨p,0,none⟩))) w') :
  (Code.region id #[o0,o1,o2,o3,o4,o5,o6,o7,o8,o9,eU] true).wp Tryz.prog Q a w:=by
 have hw0:Below w.heap.size w w.drew:=ah.drew;have vV:∀ u,Below w.heap.size w u->u.cell? ⟨p,0,none⟩=some (.slice ao n cap):=fun u hu=>by rw [hp];exact (hW.below hu).cell
 have hH:=vV _ hw0;refine Bl.Sw (S:=fun u=>u.cell? ⟨p,0,none⟩=some (.slice ao n cap)) (x:=10) ?_;show jD Tryz.prog .any #[o0,o1,o2,o3,o4,o5,o6,o7,o8,o9,eU] Q _ 10 11 [false,false,false,false,false,false,false,false,false,false,false].toArray a w.drew;refine Bl.LB (i:=0) (oi:=o0) rfl c c0 d0 q0 y0 hH ?_;show jD Tryz.prog .any #[o0,o1,o2,o3,o4,o5,o6,o7,o8,o9,eU] Q _ 10 10 [true,false,false,false,false,false,false,false,false,false,false].toArray _ _;refine Bl.LB (i:=1) (oi:=o1) rfl c c1 d1 q1 y1 hH ?_;show jD Tryz.prog .any #[o0,o1,o2,o3,o4,o5,o6,o7,o8,o9,eU] Q _ 10 9 [true,true,false,false,false,false,false,false,false,false,false].toArray _ _;refine Bl.LB (i:=2) (oi:=o2) rfl c c2 d2 q2 y2 hH ?_;show jD Tryz.prog .any #[o0,o1,o2,o3,o4,o5,o6,o7,o8,o9,eU] Q _ 10 8 [true,true,true,false,false,false,false,false,false,false,false].toArray _ _;refine Bl.LB (i:=3) (oi:=o3) rfl c c3 d3 q3 y3 hH ?_;show jD Tryz.prog .any #[o0,o1,o2,o3,o4,o5,o6,o7,o8,o9,eU] Q _ 10 7 [true,true,true,true,false,false,false,false,false,false,false].toArray _ _;refine Bl.LB (i:=4) (oi:=o4) rfl c c4 d4 q4 y4 hH ?_;show jD Tryz.prog .any #[o0,o1,o2,o3,o4,o5,o6,o7,o8,o9,eU] Q _ 10 6 [true,true,true,true,true,false,false,false,false,false,false].toArray _ _;refine Bl.LB (i:=5) (oi:=o5) rfl c c5 d5 q5 y5 hH ?_;show jD Tryz.prog .any #[o0,o1,o2,o3,o4,o5,o6,o7,o8,o9,eU] Q _ 10 5 [true,true,true,true,true,true,false,false,false,false,false].toArray _ _;refine Bl.oneG (i:=6) (oi:=o6) rfl r6 (fun K hK=>?_);refine Bl.fB Zz (h6 _) ((k6 _ hw0).mono ?_);rintro e u1 ⟨⟨g,rfl,hg,hblk⟩,b1⟩;have b2:Below w.heap.size w u1:=aj hw0 b1;refine ⟨_,rfl,hK.out _ _ (.inr (vV _ b2)) ?_⟩;clear hK K;show jD Tryz.prog .any #[o0,o1,o2,o3,o4,o5,o6,o7,o8,o9,eU] Q _ 10 4 [true,true,true,true,true,true,true,false,false,false,false].toArray _ _;refine Bl.oneG (i:=7) (oi:=o7) rfl r7 (fun K hK=>?_);have hw7:Region.wanted o7 (yielded #[o0,o1,o2,o3,o4,o5,o6,o7,o8,o9,eU] (((((((a.put o0.dst (.pointer (some ⟨p,0,none⟩))).put o1.dst (.pointer (some ⟨p,0,none⟩))).put o2.dst (.pointer (some ⟨p,0,none⟩))).put o3.dst (.pointer (some ⟨p,0,none⟩))).put o4.dst (.slice ao n cap)).put o5.dst x).put o6.dst (.slice (some ⟨g,0,none⟩) zs.length zs.length)).tmps)=true:=by simp [Region.wanted,XR]
 rw [ab hw7];have hW1:=hW.below b2;refine By.eG u1 (.tmp s7) (.tmp x7) XT (w0.heap.size+1) (.slice ao n cap) bs (Ca.gY (e7 _).1) hW1.own ⟨g,0,none⟩ zs.length zs.length zs (Ca.gY (e7 _).2) rfl (hblk.ls (by omega)).seg (by omega) hW1.lt ?_;intro v7 w7 o7' gr7 at7;obtain ⟨Hw,n',cap',rfl⟩:=By.jK o7';have hN:=hW1.put o7' gr7;have hge:=By.bK hW1.own;have ZM:w7.heap[p]? =u1.heap[p]? :=by rw [hp];exact gr7.block _ hW1.lt (fun e=>by have:=hge _ e.symm;omega)
 have hS7:w7.cell? ⟨p,0,none⟩=some (.slice ao n cap):=(World.cell?_of_block ZM).trans (vV _ b2);have hf7:w7.frozen? ⟨p,0,none⟩=false:=(World.frozen?_of_block ZM).trans (by rw [hp];exact hW1.frozen 0);refine hK.out _ _ (.inr hS7) ?_;clear hK K;show jD Tryz.prog .any #[o0,o1,o2,o3,o4,o5,o6,o7,o8,o9,eU] Q _ 10 3 [true,true,true,true,true,true,true,true,false,false,false].toArray _ _;refine Bl.LB (i:=8) (oi:=o8) rfl c c8 d8 q8 (y8 _ _) hS7 ?_;show jD Tryz.prog .any #[o0,o1,o2,o3,o4,o5,o6,o7,o8,o9,eU] Q _ 10 2 [true,true,true,true,true,true,true,true,true,false,false].toArray _ _;refine Bl.LB (i:=9) (oi:=o9) rfl c c9 d9 q9 (y9 _ _) hS7 ?_;show jD Tryz.prog .any #[o0,o1,o2,o3,o4,o5,o6,o7,o8,o9,eU] Q _ 10 1 [true,true,true,true,true,true,true,true,true,true,false].toArray _ _;refine Bl.oneG (i:=10) (oi:=eU) rfl r10 (fun K hK=>?_);refine J6 Oq Ot AP (e10 _ _).1 (e10 _ _).2 hS7 hf7 (hK.out _ _ (.inl (ac _)) ?_);clear hK K;have hN2:iU w0 (w7.setCell ⟨p,0,none⟩ (.slice Hw n' cap')) (bs++zs):=⟨Hw,n',cap',by rw [hp];exact hN⟩;have hF:nC w0 w (w7.setCell ⟨p,0,none⟩ (.slice Hw n' cap')):=by rw [hp];exact (nC.of b2 hW).trans (hW1.frame gr7 at7 hN)
 exact Ct rE (k _ _ _ hN2 hF) _
section
variable {ops:Array Oper} {o:Oper} {a:Act} {S:World->Prop} {t:Tmp} {p:Nat}
theorem iJ (hgd:o.guard=none) (ho:o.op=.move (.tmp t)) (hp:a.tmps.toList[t]? =some v):YieldsIf Tryz.prog ops S o v a:=by
 refine .inl ⟨by simp [Region.wanted,hgd],fun u _=>?_⟩;simp only [execOp,ho,Ca.gY hp];simp [go_sem]
theorem CF (hgd:o.guard=none) (ho:o.op=.nilCheck (.tmp t)) (hp:a.tmps.toList[t]? =some (.pointer (some ⟨p,0,none⟩))):YieldsIf Tryz.prog ops S o (.pointer (some ⟨p,0,none⟩)) a:=by
 refine .inl ⟨by simp [Region.wanted,hgd],fun u _=>?_⟩;simp only [execOp,ho,Ca.gY hp];simp [go_sem]
theorem Iw.y_b (hgd:o.guard=none) (ho:o.op=.fieldAddr 72 (.tmp t) 0) (hp:a.tmps.toList[t]? =some (.pointer (some ⟨p,0,none⟩))):YieldsIf Tryz.prog ops S o (.pointer (some ⟨p,0,none⟩)) a:=by
 refine .inl ⟨by simp [Region.wanted,hgd],fun u _=>?_⟩;simp only [execOp,ho,Ca.gY hp];simp [go_sem]
theorem Iw.iq {c:Nat} (hgd:o.guard=none) (ho:o.op=.load 23 (.tmp t)) (hp:a.tmps.toList[t]? =some (.pointer (some ⟨p,0,none⟩))) (hS:∀ u,S u->u.cell? ⟨p,0,none⟩=some (.slice ao n c)):YieldsIf Tryz.prog ops S o (.slice ao n c) a:=by
 refine .inl ⟨by simp [Region.wanted,hgd],fun u hu=>?_⟩;have h:=hS u hu;simp only [execOp,ho,Ca.gY hp];simp [go_sem,h]
end
theorem bG (n:Int):(nm n).length<=10:=xV 10 _
theorem Ar (s:ByteArray) (hs:s.size<=1000):(tx s).length<=1010:=by
 unfold tx;rw [ag];have:=bG (s.size:Int);have e:(txt s).length=s.size:=by unfold txt;rw [Array.length_toList];rfl
 omega
theorem Ov (x:Bool) (w:World):Calls Tryz.prog 148 #[.slice none 0 0,.bool x] w fun e w'=>(∃ g,e=.returned (.slice (some ⟨g,0,none⟩) (Im.KO x).length (Im.KO x).length)/\w.heap.size<=g/\By.Block w' g (Im.KO x))/\Below w.heap.size w w':=by
 have f0:Fit 0:=⟨by omega,by omega⟩;have f1:Fit 1:=⟨by omega,by omega⟩;cases x
 ·
  go_enter Tryz.func148,Tryz.ntmps148;go_wp2_with fail;refine (uR [] 0 f0 none 0 0 w (By.dL w) (by omega)).mono ?_;rintro e u' ⟨⟨g,rfl,hg,hb⟩,b⟩;rw [Nat.zero_add];go_wp2_with fail;go_ret;exact ⟨⟨g,rfl,hg,hb⟩,b⟩
 ·
  go_enter Tryz.func148,Tryz.ntmps148;go_wp2_with fail;refine (uR [] 1 f1 none 0 0 w (By.dL w) (by omega)).mono ?_;rintro e u' ⟨⟨g,rfl,hg,hb⟩,b⟩;rw [Nat.zero_add];go_wp2_with fail;go_ret;exact ⟨⟨g,rfl,hg,hb⟩,b⟩
theorem gQ (x:Int) (hx:Fit x) (bs:List UInt8) (w0 w:World) (hW:iU w0 w bs) (hm:bs.length<=1000000) :
  Calls Tryz.prog 68 #[.pointer (some ⟨w0.heap.size,0,none⟩),.int .i64 x] w fun e w'=>e=.returned (.tuple #[])/\iU w0 w' (bs++nm x)/\nC w0 w w':=by
 obtain ⟨ao,n,cap,h⟩:=hW;have HW:=Lh h;have HM:=Lh hm;have HX:=Lh hx;obtain ⟨p,hp⟩:∃ p,w0.heap.size=p:=⟨_,rfl⟩;have HP:=Lh hp;rw [hp];clear h hm hp;go_enter Tryz.func68,Tryz.ntmps68;go_wp2_with fail;refine Iw.J7 (f:=110) (args:=#[.slice none 0 0,.int .i64 x]) (s7:=8) (x7:=10) (x10:=13) (y10:=11) p (.int .i64 x) w0 bs (nm x) ao n cap HP.out.symm HW.out ?_ ?_ ?_ ?_ ?_ ?_ ?_ ?_ ?_ ?_ ?_ ?_ ?_ ?_ ?_ ?_ ?_ ?_ ?_ ?_ ?_ ?_ ?_ ?_ ?_ ?_ ?_ ?_ ?_ ?_ ?_ ?_ ?_ ?_ ?_ ?_ ?_ rfl rfl rfl rfl ?_ ?_ rfl rfl ?_ ?_ ?_ ?_
 · kernel_rfl
 · kernel_rfl
 · kernel_rfl
 · kernel_rfl
 · kernel_rfl
 · kernel_rfl
 · kernel_rfl
 · kernel_rfl
 · kernel_rfl
 · kernel_rfl
 · kernel_rfl
 · kernel_rfl
 · kernel_rfl
 · kernel_rfl
 · kernel_rfl
 · kernel_rfl
 · kernel_rfl
 · kernel_rfl
 · kernel_rfl
 · kernel_rfl
 · kernel_rfl
 · exact iJ (t:=0) rfl rfl (by kernel_rfl)
 · exact iJ (t:=0) rfl rfl (by kernel_rfl)
 · exact CF (t:=5) rfl rfl (by kernel_rfl)
 · exact Iw.y_b (t:=6) rfl rfl (by kernel_rfl)
 · exact Iw.iq (t:=7) rfl rfl (by kernel_rfl) fun u hu=>hu
 · exact iJ (t:=1) rfl rfl (by kernel_rfl)
 · exact fun v v'=>CF (t:=4) rfl rfl (by kernel_rfl)
 · exact fun v v'=>Iw.y_b (t:=12) rfl rfl (by kernel_rfl)
 · exact fun _ _ _ h=>h
 · exact fun _ _ _ h=>h
 · exact fun _ _ _ h=>h
 · exact fun _ _ _ h=>h
 · exact fun _ _ _ h=>h
 · exact fun _ _ _ h=>h
 · exact fun _ _ _ h=>h
 · exact fun _ _ _ h=>h
 ·
  intro u;refine Bl.enters rfl ?_ Tryz.func110 ?_ rfl _
  · kernel_rfl
  · kernel_rfl
 ·
  intro u hu;refine (uR [] x HX.out none 0 0 u (By.dL u) (by omega)).mono ?_;rintro e u' ⟨⟨g,rfl,hg,hb⟩,b⟩;rw [Nat.zero_add];exact ⟨⟨g,rfl,hg,hb⟩,b⟩
 ·
  intro v;refine ⟨?_,?_⟩
  · kernel_rfl
  · kernel_rfl
 ·
  intro v v';refine ⟨?_,?_⟩
  · kernel_rfl
  · kernel_rfl
 ·
  have:=HM.out;have:=bG x;omega
 ·
  intro v v' w' hw' hf';go_wp2_with fail;go_end0;exact ⟨rfl,hw',hf'⟩
theorem vT (x:ByteArray) (hx:x.size<=1000) (bs:List UInt8) (w0 w:World) (hW:iU w0 w bs) (hm:bs.length<=1000000) :
  Calls Tryz.prog 105 #[.pointer (some ⟨w0.heap.size,0,none⟩),.string x] w fun e w'=>e=.returned (.tuple #[])/\iU w0 w' (bs++tx x)/\nC w0 w w':=by
 obtain ⟨ao,n,cap,h⟩:=hW;have HW:=Lh h;have HM:=Lh hm;have HX:=Lh hx;obtain ⟨p,hp⟩:∃ p,w0.heap.size=p:=⟨_,rfl⟩;have HP:=Lh hp;rw [hp];clear h hm hp;go_enter Tryz.func105,Tryz.ntmps105;go_wp2_with fail;refine Iw.J7 (f:=147) (args:=#[.slice none 0 0,.string x]) (s7:=8) (x7:=10) (x10:=13) (y10:=11) p (.string x) w0 bs (tx x) ao n cap HP.out.symm HW.out ?_ ?_ ?_ ?_ ?_ ?_ ?_ ?_ ?_ ?_ ?_ ?_ ?_ ?_ ?_ ?_ ?_ ?_ ?_ ?_ ?_ ?_ ?_ ?_ ?_ ?_ ?_ ?_ ?_ ?_ ?_ ?_ ?_ ?_ ?_ ?_ ?_ rfl rfl rfl rfl ?_ ?_ rfl rfl ?_ ?_ ?_ ?_
 · kernel_rfl
 · kernel_rfl
 · kernel_rfl
 · kernel_rfl
 · kernel_rfl
 · kernel_rfl
 · kernel_rfl
 · kernel_rfl
 · kernel_rfl
 · kernel_rfl
 · kernel_rfl
 · kernel_rfl
 · kernel_rfl
 · kernel_rfl
 · kernel_rfl
 · kernel_rfl
 · kernel_rfl
 · kernel_rfl
 · kernel_rfl
 · kernel_rfl
 · kernel_rfl
 · exact iJ (t:=0) rfl rfl (by kernel_rfl)
 · exact iJ (t:=0) rfl rfl (by kernel_rfl)
 · exact CF (t:=5) rfl rfl (by kernel_rfl)
 · exact Iw.y_b (t:=6) rfl rfl (by kernel_rfl)
 · exact Iw.iq (t:=7) rfl rfl (by kernel_rfl) fun u hu=>hu
 · exact iJ (t:=1) rfl rfl (by kernel_rfl)
 · exact fun v v'=>CF (t:=4) rfl rfl (by kernel_rfl)
 · exact fun v v'=>Iw.y_b (t:=12) rfl rfl (by kernel_rfl)
 · exact fun _ _ _ h=>h
 · exact fun _ _ _ h=>h
 · exact fun _ _ _ h=>h
 · exact fun _ _ _ h=>h
 · exact fun _ _ _ h=>h
 · exact fun _ _ _ h=>h
 · exact fun _ _ _ h=>h
 · exact fun _ _ _ h=>h
 ·
  intro u;refine Bl.enters rfl ?_ Tryz.func147 ?_ rfl _
  · kernel_rfl
  · kernel_rfl
 ·
  intro u hu;refine (LU [] x (by have:=HX.out;omega) none 0 0 u (By.dL u) (by omega)).mono ?_;rintro e u' ⟨⟨g,N,rfl,hN,hg,hb⟩,b⟩;subst hN;exact ⟨⟨g,rfl,hg,hb⟩,b⟩
 ·
  intro v;refine ⟨?_,?_⟩
  · kernel_rfl
  · kernel_rfl
 ·
  intro v v';refine ⟨?_,?_⟩
  · kernel_rfl
  · kernel_rfl
 ·
  have:=HM.out;have:=Ar x HX.out;omega
 ·
  intro v v' w' hw' hf';go_wp2_with fail;go_end0;exact ⟨rfl,hw',hf'⟩
theorem WB (x:Bool) (bs:List UInt8) (w0 w:World) (hW:iU w0 w bs) (hm:bs.length<=1000000) :
  Calls Tryz.prog 107 #[.pointer (some ⟨w0.heap.size,0,none⟩),.bool x] w fun e w'=>e=.returned (.tuple #[])/\iU w0 w' (bs++Im.KO x)/\nC w0 w w':=by
 obtain ⟨ao,n,cap,h⟩:=hW;have HW:=Lh h;have HM:=Lh hm
 skip
 obtain ⟨p,hp⟩:∃ p,w0.heap.size=p:=⟨_,rfl⟩;have HP:=Lh hp;rw [hp];clear h hm hp;go_enter Tryz.func107,Tryz.ntmps107;go_wp2_with fail;refine Iw.J7 (f:=148) (args:=#[.slice none 0 0,.bool x]) (s7:=8) (x7:=10) (x10:=13) (y10:=11) p (.bool x) w0 bs (Im.KO x) ao n cap HP.out.symm HW.out ?_ ?_ ?_ ?_ ?_ ?_ ?_ ?_ ?_ ?_ ?_ ?_ ?_ ?_ ?_ ?_ ?_ ?_ ?_ ?_ ?_ ?_ ?_ ?_ ?_ ?_ ?_ ?_ ?_ ?_ ?_ ?_ ?_ ?_ ?_ ?_ ?_ rfl rfl rfl rfl ?_ ?_ rfl rfl ?_ ?_ ?_ ?_
 · kernel_rfl
 · kernel_rfl
 · kernel_rfl
 · kernel_rfl
 · kernel_rfl
 · kernel_rfl
 · kernel_rfl
 · kernel_rfl
 · kernel_rfl
 · kernel_rfl
 · kernel_rfl
 · kernel_rfl
 · kernel_rfl
 · kernel_rfl
 · kernel_rfl
 · kernel_rfl
 · kernel_rfl
 · kernel_rfl
 · kernel_rfl
 · kernel_rfl
 · kernel_rfl
 · exact iJ (t:=0) rfl rfl (by kernel_rfl)
 · exact iJ (t:=0) rfl rfl (by kernel_rfl)
 · exact CF (t:=5) rfl rfl (by kernel_rfl)
 · exact Iw.y_b (t:=6) rfl rfl (by kernel_rfl)
 · exact Iw.iq (t:=7) rfl rfl (by kernel_rfl) fun u hu=>hu
 · exact iJ (t:=1) rfl rfl (by kernel_rfl)
 · exact fun v v'=>CF (t:=4) rfl rfl (by kernel_rfl)
 · exact fun v v'=>Iw.y_b (t:=12) rfl rfl (by kernel_rfl)
 · exact fun _ _ _ h=>h
 · exact fun _ _ _ h=>h
 · exact fun _ _ _ h=>h
 · exact fun _ _ _ h=>h
 · exact fun _ _ _ h=>h
 · exact fun _ _ _ h=>h
 · exact fun _ _ _ h=>h
 · exact fun _ _ _ h=>h
 ·
  intro u;refine Bl.enters rfl ?_ Tryz.func148 ?_ rfl _
  · kernel_rfl
  · kernel_rfl
 ·
  intro u hu;exact Ov x u
 ·
  intro v;refine ⟨?_,?_⟩
  · kernel_rfl
  · kernel_rfl
 ·
  intro v v';refine ⟨?_,?_⟩
  · kernel_rfl
  · kernel_rfl
 ·
  have:=HM.out;have:=bG (if x=true then 1 else 0);unfold Im.KO;omega
 ·
  intro v v' w' hw' hf';go_wp2_with fail;go_end0;exact ⟨rfl,hw',hf'⟩
structure Ib (w0 w:World) (bs:List UInt8) (g:Nat) (o:Obj):Prop where
 wr:iU w0 w bs
 ap:Ap w0 w g
 box:w.heap[g]? =some o
theorem Ib.next {w':World} {bs':List UInt8} {o:Obj} (h:Ib w0 w bs g o) (k:iU w0 w' bs') (f:nC w0 w w'):Ib w0 w' bs' g o:=⟨k,(f g h.ap).1,(f g h.ap).2.trans h.box⟩
theorem iU.boxed (h:iU w0 w bs) (o:Obj):Ib w0 (w.alloc o) bs w.heap.size o/\nC w0 w (w.alloc o):=by
 obtain ⟨ao,n,cap,h⟩:=h;have hb:Below w.heap.size w (w.alloc o):=ah.alloc (ac _) o;exact ⟨⟨⟨ao,n,cap,h.below hb⟩,h.fresh o,heap_alloc_new w o⟩,nC.of hb h⟩
theorem Ib.cell {w0 w:World} {bs:List UInt8} {g:Nat} {cs:Array Value} {t:TypeId} (h:Ib w0 w bs g (.cells cs t (0,0))) (i:Nat):w.cell? ⟨g,i,none⟩=cs[i]? :=cell_of_row w g i _ _ _ h.box
theorem Tg (y m d:Int):(Cm.pW y m d).length<=1100:=by
 unfold Cm.pW;rw [ag,ag];have:=bG y;have:=bG m;have:=bG d;omega
theorem Ti (y m d:Int) (hh:Fit y/\Fit m/\Fit d) (bs:List UInt8) (w0 w:World) (hW:iU w0 w bs) (hm:bs.length<=990000) :
  Calls Tryz.prog 106 #[.pointer (some ⟨w0.heap.size,0,none⟩),.agg #[.int .i64 y,.int .i64 m,.int .i64 d]] w fun e w'=>e=.returned (.tuple #[])/\iU w0 w' (bs++Cm.pW y m d)/\nC w0 w w':=by
 have HM:=Lh hm;have HH:=Lh hh;obtain ⟨hI,hF⟩:=hW.boxed (.cells #[.int .i64 y,.int .i64 m,.int .i64 d] 50);obtain ⟨U,hU⟩:∃ U,w.alloc (.cells #[.int .i64 y,.int .i64 m,.int .i64 d] 50)=U:=⟨_,rfl⟩;rw [hU] at hI hF;have HI0:=Lh hI;have Ow:=Lh hF;obtain ⟨g,hg⟩:∃ g,w.heap.size=g:=⟨_,rfl⟩;rw [hg] at HI0 hI;have HG:=Lh hg;have c0:=hI.cell 0;have c1:=hI.cell 1;have c2:=hI.cell 2;simp only [List.getElem?_toArray,List.getElem?_cons_zero,List.getElem?_cons_succ] at c0 c1 c2;clear hI hF hW hm hh
 skip
 go_enter Tryz.func106,Tryz.ntmps106;go_wp2_with fail
 try rw [hU]
 try rw [hg]
 clear hU hg;refine (gQ (y) (HH.out.1) bs w0 U (HI0.out.wr) (by have:=HM.out;first | omega | (simp only [ag];omega))).mono ?_;rintro e w1 ⟨rfl,i1,f1⟩;have HI1:=Lh (HI0.out.next i1 f1);have jB:=Lh (Ow.out.trans f1);have lK:Hid ((nm (y)).length<=1100):=Lh (by exact Nat.le_trans (bG _) (by omega));clear c0 c1 c2 i1 f1;have c0:=HI1.out.cell 0;have c1:=HI1.out.cell 1;have c2:=HI1.out.cell 2;simp only [List.getElem?_toArray,List.getElem?_cons_zero,List.getElem?_cons_succ] at c0 c1 c2;go_wp2_with fail;refine (gQ (m) (HH.out.2.1) (bs++nm (y)) w0 w1 (HI1.out.wr) (by have:=HM.out;have:=lK.out;first | omega | (simp only [ag];omega))).mono ?_;rintro e w2 ⟨rfl,i2,f2⟩;have HI2:=Lh (HI1.out.next i2 f2);have ko:=Lh (jB.out.trans f2);have HL2:Hid ((nm (m)).length<=1100):=Lh (by exact Nat.le_trans (bG _) (by omega));clear c0 c1 c2 i2 f2;have c0:=HI2.out.cell 0;have c1:=HI2.out.cell 1;have c2:=HI2.out.cell 2;simp only [List.getElem?_toArray,List.getElem?_cons_zero,List.getElem?_cons_succ] at c0 c1 c2;go_wp2_with fail;refine (gQ (d) (HH.out.2.2) ((bs++nm (y))++nm (m)) w0 w2 (HI2.out.wr) (by have:=HM.out;have:=lK.out;have:=HL2.out;first | omega | (simp only [ag];omega))).mono ?_;rintro e w3 ⟨rfl,i3,f3⟩;have HI3:=Lh (HI2.out.next i3 f3);have lM:=Lh (ko.out.trans f3);have uJ:Hid ((nm (d)).length<=1100):=Lh (by exact Nat.le_trans (bG _) (by omega));clear c0 c1 c2 i3 f3;go_wp2_with fail;go_end0;refine ⟨rfl,?_,lM.out⟩;have h:=HI3.out.wr;unfold Cm.pW;simpa only [List.append_assoc] using h
theorem WC (r:Vt.Rt) (hh:r.cat.size<=1000/\Fit r.y/\Fit r.m/\Fit r.d/\Fit r.bp) (bs:List UInt8) (w0 w:World) (hW:iU w0 w bs) (hm:bs.length<=900000) :
  Calls Tryz.prog 61 #[.pointer (some ⟨w0.heap.size,0,none⟩),.agg #[.string r.cat,.int .i64 r.y,.int .i64 r.m,.int .i64 r.d,.int .i64 r.bp]] w fun e w'=>e=.returned (.tuple #[])/\iU w0 w' (bs++Im.gG r)/\nC w0 w w':=by
 have HM:=Lh hm;have HH:=Lh hh;obtain ⟨hI,hF⟩:=hW.boxed (.cells #[.string r.cat,.int .i64 r.y,.int .i64 r.m,.int .i64 r.d,.int .i64 r.bp] 52);obtain ⟨U,hU⟩:∃ U,w.alloc (.cells #[.string r.cat,.int .i64 r.y,.int .i64 r.m,.int .i64 r.d,.int .i64 r.bp] 52)=U:=⟨_,rfl⟩;rw [hU] at hI hF;have HI0:=Lh hI;have Ow:=Lh hF;obtain ⟨g,hg⟩:∃ g,w.heap.size=g:=⟨_,rfl⟩;rw [hg] at HI0 hI;have HG:=Lh hg;have c0:=hI.cell 0;have c1:=hI.cell 1;have c2:=hI.cell 2;have c3:=hI.cell 3;have c4:=hI.cell 4;simp only [List.getElem?_toArray,List.getElem?_cons_zero,List.getElem?_cons_succ] at c0 c1 c2 c3 c4;clear hI hF hW hm hh
 skip
 go_enter Tryz.func61,Tryz.ntmps61;go_wp2_with fail
 try rw [hU]
 try rw [hg]
 clear hU hg;refine (vT (r.cat) (HH.out.1) bs w0 U (HI0.out.wr) (by have:=HM.out;first | omega | (simp only [ag];omega))).mono ?_;rintro e w1 ⟨rfl,i1,f1⟩;have HI1:=Lh (HI0.out.next i1 f1);have jB:=Lh (Ow.out.trans f1);have lK:Hid ((tx (r.cat)).length<=1100):=Lh (by exact Nat.le_trans (Ar _ HH.out.1) (by omega));clear c0 c1 c2 c3 c4 i1 f1;have c0:=HI1.out.cell 0;have c1:=HI1.out.cell 1;have c2:=HI1.out.cell 2;have c3:=HI1.out.cell 3;have c4:=HI1.out.cell 4;simp only [List.getElem?_toArray,List.getElem?_cons_zero,List.getElem?_cons_succ] at c0 c1 c2 c3 c4;go_wp2_with fail;refine (Ti r.y r.m r.d ⟨HH.out.2.1,HH.out.2.2.1,HH.out.2.2.2.1⟩ (bs++tx (r.cat)) w0 w1 (HI1.out.wr) (by have:=HM.out;have:=lK.out;first | omega | (simp only [ag];omega))).mono ?_;rintro e w2 ⟨rfl,i2,f2⟩;have HI2:=Lh (HI1.out.next i2 f2);have ko:=Lh (jB.out.trans f2);have HL2:Hid ((Cm.pW r.y r.m r.d).length<=1100):=Lh (by exact Tg _ _ _);clear c0 c1 c2 c3 c4 i2 f2;have c0:=HI2.out.cell 0;have c1:=HI2.out.cell 1;have c2:=HI2.out.cell 2;have c3:=HI2.out.cell 3;have c4:=HI2.out.cell 4;simp only [List.getElem?_toArray,List.getElem?_cons_zero,List.getElem?_cons_succ] at c0 c1 c2 c3 c4;go_wp2_with fail;refine (gQ (r.bp) (HH.out.2.2.2.2) ((bs++tx (r.cat))++Cm.pW r.y r.m r.d) w0 w2 (HI2.out.wr) (by have:=HM.out;have:=lK.out;have:=HL2.out;first | omega | (simp only [ag];omega))).mono ?_;rintro e w3 ⟨rfl,i3,f3⟩;have HI3:=Lh (HI2.out.next i3 f3);have lM:=Lh (ko.out.trans f3);have uJ:Hid ((nm (r.bp)).length<=1100):=Lh (by exact Nat.le_trans (bG _) (by omega));clear c0 c1 c2 c3 c4 i3 f3;go_wp2_with fail;go_end0;refine ⟨rfl,?_,lM.out⟩;have h:=HI3.out.wr;unfold Im.gG;simpa only [List.append_assoc] using h
theorem Ox (r:Sr.T) (hh:r.name.size<=1000/\Fit r.limit) (bs:List UInt8) (w0 w:World) (hW:iU w0 w bs) (hm:bs.length<=900000) :
  Calls Tryz.prog 63 #[.pointer (some ⟨w0.heap.size,0,none⟩),.agg #[.string r.name,.int .i64 r.next,.int .i64 r.limit,.bool r.shut]] w fun e w'=>e=.returned (.tuple #[])/\iU w0 w' (bs++Im.iY r)/\nC w0 w w':=by
 have HM:=Lh hm;have HH:=Lh hh;obtain ⟨hI,hF⟩:=hW.boxed (.cells #[.string r.name,.int .i64 r.next,.int .i64 r.limit,.bool r.shut] 77);obtain ⟨U,hU⟩:∃ U,w.alloc (.cells #[.string r.name,.int .i64 r.next,.int .i64 r.limit,.bool r.shut] 77)=U:=⟨_,rfl⟩;rw [hU] at hI hF;have HI0:=Lh hI;have Ow:=Lh hF;obtain ⟨g,hg⟩:∃ g,w.heap.size=g:=⟨_,rfl⟩;rw [hg] at HI0 hI;have HG:=Lh hg;have c0:=hI.cell 0;have c1:=hI.cell 1;have c2:=hI.cell 2;have c3:=hI.cell 3;simp only [List.getElem?_toArray,List.getElem?_cons_zero,List.getElem?_cons_succ] at c0 c1 c2 c3;clear hI hF hW hm hh
 skip
 go_enter Tryz.func63,Tryz.ntmps63;go_wp2_with fail
 try rw [hU]
 try rw [hg]
 clear hU hg;refine (vT (r.name) (HH.out.1) bs w0 U (HI0.out.wr) (by have:=HM.out;first | omega | (simp only [ag];omega))).mono ?_;rintro e w1 ⟨rfl,i1,f1⟩;have HI1:=Lh (HI0.out.next i1 f1);have jB:=Lh (Ow.out.trans f1);have lK:Hid ((tx (r.name)).length<=1100):=Lh (by exact Nat.le_trans (Ar _ HH.out.1) (by omega));clear c0 c1 c2 c3 i1 f1;have c0:=HI1.out.cell 0;have c1:=HI1.out.cell 1;have c2:=HI1.out.cell 2;have c3:=HI1.out.cell 3;simp only [List.getElem?_toArray,List.getElem?_cons_zero,List.getElem?_cons_succ] at c0 c1 c2 c3;go_wp2_with fail;refine (gQ (r.limit) (HH.out.2) (bs++tx (r.name)) w0 w1 (HI1.out.wr) (by have:=HM.out;have:=lK.out;first | omega | (simp only [ag];omega))).mono ?_;rintro e w2 ⟨rfl,i2,f2⟩;have HI2:=Lh (HI1.out.next i2 f2);have ko:=Lh (jB.out.trans f2);have HL2:Hid ((nm (r.limit)).length<=1100):=Lh (by exact Nat.le_trans (bG _) (by omega));clear c0 c1 c2 c3 i2 f2;have c0:=HI2.out.cell 0;have c1:=HI2.out.cell 1;have c2:=HI2.out.cell 2;have c3:=HI2.out.cell 3;simp only [List.getElem?_toArray,List.getElem?_cons_zero,List.getElem?_cons_succ] at c0 c1 c2 c3;go_wp2_with fail;refine (WB r.shut ((bs++tx (r.name))++nm (r.limit)) w0 w2 (HI2.out.wr) (by have:=HM.out;have:=lK.out;have:=HL2.out;first | omega | (simp only [ag];omega))).mono ?_;rintro e w3 ⟨rfl,i3,f3⟩;have HI3:=Lh (HI2.out.next i3 f3);have lM:=Lh (ko.out.trans f3);have uJ:Hid ((Im.KO r.shut).length<=1100):=Lh (by exact Nat.le_trans (bG _) (by omega));clear c0 c1 c2 c3 i3 f3;go_wp2_with fail;go_end0;refine ⟨rfl,?_,lM.out⟩;have h:=HI3.out.wr;unfold Im.iY;simpa only [List.append_assoc] using h
theorem WE (r:Pt.T) (hh:r.cat.size<=1000/\Fit r.bp/\Fit r.net) (bs:List UInt8) (w0 w:World) (hW:iU w0 w bs) (hm:bs.length<=900000) :
  Calls Tryz.prog 109 #[.pointer (some ⟨w0.heap.size,0,none⟩),.agg #[.string r.cat,.int .i64 r.bp,.int .i64 r.net,.int .i64 r.aP]] w fun e w'=>e=.returned (.tuple #[])/\iU w0 w' (bs++Im.gH r)/\nC w0 w w':=by
 have HM:=Lh hm;have HH:=Lh hh;obtain ⟨hI,hF⟩:=hW.boxed (.cells #[.string r.cat,.int .i64 r.bp,.int .i64 r.net,.int .i64 r.aP] 108);obtain ⟨U,hU⟩:∃ U,w.alloc (.cells #[.string r.cat,.int .i64 r.bp,.int .i64 r.net,.int .i64 r.aP] 108)=U:=⟨_,rfl⟩;rw [hU] at hI hF;have HI0:=Lh hI;have Ow:=Lh hF;obtain ⟨g,hg⟩:∃ g,w.heap.size=g:=⟨_,rfl⟩;rw [hg] at HI0 hI;have HG:=Lh hg;have c0:=hI.cell 0;have c1:=hI.cell 1;have c2:=hI.cell 2;have c3:=hI.cell 3;simp only [List.getElem?_toArray,List.getElem?_cons_zero,List.getElem?_cons_succ] at c0 c1 c2 c3;clear hI hF hW hm hh
 skip
 go_enter Tryz.func109,Tryz.ntmps109;go_wp2_with fail
 try rw [hU]
 try rw [hg]
 clear hU hg;refine (vT (r.cat) (HH.out.1) bs w0 U (HI0.out.wr) (by have:=HM.out;first | omega | (simp only [ag];omega))).mono ?_;rintro e w1 ⟨rfl,i1,f1⟩;have HI1:=Lh (HI0.out.next i1 f1);have jB:=Lh (Ow.out.trans f1);have lK:Hid ((tx (r.cat)).length<=1100):=Lh (by exact Nat.le_trans (Ar _ HH.out.1) (by omega));clear c0 c1 c2 c3 i1 f1;have c0:=HI1.out.cell 0;have c1:=HI1.out.cell 1;have c2:=HI1.out.cell 2;have c3:=HI1.out.cell 3;simp only [List.getElem?_toArray,List.getElem?_cons_zero,List.getElem?_cons_succ] at c0 c1 c2 c3;go_wp2_with fail;refine (gQ (r.bp) (HH.out.2.1) (bs++tx (r.cat)) w0 w1 (HI1.out.wr) (by have:=HM.out;have:=lK.out;first | omega | (simp only [ag];omega))).mono ?_;rintro e w2 ⟨rfl,i2,f2⟩;have HI2:=Lh (HI1.out.next i2 f2);have ko:=Lh (jB.out.trans f2);have HL2:Hid ((nm (r.bp)).length<=1100):=Lh (by exact Nat.le_trans (bG _) (by omega));clear c0 c1 c2 c3 i2 f2;have c0:=HI2.out.cell 0;have c1:=HI2.out.cell 1;have c2:=HI2.out.cell 2;have c3:=HI2.out.cell 3;simp only [List.getElem?_toArray,List.getElem?_cons_zero,List.getElem?_cons_succ] at c0 c1 c2 c3;go_wp2_with fail;refine (gQ (r.net) (HH.out.2.2) ((bs++tx (r.cat))++nm (r.bp)) w0 w2 (HI2.out.wr) (by have:=HM.out;have:=lK.out;have:=HL2.out;first | omega | (simp only [ag];omega))).mono ?_;rintro e w3 ⟨rfl,i3,f3⟩;have HI3:=Lh (HI2.out.next i3 f3);have lM:=Lh (ko.out.trans f3);have uJ:Hid ((nm (r.net)).length<=1100):=Lh (by exact Nat.le_trans (bG _) (by omega));clear c0 c1 c2 c3 i3 f3;go_wp2_with fail;go_end0;refine ⟨rfl,?_,lM.out⟩;have h:=HI3.out.wr;unfold Im.gH;simpa only [List.append_assoc] using h
theorem J8 (r:Sn.T) (hh:Fit r.id/\Fit r.last/\Fit r.why/\Fit r.num/\Fit r.au) (bs:List UInt8) (w0 w:World) (hW:iU w0 w bs) (hm:bs.length<=900000) :
  Calls Tryz.prog 67 #[.pointer (some ⟨w0.heap.size,0,none⟩),.agg #[.int .i64 r.id,.int .i64 r.last,.int .i64 r.why,.int .i64 r.num,.int .i64 r.au]] w fun e w'=>e=.returned (.tuple #[])/\iU w0 w' (bs++Im.iG r)/\nC w0 w w':=by
 have HM:=Lh hm;have HH:=Lh hh;obtain ⟨hI,hF⟩:=hW.boxed (.cells #[.int .i64 r.id,.int .i64 r.last,.int .i64 r.why,.int .i64 r.num,.int .i64 r.au] 84);obtain ⟨U,hU⟩:∃ U,w.alloc (.cells #[.int .i64 r.id,.int .i64 r.last,.int .i64 r.why,.int .i64 r.num,.int .i64 r.au] 84)=U:=⟨_,rfl⟩;rw [hU] at hI hF;have HI0:=Lh hI;have Ow:=Lh hF;obtain ⟨g,hg⟩:∃ g,w.heap.size=g:=⟨_,rfl⟩;rw [hg] at HI0 hI;have HG:=Lh hg;have c0:=hI.cell 0;have c1:=hI.cell 1;have c2:=hI.cell 2;have c3:=hI.cell 3;have c4:=hI.cell 4;simp only [List.getElem?_toArray,List.getElem?_cons_zero,List.getElem?_cons_succ] at c0 c1 c2 c3 c4;clear hI hF hW hm hh
 skip
 go_enter Tryz.func67,Tryz.ntmps67;go_wp2_with fail
 try rw [hU]
 try rw [hg]
 clear hU hg;refine (gQ (r.id) (HH.out.1) bs w0 U (HI0.out.wr) (by have:=HM.out;first | omega | (simp only [ag];omega))).mono ?_;rintro e w1 ⟨rfl,i1,f1⟩;have HI1:=Lh (HI0.out.next i1 f1);have jB:=Lh (Ow.out.trans f1);have lK:Hid ((nm (r.id)).length<=1100):=Lh (by exact Nat.le_trans (bG _) (by omega));clear c0 c1 c2 c3 c4 i1 f1;have c0:=HI1.out.cell 0;have c1:=HI1.out.cell 1;have c2:=HI1.out.cell 2;have c3:=HI1.out.cell 3;have c4:=HI1.out.cell 4;simp only [List.getElem?_toArray,List.getElem?_cons_zero,List.getElem?_cons_succ] at c0 c1 c2 c3 c4;go_wp2_with fail;refine (gQ (r.last) (HH.out.2.1) (bs++nm (r.id)) w0 w1 (HI1.out.wr) (by have:=HM.out;have:=lK.out;first | omega | (simp only [ag];omega))).mono ?_;rintro e w2 ⟨rfl,i2,f2⟩;have HI2:=Lh (HI1.out.next i2 f2);have ko:=Lh (jB.out.trans f2);have HL2:Hid ((nm (r.last)).length<=1100):=Lh (by exact Nat.le_trans (bG _) (by omega));clear c0 c1 c2 c3 c4 i2 f2;have c0:=HI2.out.cell 0;have c1:=HI2.out.cell 1;have c2:=HI2.out.cell 2;have c3:=HI2.out.cell 3;have c4:=HI2.out.cell 4;simp only [List.getElem?_toArray,List.getElem?_cons_zero,List.getElem?_cons_succ] at c0 c1 c2 c3 c4;go_wp2_with fail;refine (gQ (r.why) (HH.out.2.2.1) ((bs++nm (r.id))++nm (r.last)) w0 w2 (HI2.out.wr) (by have:=HM.out;have:=lK.out;have:=HL2.out;first | omega | (simp only [ag];omega))).mono ?_;rintro e w3 ⟨rfl,i3,f3⟩;have HI3:=Lh (HI2.out.next i3 f3);have lM:=Lh (ko.out.trans f3);have uJ:Hid ((nm (r.why)).length<=1100):=Lh (by exact Nat.le_trans (bG _) (by omega));clear c0 c1 c2 c3 c4 i3 f3;have c0:=HI3.out.cell 0;have c1:=HI3.out.cell 1;have c2:=HI3.out.cell 2;have c3:=HI3.out.cell 3;have c4:=HI3.out.cell 4;simp only [List.getElem?_toArray,List.getElem?_cons_zero,List.getElem?_cons_succ] at c0 c1 c2 c3 c4;go_wp2_with fail;refine (gQ (r.num) (HH.out.2.2.2.1) (((bs++nm (r.id))++nm (r.last))++nm (r.why)) w0 w3 (HI3.out.wr) (by have:=HM.out;have:=lK.out;have:=HL2.out;have:=uJ.out;first | omega | (simp only [ag];omega))).mono ?_;rintro e w4 ⟨rfl,i4,f4⟩;have HI4:=Lh (HI3.out.next i4 f4);have Hu:=Lh (lM.out.trans f4);have AJ:Hid ((nm (r.num)).length<=1100):=Lh (by exact Nat.le_trans (bG _) (by omega));clear c0 c1 c2 c3 c4 i4 f4;have c0:=HI4.out.cell 0;have c1:=HI4.out.cell 1;have c2:=HI4.out.cell 2;have c3:=HI4.out.cell 3;have c4:=HI4.out.cell 4;simp only [List.getElem?_toArray,List.getElem?_cons_zero,List.getElem?_cons_succ] at c0 c1 c2 c3 c4;go_wp2_with fail;refine (gQ (r.au) (HH.out.2.2.2.2) ((((bs++nm (r.id))++nm (r.last))++nm (r.why))++nm (r.num)) w0 w4 (HI4.out.wr) (by have:=HM.out;have:=lK.out;have:=HL2.out;have:=uJ.out;have:=AJ.out;first | omega | (simp only [ag];omega))).mono ?_;rintro e w5 ⟨rfl,i5,f5⟩;have HI5:=Lh (HI4.out.next i5 f5);have WG:=Lh (Hu.out.trans f5);have OY:Hid ((nm (r.au)).length<=1100):=Lh (by exact Nat.le_trans (bG _) (by omega));clear c0 c1 c2 c3 c4 i5 f5;go_wp2_with fail;go_end0;refine ⟨rfl,?_,WG.out⟩;have h:=HI5.out.wr;unfold Im.iG;simpa only [List.append_assoc] using h
theorem iU.dx {w0 w:World} {bs:List UInt8} (h:iU w0 w bs):Below w0.heap.size w0 w:=by
 obtain ⟨ao,n,cap,h⟩:=h;exact h.dx
theorem Im.mM {α :Type} (B: α ->List UInt8) {l:List α} {k:Nat} (h:k < l.length):Im.bP B (l.take (k+1))=Im.bP B (l.take k)++B l[k]:=by
 rw [List.take_succ_eq_append_getElem h,Im.zm];show _++(B l[k]++[])=_;rw [List.append_nil]
theorem Im.jL {α :Type} {B: α ->List UInt8} {M:Nat}:∀ {l:List α},(∀ a∈l,(B a).length<=M)->(Im.bP B l).length<=l.length*M
 | [],_=>Nat.zero_le _
 | a::l,h=>by
  have h1:=Im.jL (B:=B) (l:=l) fun x hx=>h x (by simp [hx])
  have h2:=h a (by simp);rw [Im.bP,ag,List.length_cons,Nat.succ_mul];omega
theorem Im.Tj (r:Vt.Rt) (hh:(r.cat.size<=1000/\Fit r.y/\Fit r.m/\Fit r.d/\Fit r.bp)):(Im.gG r).length<=2200:=by
 unfold Im.gG;simp only [ag];have:=Ar r.cat hh.1;have:=Tg r.y r.m r.d;have:=bG r.bp;omega
theorem Oy (rs:List Vt.Rt) (ao:Option Addr) (n cap:Nat) (bs:List UInt8) (w0 w:World) (hW:iU w0 w bs) (hL:om w0 ao n cap rs) (hk:∀ r∈rs,(r.cat.size<=1000/\Fit r.y/\Fit r.m/\Fit r.d/\Fit r.bp)) (hn:n<=30) (hm:bs.length<=800000) :
  Calls Tryz.prog 60 #[.pointer (some ⟨w0.heap.size,0,none⟩),.slice ao n cap,.func (.func 61) #[.pointer (some ⟨w0.heap.size,0,none⟩)] #[]] w fun e w'=>e=.returned (.tuple #[])/\iU w0 w' (bs++Im.bR Im.gG rs)/\nC w0 w w':=by
 have HL:=Lh hL;have HN:=Lh hL.len;have HK:=Lh hk;have HM:=Lh hm;have HW:=Lh hW;have hcap:=hL.reach;have hfit:=hL.fits;obtain ⟨p,hp⟩:∃ p,w0.heap.size=p:=⟨_,rfl⟩;have HP:=Lh hp
 have WH:Hid (∀ u bs',iU w0 u bs'->bs'.length<=1000000->Calls Tryz.prog 68 #[.pointer (some ⟨p,0,none⟩),.int .i64 (n:Int)] u fun e w'=>e=.returned (.tuple #[])/\iU w0 w' (bs'++nm (n:Int))/\nC w0 u w'):=Lh fun u bs' h1 h2=>by
  rw [<- HP.out];exact gQ (n:Int) ⟨by omega,by omega⟩ bs' w0 u h1 h2
 have JG:Hid (∀ (r:Vt.Rt),r∈rs->∀ u bs',iU w0 u bs'->bs'.length<=900000->Calls Tryz.prog 61 #[.pointer (some ⟨p,0,none⟩),.agg #[.string r.cat,.int .i64 r.y,.int .i64 r.m,.int .i64 r.d,.int .i64 r.bp]] u fun e w'=>e=.returned (.tuple #[])/\iU w0 w' (bs'++Im.gG r)/\nC w0 u w'):=Lh fun r hr u bs' h1 h2=>by
  rw [<- HP.out];exact WC r (HK.out r hr) bs' w0 u h1 h2
 rw [hp];clear hL hk hm hW hp;go_enter Tryz.func60,Tryz.ntmps60;go_wp2_with fail;refine (WH.out w bs HW.out (by have:=HM.out;omega)).mono ?_;rintro e w1 ⟨rfl,i1,f1⟩;have HI1:=Lh i1;have jB:=Lh f1;clear i1 f1;go_wp2_with fail
 go_loopw [7,14] (fun _ j wr=>∃ k:Nat,k<=n/\j=.int .i64 k/\Hid (iU w0 wr (bs++nm (n:Int)++Im.bP Im.gG (rs.take k)))/\Hid (nC w0 w wr)) (fun _ j _=>n - (intOf j).toNat)
 case atStart=>exact ⟨0,by omega,rfl,Lh (by rw [List.take_zero,Im.bP,List.append_nil];exact HI1.out),jB⟩
 case round =>
  clear HI1 jB;rename World=>wz
  obtain ⟨k,hk,rfl,HI,HF⟩:=hrel;by_cases hlt:k < n
  ·
   obtain ⟨b,off,rfl⟩:=HL.out.at (by omega);have hkl:k < rs.length:=HN.out▸hlt;have hrow:=(HL.out.row k hkl).below HI.out.dx;have HT:=Lh (Im.mM Im.gG hkl);have vK:=Lh (ae hkl)
   have xK:Hid ((bs++nm (n:Int)++Im.bP Im.gG (rs.take k)).length<=900000):=Lh (by
    have h1:=Im.jL (B:=Im.gG) (M:=2200) (l:=rs.take k) fun a ha=>Im.Tj a (HK.out a (List.mem_of_mem_take ha))
    have h2:=bG (n:Int);have h3:=HM.out;rw [List.length_take] at h1;rw [ag,ag];have h4:min k rs.length*2200<=30*2200:=Nat.mul_le_mul_right _ (by omega);omega)
   obtain ⟨r,hr⟩:∃ r,rs[k]=r:=⟨_,rfl⟩;rw [hr] at hrow HT vK;clear hr;obtain ⟨r0,r1,r2,r3,r4⟩:=hrow;obtain ⟨hI,hF⟩:=HI.out.boxed (.cells #[.string r.cat,.int .i64 r.y,.int .i64 r.m,.int .i64 r.d,.int .i64 r.bp] 52);obtain ⟨U,hU⟩:∃ U,wz.alloc (.cells #[.string r.cat,.int .i64 r.y,.int .i64 r.m,.int .i64 r.d,.int .i64 r.bp] 52)=U:=⟨_,rfl⟩;rw [hU] at hI hF;have WI:=Lh hI;have Ol:=Lh hF;have c0:=hI.cell 0;have c1:=hI.cell 1;have c2:=hI.cell 2;have c3:=hI.cell 3;have c4:=hI.cell 4;simp only [List.getElem?_toArray,List.getElem?_cons_zero,List.getElem?_cons_succ] at c0 c1 c2 c3 c4;clear hI hF;go_wp2_with fail;refine (JG.out r vK.out U _ WI.out.wr xK.out).mono ?_;rintro e w3 ⟨rfl,i3,f3⟩;have HI3:=Lh i3;have lM:=Lh ((HF.out.trans Ol.out).trans f3);clear i3 f3 hU r0 r1 r2 r3 r4 c0 c1 c2 c3 c4;go_wp2_with fail;go_roundw
   case rel =>
    refine ⟨k+1,by omega,by go_num,Lh ?_,lM⟩;rw [HT.out,<- List.append_assoc];exact HI3.out
   case measure=>simp [intOf];omega
  ·
   obtain rfl:k=n:=by omega
   have HE:Hid (iU w0 wz (bs++Im.bR Im.gG rs)):=Lh (by
    have h:=HI.out;rw [List.take_of_length_le (Nat.le_of_eq HN.out.symm),List.append_assoc,HN.out] at h;exact h)
   go_wp2_with fail;go_end0;exact ⟨rfl,HE.out,HF.out⟩
theorem Im.Tk (r:Sr.T) (hh:(r.name.size<=1000/\Fit r.limit)):(Im.iY r).length<=1100:=by
 unfold Im.iY Im.KO;simp only [ag];have:=Ar r.name hh.1;have:=bG r.limit;have:=bG (if r.shut=true then 1 else 0);omega
theorem Oz (rs:List Sr.T) (ao:Option Addr) (n cap:Nat) (bs:List UInt8) (w0 w:World) (hW:iU w0 w bs) (hL:Sr.Ls w0 ao n cap rs) (hk:∀ r∈rs,(r.name.size<=1000/\Fit r.limit)) (hn:n<=30) (hm:bs.length<=800000) :
  Calls Tryz.prog 62 #[.pointer (some ⟨w0.heap.size,0,none⟩),.slice ao n cap,.func (.func 63) #[.pointer (some ⟨w0.heap.size,0,none⟩)] #[]] w fun e w'=>e=.returned (.tuple #[])/\iU w0 w' (bs++Im.bR Im.iY rs)/\nC w0 w w':=by
 have HL:=Lh hL;have HN:=Lh hL.len;have HK:=Lh hk;have HM:=Lh hm;have HW:=Lh hW;have hcap:=hL.reach;have hfit:=hL.fits;obtain ⟨p,hp⟩:∃ p,w0.heap.size=p:=⟨_,rfl⟩;have HP:=Lh hp
 have WH:Hid (∀ u bs',iU w0 u bs'->bs'.length<=1000000->Calls Tryz.prog 68 #[.pointer (some ⟨p,0,none⟩),.int .i64 (n:Int)] u fun e w'=>e=.returned (.tuple #[])/\iU w0 w' (bs'++nm (n:Int))/\nC w0 u w'):=Lh fun u bs' h1 h2=>by
  rw [<- HP.out];exact gQ (n:Int) ⟨by omega,by omega⟩ bs' w0 u h1 h2
 have JG:Hid (∀ (r:Sr.T),r∈rs->∀ u bs',iU w0 u bs'->bs'.length<=900000->Calls Tryz.prog 63 #[.pointer (some ⟨p,0,none⟩),.agg #[.string r.name,.int .i64 r.next,.int .i64 r.limit,.bool r.shut]] u fun e w'=>e=.returned (.tuple #[])/\iU w0 w' (bs'++Im.iY r)/\nC w0 u w'):=Lh fun r hr u bs' h1 h2=>by
  rw [<- HP.out];exact Ox r (HK.out r hr) bs' w0 u h1 h2
 rw [hp];clear hL hk hm hW hp;go_enter Tryz.func62,Tryz.ntmps62;go_wp2_with fail;refine (WH.out w bs HW.out (by have:=HM.out;omega)).mono ?_;rintro e w1 ⟨rfl,i1,f1⟩;have HI1:=Lh i1;have jB:=Lh f1;clear i1 f1;go_wp2_with fail
 go_loopw [7,14] (fun _ j wr=>∃ k:Nat,k<=n/\j=.int .i64 k/\Hid (iU w0 wr (bs++nm (n:Int)++Im.bP Im.iY (rs.take k)))/\Hid (nC w0 w wr)) (fun _ j _=>n - (intOf j).toNat)
 case atStart=>exact ⟨0,by omega,rfl,Lh (by rw [List.take_zero,Im.bP,List.append_nil];exact HI1.out),jB⟩
 case round =>
  clear HI1 jB;rename World=>wz
  obtain ⟨k,hk,rfl,HI,HF⟩:=hrel;by_cases hlt:k < n
  ·
   obtain ⟨b,off,rfl⟩:=HL.out.at (by omega);have hkl:k < rs.length:=HN.out▸hlt;have hrow:=(HL.out.row k hkl).below HI.out.dx;have HT:=Lh (Im.mM Im.iY hkl);have vK:=Lh (ae hkl)
   have xK:Hid ((bs++nm (n:Int)++Im.bP Im.iY (rs.take k)).length<=900000):=Lh (by
    have h1:=Im.jL (B:=Im.iY) (M:=1100) (l:=rs.take k) fun a ha=>Im.Tk a (HK.out a (List.mem_of_mem_take ha))
    have h2:=bG (n:Int);have h3:=HM.out;rw [List.length_take] at h1;rw [ag,ag];have h4:min k rs.length*1100<=30*1100:=Nat.mul_le_mul_right _ (by omega);omega)
   obtain ⟨r,hr⟩:∃ r,rs[k]=r:=⟨_,rfl⟩;rw [hr] at hrow HT vK;clear hr;obtain ⟨r0,r1,r2,r3⟩:=hrow;obtain ⟨hI,hF⟩:=HI.out.boxed (.cells #[.string r.name,.int .i64 r.next,.int .i64 r.limit,.bool r.shut] 77);obtain ⟨U,hU⟩:∃ U,wz.alloc (.cells #[.string r.name,.int .i64 r.next,.int .i64 r.limit,.bool r.shut] 77)=U:=⟨_,rfl⟩;rw [hU] at hI hF;have WI:=Lh hI;have Ol:=Lh hF;have c0:=hI.cell 0;have c1:=hI.cell 1;have c2:=hI.cell 2;have c3:=hI.cell 3;simp only [List.getElem?_toArray,List.getElem?_cons_zero,List.getElem?_cons_succ] at c0 c1 c2 c3;clear hI hF;go_wp2_with fail;refine (JG.out r vK.out U _ WI.out.wr xK.out).mono ?_;rintro e w3 ⟨rfl,i3,f3⟩;have HI3:=Lh i3;have lM:=Lh ((HF.out.trans Ol.out).trans f3);clear i3 f3 hU r0 r1 r2 r3 c0 c1 c2 c3;go_wp2_with fail;go_roundw
   case rel =>
    refine ⟨k+1,by omega,by go_num,Lh ?_,lM⟩;rw [HT.out,<- List.append_assoc];exact HI3.out
   case measure=>simp [intOf];omega
  ·
   obtain rfl:k=n:=by omega
   have HE:Hid (iU w0 wz (bs++Im.bR Im.iY rs)):=Lh (by
    have h:=HI.out;rw [List.take_of_length_le (Nat.le_of_eq HN.out.symm),List.append_assoc,HN.out] at h;exact h)
   go_wp2_with fail;go_end0;exact ⟨rfl,HE.out,HF.out⟩
theorem Im.ZN (r:Pt.T) (hh:(r.cat.size<=1000/\Fit r.bp/\Fit r.net)):(Im.gH r).length<=1100:=by
 unfold Im.gH;simp only [ag];have:=Ar r.cat hh.1;have:=bG r.bp;have:=bG r.net;omega
theorem OA (rs:List Pt.T) (ao:Option Addr) (n cap:Nat) (bs:List UInt8) (w0 w:World) (hW:iU w0 w bs) (hL:Pt.Ls w0 ao n cap rs) (hk:∀ r∈rs,(r.cat.size<=1000/\Fit r.bp/\Fit r.net)) (hn:n<=30) (hm:bs.length<=800000) :
  Calls Tryz.prog 108 #[.pointer (some ⟨w0.heap.size,0,none⟩),.slice ao n cap,.func (.func 109) #[.pointer (some ⟨w0.heap.size,0,none⟩)] #[]] w fun e w'=>e=.returned (.tuple #[])/\iU w0 w' (bs++Im.bR Im.gH rs)/\nC w0 w w':=by
 have HL:=Lh hL;have HN:=Lh hL.len;have HK:=Lh hk;have HM:=Lh hm;have HW:=Lh hW;have hcap:=hL.reach;have hfit:=hL.fits;obtain ⟨p,hp⟩:∃ p,w0.heap.size=p:=⟨_,rfl⟩;have HP:=Lh hp
 have WH:Hid (∀ u bs',iU w0 u bs'->bs'.length<=1000000->Calls Tryz.prog 68 #[.pointer (some ⟨p,0,none⟩),.int .i64 (n:Int)] u fun e w'=>e=.returned (.tuple #[])/\iU w0 w' (bs'++nm (n:Int))/\nC w0 u w'):=Lh fun u bs' h1 h2=>by
  rw [<- HP.out];exact gQ (n:Int) ⟨by omega,by omega⟩ bs' w0 u h1 h2
 have JG:Hid (∀ (r:Pt.T),r∈rs->∀ u bs',iU w0 u bs'->bs'.length<=900000->Calls Tryz.prog 109 #[.pointer (some ⟨p,0,none⟩),.agg #[.string r.cat,.int .i64 r.bp,.int .i64 r.net,.int .i64 r.aP]] u fun e w'=>e=.returned (.tuple #[])/\iU w0 w' (bs'++Im.gH r)/\nC w0 u w'):=Lh fun r hr u bs' h1 h2=>by
  rw [<- HP.out];exact WE r (HK.out r hr) bs' w0 u h1 h2
 rw [hp];clear hL hk hm hW hp;go_enter Tryz.func108,Tryz.ntmps108;go_wp2_with fail;refine (WH.out w bs HW.out (by have:=HM.out;omega)).mono ?_;rintro e w1 ⟨rfl,i1,f1⟩;have HI1:=Lh i1;have jB:=Lh f1;clear i1 f1;go_wp2_with fail
 go_loopw [7,14] (fun _ j wr=>∃ k:Nat,k<=n/\j=.int .i64 k/\Hid (iU w0 wr (bs++nm (n:Int)++Im.bP Im.gH (rs.take k)))/\Hid (nC w0 w wr)) (fun _ j _=>n - (intOf j).toNat)
 case atStart=>exact ⟨0,by omega,rfl,Lh (by rw [List.take_zero,Im.bP,List.append_nil];exact HI1.out),jB⟩
 case round =>
  clear HI1 jB;rename World=>wz
  obtain ⟨k,hk,rfl,HI,HF⟩:=hrel;by_cases hlt:k < n
  ·
   obtain ⟨b,off,rfl⟩:=HL.out.at (by omega);have hkl:k < rs.length:=HN.out▸hlt;have hrow:=(HL.out.row k hkl).below HI.out.dx;have HT:=Lh (Im.mM Im.gH hkl);have vK:=Lh (ae hkl)
   have xK:Hid ((bs++nm (n:Int)++Im.bP Im.gH (rs.take k)).length<=900000):=Lh (by
    have h1:=Im.jL (B:=Im.gH) (M:=1100) (l:=rs.take k) fun a ha=>Im.ZN a (HK.out a (List.mem_of_mem_take ha))
    have h2:=bG (n:Int);have h3:=HM.out;rw [List.length_take] at h1;rw [ag,ag];have h4:min k rs.length*1100<=30*1100:=Nat.mul_le_mul_right _ (by omega);omega)
   obtain ⟨r,hr⟩:∃ r,rs[k]=r:=⟨_,rfl⟩;rw [hr] at hrow HT vK;clear hr;obtain ⟨r0,r1,r2,r3⟩:=hrow;obtain ⟨hI,hF⟩:=HI.out.boxed (.cells #[.string r.cat,.int .i64 r.bp,.int .i64 r.net,.int .i64 r.aP] 108);obtain ⟨U,hU⟩:∃ U,wz.alloc (.cells #[.string r.cat,.int .i64 r.bp,.int .i64 r.net,.int .i64 r.aP] 108)=U:=⟨_,rfl⟩;rw [hU] at hI hF;have WI:=Lh hI;have Ol:=Lh hF;have c0:=hI.cell 0;have c1:=hI.cell 1;have c2:=hI.cell 2;have c3:=hI.cell 3;simp only [List.getElem?_toArray,List.getElem?_cons_zero,List.getElem?_cons_succ] at c0 c1 c2 c3;clear hI hF;go_wp2_with fail;refine (JG.out r vK.out U _ WI.out.wr xK.out).mono ?_;rintro e w3 ⟨rfl,i3,f3⟩;have HI3:=Lh i3;have lM:=Lh ((HF.out.trans Ol.out).trans f3);clear i3 f3 hU r0 r1 r2 r3 c0 c1 c2 c3;go_wp2_with fail;go_roundw
   case rel =>
    refine ⟨k+1,by omega,by go_num,Lh ?_,lM⟩;rw [HT.out,<- List.append_assoc];exact HI3.out
   case measure=>simp [intOf];omega
  ·
   obtain rfl:k=n:=by omega
   have HE:Hid (iU w0 wz (bs++Im.bR Im.gH rs)):=Lh (by
    have h:=HI.out;rw [List.take_of_length_le (Nat.le_of_eq HN.out.symm),List.append_assoc,HN.out] at h;exact h)
   go_wp2_with fail;go_end0;exact ⟨rfl,HE.out,HF.out⟩
theorem Im.Tn (r:Sn.T) (hh:(Fit r.id/\Fit r.last/\Fit r.why/\Fit r.num/\Fit r.au)):(Im.iG r).length<=60:=by
 unfold Im.iG;simp only [ag];have:=bG r.id;have:=bG r.last;have:=bG r.why;have:=bG r.num;have:=bG r.au;omega
theorem OB (rs:List Sn.T) (ao:Option Addr) (n cap:Nat) (bs:List UInt8) (w0 w:World) (hW:iU w0 w bs) (hL:Sn.Ls w0 ao n cap rs) (hk:∀ r∈rs,(Fit r.id/\Fit r.last/\Fit r.why/\Fit r.num/\Fit r.au)) (hn:n<=30) (hm:bs.length<=800000) :
  Calls Tryz.prog 66 #[.pointer (some ⟨w0.heap.size,0,none⟩),.slice ao n cap,.func (.func 67) #[.pointer (some ⟨w0.heap.size,0,none⟩)] #[]] w fun e w'=>e=.returned (.tuple #[])/\iU w0 w' (bs++Im.bR Im.iG rs)/\nC w0 w w':=by
 have HL:=Lh hL;have HN:=Lh hL.len;have HK:=Lh hk;have HM:=Lh hm;have HW:=Lh hW;have hcap:=hL.reach;have hfit:=hL.fits;obtain ⟨p,hp⟩:∃ p,w0.heap.size=p:=⟨_,rfl⟩;have HP:=Lh hp
 have WH:Hid (∀ u bs',iU w0 u bs'->bs'.length<=1000000->Calls Tryz.prog 68 #[.pointer (some ⟨p,0,none⟩),.int .i64 (n:Int)] u fun e w'=>e=.returned (.tuple #[])/\iU w0 w' (bs'++nm (n:Int))/\nC w0 u w'):=Lh fun u bs' h1 h2=>by
  rw [<- HP.out];exact gQ (n:Int) ⟨by omega,by omega⟩ bs' w0 u h1 h2
 have JG:Hid (∀ (r:Sn.T),r∈rs->∀ u bs',iU w0 u bs'->bs'.length<=900000->Calls Tryz.prog 67 #[.pointer (some ⟨p,0,none⟩),.agg #[.int .i64 r.id,.int .i64 r.last,.int .i64 r.why,.int .i64 r.num,.int .i64 r.au]] u fun e w'=>e=.returned (.tuple #[])/\iU w0 w' (bs'++Im.iG r)/\nC w0 u w'):=Lh fun r hr u bs' h1 h2=>by
  rw [<- HP.out];exact J8 r (HK.out r hr) bs' w0 u h1 h2
 rw [hp];clear hL hk hm hW hp;go_enter Tryz.func66,Tryz.ntmps66;go_wp2_with fail;refine (WH.out w bs HW.out (by have:=HM.out;omega)).mono ?_;rintro e w1 ⟨rfl,i1,f1⟩;have HI1:=Lh i1;have jB:=Lh f1;clear i1 f1;go_wp2_with fail
 go_loopw [7,14] (fun _ j wr=>∃ k:Nat,k<=n/\j=.int .i64 k/\Hid (iU w0 wr (bs++nm (n:Int)++Im.bP Im.iG (rs.take k)))/\Hid (nC w0 w wr)) (fun _ j _=>n - (intOf j).toNat)
 case atStart=>exact ⟨0,by omega,rfl,Lh (by rw [List.take_zero,Im.bP,List.append_nil];exact HI1.out),jB⟩
 case round =>
  clear HI1 jB;rename World=>wz
  obtain ⟨k,hk,rfl,HI,HF⟩:=hrel;by_cases hlt:k < n
  ·
   obtain ⟨b,off,rfl⟩:=HL.out.at (by omega);have hkl:k < rs.length:=HN.out▸hlt;have hrow:=(HL.out.row k hkl).below HI.out.dx;have HT:=Lh (Im.mM Im.iG hkl);have vK:=Lh (ae hkl)
   have xK:Hid ((bs++nm (n:Int)++Im.bP Im.iG (rs.take k)).length<=900000):=Lh (by
    have h1:=Im.jL (B:=Im.iG) (M:=60) (l:=rs.take k) fun a ha=>Im.Tn a (HK.out a (List.mem_of_mem_take ha))
    have h2:=bG (n:Int);have h3:=HM.out;rw [List.length_take] at h1;rw [ag,ag];have h4:min k rs.length*60<=30*60:=Nat.mul_le_mul_right _ (by omega);omega)
   obtain ⟨r,hr⟩:∃ r,rs[k]=r:=⟨_,rfl⟩;rw [hr] at hrow HT vK;clear hr;obtain ⟨r0,r1,r2,r3,r4⟩:=hrow;obtain ⟨hI,hF⟩:=HI.out.boxed (.cells #[.int .i64 r.id,.int .i64 r.last,.int .i64 r.why,.int .i64 r.num,.int .i64 r.au] 84);obtain ⟨U,hU⟩:∃ U,wz.alloc (.cells #[.int .i64 r.id,.int .i64 r.last,.int .i64 r.why,.int .i64 r.num,.int .i64 r.au] 84)=U:=⟨_,rfl⟩;rw [hU] at hI hF;have WI:=Lh hI;have Ol:=Lh hF;have c0:=hI.cell 0;have c1:=hI.cell 1;have c2:=hI.cell 2;have c3:=hI.cell 3;have c4:=hI.cell 4;simp only [List.getElem?_toArray,List.getElem?_cons_zero,List.getElem?_cons_succ] at c0 c1 c2 c3 c4;clear hI hF;go_wp2_with fail;refine (JG.out r vK.out U _ WI.out.wr xK.out).mono ?_;rintro e w3 ⟨rfl,i3,f3⟩;have HI3:=Lh i3;have lM:=Lh ((HF.out.trans Ol.out).trans f3);clear i3 f3 hU r0 r1 r2 r3 r4 c0 c1 c2 c3 c4;go_wp2_with fail;go_roundw
   case rel =>
    refine ⟨k+1,by omega,by go_num,Lh ?_,lM⟩;rw [HT.out,<- List.append_assoc];exact HI3.out
   case measure=>simp [intOf];omega
  ·
   obtain rfl:k=n:=by omega
   have HE:Hid (iU w0 wz (bs++Im.bR Im.iG rs)):=Lh (by
    have h:=HI.out;rw [List.take_of_length_le (Nat.le_of_eq HN.out.symm),List.append_assoc,HN.out] at h;exact h)
   go_wp2_with fail;go_end0;exact ⟨rfl,HE.out,HF.out⟩
end Go.Proofs.YtpfdnemaaeolcaaGreat
