import Derived.Maps.AppendAt
import Derived.Laws.AppendOwnNone
import Derived.Laws.Rows
import Derived.Lib.QuietBelow
import Derived.RegionTactic
import Derived.ProofKit
import Derived.OpenShut
import Derived.ShutString
import Derived.ChangeOld
import Derived.SizedLaws
import Derived.Deep.Slices
import Derived.Lib.SmallJoins
import Derived.Deep.MidRow
import Derived.Lib.SlicesCompact
import Derived.Lib.Bytealg
import Derived.Test.YtpfdnemaaeolcaaGreatZIb1
import Derived.Test.YtpfdnemaaeolcaaGreatZIb2
import Derived.Test.YtpfdnemaaeolcaaGreatZIb3
import Derived.Test.YtpfdnemaaeolcaaGreatZIb4
variable {w u W:Go.World} {g n A b cap B o off:Nat} {a:Go.Act} {Q:Go.Exit->Go.Act->Go.World->Prop} {ops:Array Go.Oper} {rest:List Go.Oper} {t s:Go.Tmp} {ao:Option Go.Addr} {op:Go.Oper} {v:Go.Value} {old:Array Go.Value}
set_option maxHeartbeats 8000000
namespace Go.Proofs.YtpfdnemaaeolcaaGreat
open Go.RowKit
open Mem
def Bl.box (w:World) (h:Bl.Sv):World:=w.alloc (.cells #[Bl.sl h.tab,Bl.sl h.av,Bl.sl h.post,Bl.sl h.book,Bl.sl h.ak,.int .i64 h.next] 30)
def Bl.At (u:World) (g:Nat) (h:Bl.Sv):Prop:=u.heap[g]? =some (.cells #[Bl.sl h.tab,Bl.sl h.av,Bl.sl h.post,Bl.sl h.book,Bl.sl h.ak,.int .i64 h.next] 30 (0,0))
theorem Bl.dY (w:World) (h:Bl.Sv):Bl.At (Bl.box w h) w.heap.size h:=heap_alloc_new w _
theorem Bl.dh (w:World) (h:Bl.Sv):(Bl.box w h).heap.size=w.heap.size+1:=by
 unfold Bl.box
 simp
theorem Bl.aC (w:World) (h:Bl.Sv):Below w.heap.size w (Bl.box w h):=(Below.refl _ _).alloc (Nat.le_refl _) _
theorem Bl.At.lt {h:Bl.Sv} (a:Bl.At u g h):g < u.heap.size:=by
 obtain ⟨hl,_⟩:=Array.getElem?_eq_some_iff.1 a;exact hl
theorem Bl.At.below {v:World} {h:Bl.Sv} (a:Bl.At u g h) (b:Below u.heap.size u v):Bl.At v g h:=(b.block g a.lt).trans a
theorem Bl.At.cells {h:Bl.Sv} (a:Bl.At u g h):u.cell? ⟨g,0,none⟩=some (.slice h.tab.ao h.tab.n h.tab.cap)/\u.cell? ⟨g,1,none⟩=some (.slice h.av.ao h.av.n h.av.cap)/\u.cell? ⟨g,2,none⟩=some (.slice h.post.ao h.post.n h.post.cap)/\u.cell? ⟨g,3,none⟩=some (.slice h.book.ao h.book.n h.book.cap)/\u.cell? ⟨g,4,none⟩=some (.slice h.ak.ao h.ak.n h.ak.cap)/\u.cell? ⟨g,5,none⟩=some (.int .i64 h.next):=by
 refine ⟨?_,?_,?_,?_,?_,?_⟩
 all_goals
  rw [cell_of_row u g _ _ _ _ a];rfl
theorem Bl.At.frozen {u:World} {g:Nat} {h:Bl.Sv} (a:Bl.At u g h) (k:Nat):u.frozen? ⟨g,k,none⟩=false:=frozen_of_row u g k _ _ a
theorem qU (s:Bl.St) (h k:Bl.Sv) (w0 w:World) (hw:Below w0.heap.size w0 w) (hA:Bl.kW w h s) (hB:Bl.kW w k s) :
  Calls Tryz.prog 10 #[h.val,k.val] w fun e w'=>e=.returned (.bool true)/\Below w0.heap.size w0 w':=by
 have HW:=Lh hw;clear hw;obtain ⟨rs,hP1,hE1⟩:=hA.post;obtain ⟨qs,hP2,hE2⟩:=hB.post;obtain ⟨⟨a0,n0,c0⟩,⟨a1,n1,c1⟩,⟨a2,n2,c2⟩,⟨a3,n3,c3⟩,⟨a4,n4,c4⟩,nx⟩:=h;obtain ⟨⟨b0,m0,d0⟩,⟨b1,m1,d1⟩,⟨b2,m2,d2⟩,⟨b3,m3,d3⟩,⟨b4,m4,d4⟩,my⟩:=k;obtain rfl:n0=m0:=hA.tab.len.trans hB.tab.len.symm;obtain rfl:n1=m1:=hA.av.len.trans hB.av.len.symm;obtain rfl:n2=m2:=(hP1.len.trans (hE1.len.trans hE2.len.symm)).trans hP2.len.symm;obtain rfl:n3=m3:=hA.book.len.trans hB.book.len.symm;obtain rfl:n4=m4:=hA.ak.len.trans hB.ak.len.symm;obtain rfl:nx=my:=hA.next.trans hB.next.symm;have HT:=Lh (And.intro hA.tab hB.tab);have HS:=Lh (And.intro hA.av hB.av);have HP:=Lh (And.intro (And.intro hP1 hP2) (And.intro hE1 hE2));have HK:=Lh (And.intro hA.book hB.book);have HN:=Lh (And.intro hA.ak hB.ak);clear hA hB hP1 hP2 hE1 hE2;obtain ⟨h,hh⟩:∃ h:Bl.Sv,h=⟨⟨a0,n0,c0⟩,⟨a1,n1,c1⟩,⟨a2,n2,c2⟩,⟨a3,n3,c3⟩,⟨a4,n4,c4⟩,nx⟩:=⟨_,rfl⟩;obtain ⟨k,hk⟩:∃ k:Bl.Sv,k=⟨⟨b0,n0,d0⟩,⟨b1,n1,d1⟩,⟨b2,n2,d2⟩,⟨b3,n3,d3⟩,⟨b4,n4,d4⟩,nx⟩:=⟨_,rfl⟩;have hb1:=Bl.aC w h;have hb2:=Bl.aC (Bl.box w h) k;have h1:=(Bl.dY w h).below hb2;have h2:=Bl.dY (Bl.box w h) k;rw [Bl.dh] at h2;have oh:=Lh (aj hb1 hb2);obtain ⟨U,hU⟩:∃ U,Bl.box (Bl.box w h) k=U:=⟨_,rfl⟩;rw [hU] at h1 h2 oh;subst hh hk;have H1:=Lh h1;have H2:=Lh h2;obtain ⟨x0,x1,x2,x3,x4,x5⟩:=h1.cells;obtain ⟨y0,y1,y2,y3,y4,y5⟩:=h2.cells;simp only at x0 x1 x2 x3 x4 x5 y0 y1 y2 y3 y4 y5;unfold Bl.box Bl.sl at hU;clear h1 h2 hb1 hb2;have hq:(nx==nx)=true:=beq_self_eq_true _;unfold Bl.Sv.val Bl.sl;go_enter Tryz.func10,Tryz.ntmps10;go_wp2_with fail;have HY:Hid (Below U.heap.size U U):=Lh (Below.refl _ _);refine (fV s.tab a0 b0 n0 c0 d0 U _ HY.out (HT.out.1.below (aj oh.out HY.out)) (HT.out.2.below (aj oh.out HY.out))).mono ?_;rintro e w1 ⟨rfl,z1⟩;have HY0:=Lh z1;clear x0 x1 x2 x3 x4 x5 y0 y1 y2 y3 y4 y5 hU;obtain ⟨x0,x1,x2,x3,x4,x5⟩:=(H1.out.below z1).cells;obtain ⟨y0,y1,y2,y3,y4,y5⟩:=(H2.out.below z1).cells;simp only at x0 x1 x2 x3 x4 x5 y0 y1 y2 y3 y4 y5;clear z1;go_wp2_with fail;refine (Sr.fV s.av a1 b1 n1 c1 d1 U _ HY0.out (HS.out.1.below (aj oh.out HY0.out)) (HS.out.2.below (aj oh.out HY0.out))).mono ?_;rintro e w2 ⟨rfl,z2⟩;have oQ:=Lh z2;clear x0 x1 x2 x3 x4 x5 y0 y1 y2 y3 y4 y5;obtain ⟨x0,x1,x2,x3,x4,x5⟩:=(H1.out.below z2).cells;obtain ⟨y0,y1,y2,y3,y4,y5⟩:=(H2.out.below z2).cells;simp only at x0 x1 x2 x3 x4 x5 y0 y1 y2 y3 y4 y5;clear z2;go_wp2_with fail;refine (Fa s.post rs qs a2 b2 n2 c2 d2 U _ oQ.out (HP.out.1.1.below (aj oh.out oQ.out)) (HP.out.1.2.below (aj oh.out oQ.out)) (HP.out.2.1.below (aj oh.out oQ.out)) (HP.out.2.2.below (aj oh.out oQ.out))).mono ?_;rintro e w3 ⟨rfl,z3⟩;have mP:=Lh z3;clear x0 x1 x2 x3 x4 x5 y0 y1 y2 y3 y4 y5;obtain ⟨x0,x1,x2,x3,x4,x5⟩:=(H1.out.below z3).cells;obtain ⟨y0,y1,y2,y3,y4,y5⟩:=(H2.out.below z3).cells;simp only at x0 x1 x2 x3 x4 x5 y0 y1 y2 y3 y4 y5;clear z3;go_wp2_with fail;refine (Ba.fV s.book a3 b3 n3 c3 d3 U _ mP.out (HK.out.1.below (aj oh.out mP.out)) (HK.out.2.below (aj oh.out mP.out))).mono ?_;rintro e w4 ⟨rfl,z4⟩;have xR:=Lh z4;clear x0 x1 x2 x3 x4 x5 y0 y1 y2 y3 y4 y5;obtain ⟨x0,x1,x2,x3,x4,x5⟩:=(H1.out.below z4).cells;obtain ⟨y0,y1,y2,y3,y4,y5⟩:=(H2.out.below z4).cells;simp only at x0 x1 x2 x3 x4 x5 y0 y1 y2 y3 y4 y5;clear z4;go_wp2_with fail;refine (Sn.fV s.ak a4 b4 n4 c4 d4 U _ xR.out (HN.out.1.below (aj oh.out xR.out)) (HN.out.2.below (aj oh.out xR.out))).mono ?_;rintro e w5 ⟨rfl,z5⟩;have HZ:=Lh z5;clear x0 x1 x2 x3 x4 x5 y0 y1 y2 y3 y4 y5;obtain ⟨x0,x1,x2,x3,x4,x5⟩:=(H1.out.below z5).cells;obtain ⟨y0,y1,y2,y3,y4,y5⟩:=(H2.out.below z5).cells;simp only at x0 x1 x2 x3 x4 x5 y0 y1 y2 y3 y4 y5;clear z5;go_wp2_with fail;go_ret;exact ⟨rfl,aj HW.out (aj oh.out HZ.out)⟩
open Go.ChangeShapes Go.WideShapes Go.ChangeAt Go.RowKit
theorem own:ownKnob Tryz.prog.godebug=none:=by kernel_rfl
theorem laidOut:laidOutB Tryz.prog=true:=by kernel_rfl
end Go.Proofs.YtpfdnemaaeolcaaGreat
namespace Go.Proofs.YtpfdnemaaeolcaaGreat.Ln
open Go.ChangeShapes Go.WideShapes Go.ChangeAt Go.RowKit Mem
set_option maxRecDepth 100000
set_option linter.unusedVariables false
theorem cellsOf:Tryz.prog.cellsOf 230=4:=by kernel_rfl
def datum (H:Type) (r:T):DataW H:=.agg [.lit (.string (txt r.text)),.lit (.string (txt r.category)),.lit (.int .i64 r.count),.lit (.int .i64 r.price)]
theorem uf {H:Type} {enc:TypeId×Value->H} {base:Nat} {spare:Nat->Bool} {held:Bool} {fuel:Nat} {cs:List Value} {x:DataW H×List MemPlace}
  (h:DataW.trod enc Tryz.prog w base spare held fuel 230 cs=some x):∃ r:T,cs=rv r/\x.1=datum H r/\Fit r.count/\Fit r.price:=by
 obtain ⟨xs,n,_,rfl,hl,hxl,hf⟩:=DataW.trod_struct Tryz.underlying230 h;rw [cellsOf] at hl
 match cs,hl with
 | [v0,v1,v2,v3],_ =>
  match xs,hxl with
  | [y0,y1,y2,y3],_ =>
   have g0:DataW.trod enc Tryz.prog w base spare held n 9 (List.take (Tryz.prog.cellsOf 9) (List.drop 0 [v0,v1,v2,v3]))=some y0:=hf 0 _ rfl;rw [show Tryz.prog.cellsOf 9=1 by kernel_rfl] at g0;simp only [List.drop,List.take] at g0;have g1:DataW.trod enc Tryz.prog w base spare held n 9 (List.take (Tryz.prog.cellsOf 9) (List.drop 1 [v0,v1,v2,v3]))=some y1:=hf 1 _ rfl;rw [show Tryz.prog.cellsOf 9=1 by kernel_rfl] at g1;simp only [List.drop,List.take] at g1;have g2:DataW.trod enc Tryz.prog w base spare held n 3 (List.take (Tryz.prog.cellsOf 3) (List.drop 2 [v0,v1,v2,v3]))=some y2:=hf 2 _ rfl;rw [show Tryz.prog.cellsOf 3=1 by kernel_rfl] at g2;simp only [List.drop,List.take] at g2;have g3:DataW.trod enc Tryz.prog w base spare held n 3 (List.take (Tryz.prog.cellsOf 3) (List.drop 3 [v0,v1,v2,v3]))=some y3:=hf 3 _ rfl;rw [show Tryz.prog.cellsOf 3=1 by kernel_rfl] at g3;simp only [List.drop,List.take] at g3;obtain ⟨x0,e0,rfl,_⟩:=DataW.trod_string Tryz.underlying9 g0;obtain ⟨x1,e1,rfl,_⟩:=DataW.trod_string Tryz.underlying9 g1;obtain ⟨x2,e2,rfl,w2⟩:=DataW.trod_int Tryz.underlying3 g2;obtain ⟨x3,e3,rfl,w3⟩:=DataW.trod_int Tryz.underlying3 g3;simp only [List.cons.injEq,and_true] at e0 e1 e2 e3;subst e0 e1 e2 e3;exact ⟨⟨x0,x1,x2,x3⟩,rfl,rfl,jr w2,jr w3⟩
theorem Dm {H:Type} (r:T):(txt r.text).length∈(datum H r).weights Tryz.prog 230:=by
 unfold datum;simp [DataW.weights,Tryz.underlying230,DataW.weightsEach]
theorem wE {H:Type} (r:T):(txt r.category).length∈(datum H r).weights Tryz.prog 230:=by
 unfold datum;simp [DataW.weights,Tryz.underlying230,DataW.weightsEach]
theorem jG {H:Type} {P:Program} {e:TypeId} {d:DataW H} {n:Nat} (hn:n∈d.weights P e):∀ (l:List (DataW H)),d∈l->n∈DataW.weightsAll P e l
 | a::l,h=>by
  rw [DataW.weightsAll,List.mem_append];rcases List.mem_cons.1 h with rfl | h
  · exact .inl hn
  · exact .inr (jG hn l h)
def AtA (w:World) (a:Addr) (r:T):Prop:=∀ p,p < 4->w.cell? (a.add p)=(rv r)[p]?
def Ql (r:T):Prop:=r.text.size<=140737488351232/\r.category.size<=140737488351232
theorem IY {H:Type} {enc:TypeId×Value->H} {d:DataW H} {p:List MemPlace} {ts:List TypeId} {ds:List (DataW H)} (j:Nat)
  (hj:DataW.Trod enc Tryz.prog W 0 (fun _=>true) true 53 (.slice ao n cap) d p)
  (hsz:(DataW.weightsEach Tryz.prog ts ds).all (· <=reachBytes)=true) (ht:ts[j]? =some 53) (hd:ds[j]? =some d):∃ rs,Ls W ao n cap rs/\∀ r∈rs,Ql r:=by
 haveI:Inhabited T:=⟨zero⟩;obtain ⟨fuel,hf⟩:=hj;rcases Go.Deep.open_slice Tryz.underlying53 hf with ⟨hcs,_⟩ | ⟨a,len,c,m,k,D,Pl,hcs,_,hl,hm,hmm,hx,hel⟩
 ·
  simp [Value.cells] at hcs;obtain ⟨rfl,rfl,rfl⟩:=hcs;exact ⟨[],dL W,by simp⟩
 ·
  simp [Value.cells] at hcs;obtain ⟨rfl,rfl,rfl⟩:=hcs;simp only [if_true] at hmm;subst hmm
  obtain ⟨R,hR⟩:=Go.Deep.choose_lt (α :=T) (n:=m) (p:=fun i r=>AtA W (a.add (i*4)) r/\D i=datum H r/\Fit r.count/\Fit r.price) (fun i hi=>by
   obtain ⟨cs',h1,h2⟩:=hel i hi;rw [cellsOf] at h1;obtain ⟨_,_,hcell⟩:=World.cells?_some h1;obtain ⟨r,e,hx',f⟩:=uf h2;subst e;exact ⟨r,fun p hp=>hcell p hp,hx',f⟩)
  have hd':=congrArg Prod.fst hx;simp only at hd';rw [hd'] at hd
  have hall:∀ r∈(List.range n).map R,Short r/\Ql r:=by
   intro r hr;obtain ⟨i,hi,rfl⟩:=List.mem_map.1 hr;rw [List.mem_range] at hi;obtain ⟨_,UZ,hf0,hf1⟩:=hR i (by omega)
   have KQ:(R i).text.size<=140737488351232:=by
    have hw:=List.all_eq_true.1 hsz _ (DataW.weights_mem_each ht hd (txt (R i).text).length (by
     rw [DataW.weights,Tryz.underlying53];refine List.mem_cons_of_mem _ (List.mem_append.2 (.inl (jG (Dm (R i)) _ ?_)));rw [<- UZ];exact List.mem_map.2 ⟨i,List.mem_range.2 hi,rfl⟩))
    rw [decide_eq_true_eq,dX] at hw;unfold reachBytes at hw;omega
   have xB:(R i).category.size<=140737488351232:=by
    have hw:=List.all_eq_true.1 hsz _ (DataW.weights_mem_each ht hd (txt (R i).category).length (by
     rw [DataW.weights,Tryz.underlying53];refine List.mem_cons_of_mem _ (List.mem_append.2 (.inl (jG (wE (R i)) _ ?_)));rw [<- UZ];exact List.mem_map.2 ⟨i,List.mem_range.2 hi,rfl⟩))
    rw [decide_eq_true_eq,dX] at hw;unfold reachBytes at hw;omega
   have U0:(R i).text.size<=140737488355328:=Nat.le_trans KQ (by omega);have Fb:(R i).category.size<=140737488355328:=Nat.le_trans xB (by omega);exact ⟨⟨U0,Fb,hf0,hf1⟩,⟨KQ,xB⟩⟩
  refine ⟨(List.range n).map R,⟨by simp,hl,hm,(fun h=>by cases h),?_,fun r hr=>(hall r hr).1⟩,fun r hr=>(hall r hr).2⟩
  ·
   by_cases h0:0 < n
   ·
    obtain ⟨b,off,spot⟩:=a;have h1:=(hR 0 (by omega)).1 0 (by omega)
    have hspot:spot=none:=by
     have h2:W.cell? ((Addr.mk b off spot).add 0)=some (.string (R 0).text):=by
      rw [show (Addr.mk b off spot).add 0=((Addr.mk b off spot).add (0*4)).add 0 by simp [Addr.add]];exact h1
     simpa [Addr.add] using World.cell?_spot h2
    subst hspot;refine .inr ⟨b,off,rfl,fun k hk=>?_⟩;simp only [List.length_map,List.length_range] at hk
    have hcell:∀ p,p < 4->W.cell? ⟨b,off+k*4+p,none⟩=(rv (R k))[p]? :=by
     intro p hp;rw [<- (hR k (by omega)).1 p hp,Go.WideShapes.add_plain,Go.WideShapes.add_plain]
    simp only [List.getElem_map,List.getElem_range];exact ⟨hcell 0 (by omega),hcell 1 (by omega),hcell 2 (by omega),hcell 3 (by omega)⟩
   · exact .inl (by rw [show n=0 by omega];rfl)
end Go.Proofs.YtpfdnemaaeolcaaGreat.Ln
namespace Go.Proofs.YtpfdnemaaeolcaaGreat.Ca
open Go.ChangeShapes Go.WideShapes Go.ChangeAt Go.RowKit Mem
set_option maxRecDepth 100000
set_option linter.unusedVariables false
theorem cellsOf:Tryz.prog.cellsOf 59=17:=by kernel_rfl
def datum (H:Type) (r:T) (dl:DataW H):DataW H:=.agg [.lit (.int .i64 r.ak),.lit (.int .i64 r.seq),.agg [.lit (.int .i64 r.kind),.lit (.string (txt r.av)),.lit (.int .i64 r.lim),.agg [.lit (.string (txt r.cat)),.agg [.lit (.int .i64 r.ry),.lit (.int .i64 r.rm),.lit (.int .i64 r.rd)],.lit (.int .i64 r.bp)],.agg [.lit (.int .i64 r.y),.lit (.int .i64 r.m),.lit (.int .i64 r.d)],dl,.agg [.lit (.string (txt r.bf)),.lit (.int .i64 r.aY)],.lit (.int .i64 r.fF)]]
variable {H:Type}
theorem uf {enc:TypeId×Value->H} {base:Nat} {spare:Nat->Bool} {held:Bool} {fuel:Nat} {cs:List Value} {x:DataW H×List MemPlace}
  (h:DataW.trod enc Tryz.prog w base spare held fuel 59 cs=some x):∃ (r:T) (dl:DataW H) (pl:List MemPlace),cs=rv r/\x.1=datum H r dl/\DataW.Trod enc Tryz.prog w base spare held 53 (.slice r.lines.ao r.lines.n r.lines.cap) dl pl/\Fit r.ak/\Fit r.seq/\Fit r.kind/\Fit r.lim/\Fit r.ry/\Fit r.rm/\Fit r.rd/\Fit r.bp/\Fit r.y/\Fit r.m/\Fit r.d/\Fit r.aY/\Fit r.fF:=by
 obtain ⟨xs,n,_,rfl,hl,hxl,hf⟩:=DataW.trod_struct Tryz.underlying59 h;rw [cellsOf] at hl
 match cs,hl with
 | [v0,v1,v2,v3,v4,v5,v6,v7,v8,v9,v10,v11,v12,v13,v14,v15,v16],_ =>
  match xs,hxl with
  | [y0,y1,y2],_ =>
   have g0:DataW.trod enc Tryz.prog w base spare held n 3 (List.take (Tryz.prog.cellsOf 3) (List.drop 0 [v0,v1,v2,v3,v4,v5,v6,v7,v8,v9,v10,v11,v12,v13,v14,v15,v16]))=some y0:=hf 0 _ rfl;rw [show Tryz.prog.cellsOf 3=1 by kernel_rfl] at g0;simp only [List.drop,List.take] at g0;have g1:DataW.trod enc Tryz.prog w base spare held n 3 (List.take (Tryz.prog.cellsOf 3) (List.drop 1 [v0,v1,v2,v3,v4,v5,v6,v7,v8,v9,v10,v11,v12,v13,v14,v15,v16]))=some y1:=hf 1 _ rfl;rw [show Tryz.prog.cellsOf 3=1 by kernel_rfl] at g1;simp only [List.drop,List.take] at g1;have g2:DataW.trod enc Tryz.prog w base spare held n 57 (List.take (Tryz.prog.cellsOf 57) (List.drop 2 [v0,v1,v2,v3,v4,v5,v6,v7,v8,v9,v10,v11,v12,v13,v14,v15,v16]))=some y2:=hf 2 _ rfl;rw [show Tryz.prog.cellsOf 57=15 by kernel_rfl] at g2;simp only [List.drop,List.take] at g2;obtain ⟨x0,e0,rfl,w0⟩:=DataW.trod_int Tryz.underlying3 g0;obtain ⟨x1,e1,rfl,w1⟩:=DataW.trod_int Tryz.underlying3 g1;obtain ⟨q2_zs,Dn,_,rfl,_,q2_hl,xC⟩:=DataW.trod_struct Tryz.underlying57 g2
   match q2_zs,q2_hl with
   | [q2_z0,q2_z1,q2_z2,q2_z3,q2_z4,Qm,q2_z6,q2_z7],_ =>
    have Qn:DataW.trod enc Tryz.prog w base spare held Dn 3 (List.take (Tryz.prog.cellsOf 3) (List.drop 0 [v2,v3,v4,v5,v6,v7,v8,v9,v10,v11,v12,v13,v14,v15,v16]))=some q2_z0:=xC 0 _ rfl;rw [show Tryz.prog.cellsOf 3=1 by kernel_rfl] at Qn;simp only [List.drop,List.take] at Qn;have Qo:DataW.trod enc Tryz.prog w base spare held Dn 9 (List.take (Tryz.prog.cellsOf 9) (List.drop 1 [v2,v3,v4,v5,v6,v7,v8,v9,v10,v11,v12,v13,v14,v15,v16]))=some q2_z1:=xC 1 _ rfl;rw [show Tryz.prog.cellsOf 9=1 by kernel_rfl] at Qo;simp only [List.drop,List.take] at Qo;have Qp:DataW.trod enc Tryz.prog w base spare held Dn 3 (List.take (Tryz.prog.cellsOf 3) (List.drop 2 [v2,v3,v4,v5,v6,v7,v8,v9,v10,v11,v12,v13,v14,v15,v16]))=some q2_z2:=xC 2 _ rfl;rw [show Tryz.prog.cellsOf 3=1 by kernel_rfl] at Qp;simp only [List.drop,List.take] at Qp;have Qq:DataW.trod enc Tryz.prog w base spare held Dn 52 (List.take (Tryz.prog.cellsOf 52) (List.drop 3 [v2,v3,v4,v5,v6,v7,v8,v9,v10,v11,v12,v13,v14,v15,v16]))=some q2_z3:=xC 3 _ rfl;rw [show Tryz.prog.cellsOf 52=5 by kernel_rfl] at Qq;simp only [List.drop,List.take] at Qq;have Qr:DataW.trod enc Tryz.prog w base spare held Dn 50 (List.take (Tryz.prog.cellsOf 50) (List.drop 8 [v2,v3,v4,v5,v6,v7,v8,v9,v10,v11,v12,v13,v14,v15,v16]))=some q2_z4:=xC 4 _ rfl;rw [show Tryz.prog.cellsOf 50=3 by kernel_rfl] at Qr;simp only [List.drop,List.take] at Qr;have KR:DataW.trod enc Tryz.prog w base spare held Dn 53 (List.take (Tryz.prog.cellsOf 53) (List.drop 11 [v2,v3,v4,v5,v6,v7,v8,v9,v10,v11,v12,v13,v14,v15,v16]))=some Qm:=xC 5 _ rfl;rw [show Tryz.prog.cellsOf 53=1 by kernel_rfl] at KR;simp only [List.drop,List.take] at KR;have Qs:DataW.trod enc Tryz.prog w base spare held Dn 55 (List.take (Tryz.prog.cellsOf 55) (List.drop 12 [v2,v3,v4,v5,v6,v7,v8,v9,v10,v11,v12,v13,v14,v15,v16]))=some q2_z6:=xC 6 _ rfl;rw [show Tryz.prog.cellsOf 55=2 by kernel_rfl] at Qs;simp only [List.drop,List.take] at Qs;have Qt:DataW.trod enc Tryz.prog w base spare held Dn 3 (List.take (Tryz.prog.cellsOf 3) (List.drop 14 [v2,v3,v4,v5,v6,v7,v8,v9,v10,v11,v12,v13,v14,v15,v16]))=some q2_z7:=xC 7 _ rfl;rw [show Tryz.prog.cellsOf 3=1 by kernel_rfl] at Qt;simp only [List.drop,List.take] at Qt;obtain ⟨x2,e2,rfl,w2⟩:=DataW.trod_int Tryz.underlying3 Qn;obtain ⟨x3,e3,rfl,_⟩:=DataW.trod_string Tryz.underlying9 Qo;obtain ⟨x4,e4,rfl,w4⟩:=DataW.trod_int Tryz.underlying3 Qp;obtain ⟨Qu,Dp,_,rfl,_,Qv,zx⟩:=DataW.trod_struct Tryz.underlying52 Qq
    match Qu,Qv with
    | [Qw,Qx,Qy],_ =>
     have zy:DataW.trod enc Tryz.prog w base spare held Dp 9 (List.take (Tryz.prog.cellsOf 9) (List.drop 0 [v5,v6,v7,v8,v9]))=some Qw:=zx 0 _ rfl;rw [show Tryz.prog.cellsOf 9=1 by kernel_rfl] at zy;simp only [List.drop,List.take] at zy;have zA:DataW.trod enc Tryz.prog w base spare held Dp 50 (List.take (Tryz.prog.cellsOf 50) (List.drop 1 [v5,v6,v7,v8,v9]))=some Qx:=zx 1 _ rfl;rw [show Tryz.prog.cellsOf 50=3 by kernel_rfl] at zA;simp only [List.drop,List.take] at zA;have zB:DataW.trod enc Tryz.prog w base spare held Dp 3 (List.take (Tryz.prog.cellsOf 3) (List.drop 4 [v5,v6,v7,v8,v9]))=some Qy:=zx 2 _ rfl;rw [show Tryz.prog.cellsOf 3=1 by kernel_rfl] at zB;simp only [List.drop,List.take] at zB;obtain ⟨x5,e5,rfl,_⟩:=DataW.trod_string Tryz.underlying9 zy;obtain ⟨Fe,ug,_,rfl,_,Fh,qV⟩:=DataW.trod_struct Tryz.underlying50 zA
     match Fe,Fh with
     | [Fj,Fp,Fq],_ =>
      have qW:DataW.trod enc Tryz.prog w base spare held ug 3 (List.take (Tryz.prog.cellsOf 3) (List.drop 0 [v6,v7,v8]))=some Fj:=qV 0 _ rfl;rw [show Tryz.prog.cellsOf 3=1 by kernel_rfl] at qW;simp only [List.drop,List.take] at qW;have qX:DataW.trod enc Tryz.prog w base spare held ug 3 (List.take (Tryz.prog.cellsOf 3) (List.drop 1 [v6,v7,v8]))=some Fp:=qV 1 _ rfl;rw [show Tryz.prog.cellsOf 3=1 by kernel_rfl] at qX;simp only [List.drop,List.take] at qX;have qY:DataW.trod enc Tryz.prog w base spare held ug 3 (List.take (Tryz.prog.cellsOf 3) (List.drop 2 [v6,v7,v8]))=some Fq:=qV 2 _ rfl;rw [show Tryz.prog.cellsOf 3=1 by kernel_rfl] at qY;simp only [List.drop,List.take] at qY;obtain ⟨x6,e6,rfl,w6⟩:=DataW.trod_int Tryz.underlying3 qW;obtain ⟨x7,e7,rfl,w7⟩:=DataW.trod_int Tryz.underlying3 qX;obtain ⟨x8,e8,rfl,w8⟩:=DataW.trod_int Tryz.underlying3 qY;obtain ⟨x9,e9,rfl,w9⟩:=DataW.trod_int Tryz.underlying3 zB;obtain ⟨Qz,Dq,_,rfl,_,QA,zC⟩:=DataW.trod_struct Tryz.underlying50 Qr
      match Qz,QA with
      | [QB,QC,QD],_ =>
       have zD:DataW.trod enc Tryz.prog w base spare held Dq 3 (List.take (Tryz.prog.cellsOf 3) (List.drop 0 [v10,v11,v12]))=some QB:=zC 0 _ rfl;rw [show Tryz.prog.cellsOf 3=1 by kernel_rfl] at zD;simp only [List.drop,List.take] at zD;have zF:DataW.trod enc Tryz.prog w base spare held Dq 3 (List.take (Tryz.prog.cellsOf 3) (List.drop 1 [v10,v11,v12]))=some QC:=zC 1 _ rfl;rw [show Tryz.prog.cellsOf 3=1 by kernel_rfl] at zF;simp only [List.drop,List.take] at zF;have zG:DataW.trod enc Tryz.prog w base spare held Dq 3 (List.take (Tryz.prog.cellsOf 3) (List.drop 2 [v10,v11,v12]))=some QD:=zC 2 _ rfl;rw [show Tryz.prog.cellsOf 3=1 by kernel_rfl] at zG;simp only [List.drop,List.take] at zG;obtain ⟨x10,e10,rfl,w10⟩:=DataW.trod_int Tryz.underlying3 zD;obtain ⟨x11,e11,rfl,w11⟩:=DataW.trod_int Tryz.underlying3 zF;obtain ⟨x12,e12,rfl,w12⟩:=DataW.trod_int Tryz.underlying3 zG
       obtain ⟨ao,nn,cap,e13⟩:∃ ao nn cap,[v13]=[Value.slice ao nn cap]:=by
        rcases Go.Deep.open_slice Tryz.underlying53 KR with ⟨hcs,_⟩ | ⟨a,len,c,_,_,_,_,hcs,_⟩
        · exact ⟨_,_,_,hcs⟩
        · exact ⟨_,_,_,hcs⟩
       obtain ⟨QE,KS,_,rfl,_,QF,Fu⟩:=DataW.trod_struct Tryz.underlying55 Qs
       match QE,QF with
       | [QG,QI],_ =>
        have zH:DataW.trod enc Tryz.prog w base spare held KS 9 (List.take (Tryz.prog.cellsOf 9) (List.drop 0 [v14,v15]))=some QG:=Fu 0 _ rfl;rw [show Tryz.prog.cellsOf 9=1 by kernel_rfl] at zH;simp only [List.drop,List.take] at zH;have zI:DataW.trod enc Tryz.prog w base spare held KS 3 (List.take (Tryz.prog.cellsOf 3) (List.drop 1 [v14,v15]))=some QI:=Fu 1 _ rfl;rw [show Tryz.prog.cellsOf 3=1 by kernel_rfl] at zI;simp only [List.drop,List.take] at zI;obtain ⟨x14,e14,rfl,_⟩:=DataW.trod_string Tryz.underlying9 zH;obtain ⟨x15,e15,rfl,w15⟩:=DataW.trod_int Tryz.underlying3 zI;obtain ⟨x16,e16,rfl,w16⟩:=DataW.trod_int Tryz.underlying3 Qt;simp only [List.cons.injEq,and_true] at e0 e1 e2 e3 e4 e5 e6 e7 e8 e9 e10 e11 e12 e13 e14 e15 e16;subst e0 e1 e2 e3 e4 e5 e6 e7 e8 e9 e10 e11 e12 e13 e14 e15 e16;exact ⟨⟨x0,x1,x2,x3,x4,x5,x6,x7,x8,x9,x10,x11,x12,⟨ao,nn,cap⟩,x14,x15,x16⟩,Qm.1,Qm.2,rfl,rfl,⟨Dn,KR⟩,jr w0,jr w1,jr w2,jr w4,jr w6,jr w7,jr w8,jr w9,jr w10,jr w11,jr w12,jr w15,jr w16⟩
theorem Fv (r:T) (dl:DataW H):(txt r.av).length∈(datum H r dl).weights Tryz.prog 59:=by
 unfold datum;simp [DataW.weights,DataW.weightsEach,Tryz.underlying59,Tryz.underlying57,Tryz.underlying52,Tryz.underlying50,Tryz.underlying55]
theorem Fx (r:T) (dl:DataW H):(txt r.cat).length∈(datum H r dl).weights Tryz.prog 59:=by
 unfold datum;simp [DataW.weights,DataW.weightsEach,Tryz.underlying59,Tryz.underlying57,Tryz.underlying52,Tryz.underlying50,Tryz.underlying55]
theorem Fy (r:T) (dl:DataW H):(txt r.bf).length∈(datum H r dl).weights Tryz.prog 59:=by
 unfold datum;simp [DataW.weights,DataW.weightsEach,Tryz.underlying59,Tryz.underlying57,Tryz.underlying52,Tryz.underlying50,Tryz.underlying55]
theorem IZ (r:T) (dl:DataW H) (k:Nat) (h:k∈dl.weights Tryz.prog 53):k∈(datum H r dl).weights Tryz.prog 59:=by
 unfold datum;simp [DataW.weights,DataW.weightsEach,Tryz.underlying59,Tryz.underlying57,Tryz.underlying52,Tryz.underlying50,Tryz.underlying55,h]
def Sub (W:World) (r:T):Prop:=∃ ls,Ln.Ls W r.lines.ao r.lines.n r.lines.cap ls/\∀ x∈ls,Ln.Ql x
theorem jG {H:Type} {P:Program} {e:TypeId} {d:DataW H} {n:Nat} (hn:n∈d.weights P e):∀ (l:List (DataW H)),d∈l->n∈DataW.weightsAll P e l
 | a::l,h=>by
  rw [DataW.weightsAll,List.mem_append];rcases List.mem_cons.1 h with rfl | h
  · exact .inl hn
  · exact .inr (jG hn l h)
def AtA (w:World) (a:Addr) (r:T):Prop:=∀ p,p < 17->w.cell? (a.add p)=(rv r)[p]?
theorem Dr {enc:TypeId×Value->H} {d:DataW H} {p:List MemPlace} {ts:List TypeId} {ds:List (DataW H)} (j:Nat)
  (hj:DataW.Trod enc Tryz.prog W 0 (fun _=>true) true 22 (.slice ao n cap) d p)
  (hsz:(DataW.weightsEach Tryz.prog ts ds).all (· <=reachBytes)=true) (ht:ts[j]? =some 22) (hd:ds[j]? =some d):∃ rs,Ls W ao n cap rs/\∀ r∈rs,Sub W r:=by
 haveI:Inhabited T:=⟨zero⟩;obtain ⟨fuel,hf⟩:=hj;rcases Go.Deep.open_slice Tryz.underlying22 hf with ⟨hcs,_⟩ | ⟨a,len,c,m,k,D,Pl,hcs,_,hl,hm,hmm,hx,hel⟩
 ·
  simp [Value.cells] at hcs;obtain ⟨rfl,rfl,rfl⟩:=hcs;exact ⟨[],dL W,by simp⟩
 ·
  simp [Value.cells] at hcs;obtain ⟨rfl,rfl,rfl⟩:=hcs;simp only [if_true] at hmm;subst hmm
  obtain ⟨R,hR⟩:=Go.Deep.choose_lt (α :=T) (n:=m) (p:=fun i r=>AtA W (a.add (i*17)) r/\(∃ (dl:DataW H) (pl:List MemPlace),D i=datum H r dl/\DataW.Trod enc Tryz.prog W 0 (fun _=>true) true 53 (.slice r.lines.ao r.lines.n r.lines.cap) dl pl)/\Fit r.ak/\Fit r.seq/\Fit r.kind/\Fit r.lim/\Fit r.ry/\Fit r.rm/\Fit r.rd/\Fit r.bp/\Fit r.y/\Fit r.m/\Fit r.d/\Fit r.aY/\Fit r.fF) (fun i hi=>by
   obtain ⟨cs',h1,h2⟩:=hel i hi;rw [cellsOf] at h1;obtain ⟨_,_,hcell⟩:=World.cells?_some h1;obtain ⟨r,dl,pl,e,hx',hl',f⟩:=uf h2;subst e;exact ⟨r,fun p hp=>hcell p hp,⟨dl,pl,hx',hl'⟩,f⟩)
  have hd':=congrArg Prod.fst hx;simp only at hd';rw [hd'] at hd
  have hin:∀ i,i < n->∀ dl,D i=datum H (R i) dl->∀ k,k∈(datum H (R i) dl).weights Tryz.prog 59->decide (k<=reachBytes)=true:=by
   intro i hi dl UZ k hk;refine List.all_eq_true.1 hsz k (DataW.weights_mem_each ht hd k ?_);rw [DataW.weights,Tryz.underlying22];refine List.mem_cons_of_mem _ (List.mem_append.2 (.inl (jG hk _ ?_)));rw [<- UZ];exact List.mem_map.2 ⟨i,List.mem_range.2 hi,rfl⟩
  have hall:∀ r∈(List.range n).map R,Short r/\Sub W r:=by
   intro r hr;obtain ⟨i,hi,rfl⟩:=List.mem_map.1 hr;rw [List.mem_range] at hi;obtain ⟨_,⟨dl,pl,UZ,hL⟩,Yy,f_seq,Yz,f_lim,f_ry,f_rm,f_rd,f_bp,f_y,f_m,f_d,f_ofN,U1⟩:=hR i (by omega)
   have YA:(R i).av.size<=140737488355328:=by
    have hw:=hin i hi dl UZ _ (Fv (R i) dl);rw [decide_eq_true_eq,dX] at hw;unfold reachBytes at hw;omega
   have YB:(R i).cat.size<=140737488355328:=by
    have hw:=hin i hi dl UZ _ (Fx (R i) dl);rw [decide_eq_true_eq,dX] at hw;unfold reachBytes at hw;omega
   have YC:(R i).bf.size<=140737488355328:=by
    have hw:=hin i hi dl UZ _ (Fy (R i) dl);rw [decide_eq_true_eq,dX] at hw;unfold reachBytes at hw;omega
   have hz:(DataW.weightsEach Tryz.prog [53] [dl]).all (· <=reachBytes)=true:=by
    refine List.all_eq_true.2 fun k hk=>?_
    refine hin i hi dl UZ k (IZ (R i) dl k ?_);simpa [DataW.weightsEach] using hk
   obtain ⟨ls,hls,htg⟩:=Ln.IY 0 hL hz rfl rfl;exact ⟨⟨Yy,f_seq,Yz,YA,f_lim,YB,f_ry,f_rm,f_rd,f_bp,f_y,f_m,f_d,YC,f_ofN,U1⟩,⟨ls,hls,htg⟩⟩
  refine ⟨(List.range n).map R,⟨by simp,hl,hm,(fun h=>by cases h),?_,fun r hr=>(hall r hr).1⟩,fun r hr=>(hall r hr).2⟩
  ·
   by_cases h0:0 < n
   ·
    obtain ⟨b,off,spot⟩:=a;have h1:=(hR 0 (by omega)).1 0 (by omega)
    have hspot:spot=none:=by
     have h2:W.cell? ((Addr.mk b off spot).add 0)=some (.int .i64 (R 0).ak):=by
      rw [show (Addr.mk b off spot).add 0=((Addr.mk b off spot).add (0*17)).add 0 by simp [Addr.add]];exact h1
     simpa [Addr.add] using World.cell?_spot h2
    subst hspot;refine .inr ⟨b,off,rfl,fun k hk=>?_⟩;simp only [List.length_map,List.length_range] at hk
    have hcell:∀ p,p < 17->W.cell? ⟨b,off+k*17+p,none⟩=(rv (R k))[p]? :=by
     intro p hp;rw [<- (hR k (by omega)).1 p hp,Go.WideShapes.add_plain,Go.WideShapes.add_plain]
    simp only [List.getElem_map,List.getElem_range];exact ⟨hcell 0 (by omega),hcell 1 (by omega),hcell 2 (by omega),hcell 3 (by omega),hcell 4 (by omega),hcell 5 (by omega),hcell 6 (by omega),hcell 7 (by omega),hcell 8 (by omega),hcell 9 (by omega),hcell 10 (by omega),hcell 11 (by omega),hcell 12 (by omega),hcell 13 (by omega),hcell 14 (by omega),hcell 15 (by omega),hcell 16 (by omega)⟩
   · exact .inl (by rw [show n=0 by omega];rfl)
end Go.Proofs.YtpfdnemaaeolcaaGreat.Ca
namespace Go.Proofs.YtpfdnemaaeolcaaGreat.Ba
open Go.RowKit
open Mem
def rv (r:T):List Value:=[.string r.aF,.int .i64 r.dG]
theorem aM (r:T):(rv r).length=2:=rfl
theorem aB:∀ rs:List T,(rs.flatMap rv).length=rs.length*2
 | []=>rfl
 | r::l=>by
  rw [List.flatMap_cons,List.length_append,aM,aB l,List.length_cons];omega
theorem aS:∀ (rs:List T) (k p:Nat) (hk:k < rs.length),p < 2->(rs.flatMap rv)[k*2+p]? =(rv rs[k])[p]?
 | r::l,0,p,_,hp=>by
  rw [List.flatMap_cons,List.getElem?_append_left (by rw [aM];omega),Nat.zero_mul,Nat.zero_add];rfl
 | r::l,k+1,p,hk,hp=>by
  rw [List.flatMap_cons,List.getElem?_append_right (by rw [aM];omega),aM,show (k+1)*2+p - 2=k*2+p by omega];exact aS l k p (by simpa using hk) hp
theorem one_cell (rs:List T):∀ v∈rs.flatMap rv,v.oneCell'=true:=by
 intro v hv;obtain ⟨r,_,h⟩:=List.mem_flatMap.1 hv;unfold rv at h;simp only [List.mem_cons,List.not_mem_nil,or_false] at h;rcases h with rfl | rfl <;> rfl
theorem dA {rs:List T} (h:∀ (k:Nat) (hk:k < rs.length),At w b (off+k*2) rs[k]) (j:Nat) (u:Value) (hu:(rs.flatMap rv)[j]? =some u):w.cell? ((⟨b,off,none⟩:Addr).add j)=some u:=by
 have hj:j < (rs.flatMap rv).length:=by
  obtain ⟨hj,_⟩:=List.getElem?_eq_some_iff.1 hu;exact hj
 rw [aB] at hj;obtain ⟨k,p,rfl,hp⟩:∃ k p,j=k*2+p/\p < 2:=⟨j / 2,j % 2,by omega,by omega⟩;have hk:k < rs.length:=by omega
 rw [aS rs k p hk hp] at hu
 have ha:(⟨b,off,none⟩:Addr).add (k*2+p)=⟨b,off+k*2+p,none⟩:=by
  unfold Addr.add;split
  ·
   rename_i e;simp only [Addr.mk.injEq,true_and,and_true];omega
  ·
   simp only [Addr.mk.injEq,true_and,and_true];omega
 rw [ha];obtain ⟨c0,c1⟩:=h k hk;have hp':p=0\/p=1:=by omega
 unfold rv at hu;rcases hp' with rfl | rfl
 all_goals simp at hu
 all_goals subst hu
 · exact c0
 · exact c1
def Own (w:World) (B:Nat) (v:Value) (xs:List T):Prop:=w.ownsRow B 81 2 v xs.length (xs.flatMap rv)
theorem aN (w:World) (B:Nat):Own w B (.slice none 0 0) []:=⟨rfl,.inl ⟨rfl,rfl⟩⟩
variable {xs:List T}
theorem aX (h:Own w B v xs) (hs:∀ r∈xs,Short r):∃ ao cap,v=.slice ao xs.length cap/\Ls w ao xs.length cap xs/\(∀ ad,ao=some ad->∃ g,ad=⟨g,0,none⟩/\B<=g):=by
 rcases h.2 with ⟨h',h2⟩ | ⟨g,cap,cur,h',hb,hg,hnc,hcm,hcs,htake⟩
 ·
  have e:xs=[]:=List.length_eq_zero_iff.1 h2;subst e;exact ⟨none,0,h',⟨rfl,Nat.le_refl _,by omega,fun _=>rfl,.inl rfl,hs⟩,fun ad k=>by cases k⟩
 ·
  refine ⟨some ⟨g,0,none⟩,cap,h',⟨rfl,hnc,hcm,fun k=>(by cases k),.inr ⟨g,0,rfl,fun k hk=>?_⟩,hs⟩,fun ad k=>by cases k;exact ⟨g,rfl,hb⟩⟩
  have hcell:∀ p,p < 2->w.cell? ⟨g,0+k*2+p,none⟩=(rv xs[k])[p]? :=by
   intro p hp;rw [Nat.zero_add,cell_of_row w g _ _ _ _ hg,<- aS xs k p hk hp,<- htake,List.getElem?_take_of_lt (by omega)]
   simp
  exact ⟨hcell 0 (by omega),hcell 1 (by omega)⟩
def zero:T:=⟨.empty,0⟩
def zeroV:Value:=.agg #[.string .empty,.int .i64 0]
theorem info:(Tryz.prog.info? 81).map (fun i=>(i.zero,i.size,i.bytes))=some (some zeroV,2,24):=by kernel_rfl
theorem eG {o:Oper} {K:Act->World->Prop} (w:World) (s x:Operand)
  (ho:o.op=.call { callee:=.builtin .append,args:=#[s,x],argTypes:=#[27,27] })
  (B:Nat) (v:Value) (xs:List T) (hs:a.eval s=v) (hown:Own w B v xs)
  (ao:Option Addr) (n cap:Nat) (zs:List T) (hx:a.eval x=.slice ao n cap) (hn:n=zs.length) (hnil:ao=none->cap=0) (hsrc:Seg w ao zs) (hl:(xs.length+n)*24<=140737488355328) (hb:B<=w.heap.size)
  (h:∀ v' w1,Own w1 B v' (xs++zs)->w.grownBy w1 v.ownBlock->(v'.ownBlock=v.ownBlock\/v'.ownBlock=some w.heap.size)->K (a.put o.dst v') w1):o.wp Tryz.prog a w K Q:=by
 have hzs:zeroV.cells.size=2:=rfl;obtain ⟨i0,hi,hz0,hz1,hz2⟩:=info_parts info;have hmx:maxLen=9223372036854775807:=rfl
 have empty:zs=[]->n=0->Own w B v (xs++zs):=by
  intro e _;rw [e,List.append_nil];exact hown
 cases ao with
 | none =>
  obtain rfl:cap=0:=hnil rfl;rcases hsrc with e | ⟨b,off,e,_⟩
  ·
   obtain rfl:n=0:=by rw [hn,e];rfl
   have hrun:=run_append_owned_none (P:=Tryz.prog) (w:=w) B 27 o.type 81 i0 2 Tryz.underlying27 hi v _ _ hown;unfold Oper.wp;simp [execOp,ho,resolve,invoke,builtin,hs,hx,hrun,Result.andThen];exact h v w (empty e rfl) ⟨rfl,rfl,rfl,Nat.le_refl _,fun _ _ _=>rfl⟩ (.inl rfl)
  · cases e
 | some ad =>
  obtain ⟨v',w',hr,h2,h3,_,h5⟩:=run_append_own_at (P:=Tryz.prog) w B 27 o.type 81 i0 zeroV 2 24 Tryz.underlying27 hi hz0 hz1 hz2 hzs (by omega) v xs.length (xs.flatMap rv) hown ad n cap (zs.flatMap rv) (by rw [aB,hn]) (by
   rcases hsrc with e | ⟨b,off,e,hc⟩
   ·
    rw [e];intro j u hu;simp at hu
   ·
    cases e
    exact fun j u hu=>dA hc j u hu) (one_cell zs) (by omega) hl hb
  unfold Oper.wp execOp;simp only [ho,resolve,invoke,builtin,Sem.run_bind,Sem.run_pure,Result.andThen_ok,List.map_toArray,List.map_cons,List.map_nil,hs,hx,hr];refine h v' w' ?_ h3 h5;unfold Own;rw [List.flatMap_append,List.length_append,<- hn];exact h2
theorem aG {o:Oper} (w:World) (hgd:o.guard=none) (s x:Operand)
  (ho:o.op=.call { callee:=.builtin .append,args:=#[s,x],argTypes:=#[27,27] })
  (B:Nat) (v:Value) (xs:List T) (hs:a.eval s=v) (hown:Own w B v xs)
  (ao:Option Addr) (n cap:Nat) (zs:List T) (hx:a.eval x=.slice ao n cap) (hn:n=zs.length) (hnil:ao=none->cap=0) (hsrc:Seg w ao zs) (hl:(xs.length+n)*24<=140737488355328) (hb:B<=w.heap.size)
  (h:∀ v' w1,Own w1 B v' (xs++zs)->w.grownBy w1 v.ownBlock->(v'.ownBlock=v.ownBlock\/v'.ownBlock=some w.heap.size)->wpList Tryz.prog ops Q rest (a.put o.dst v') w1):wpList Tryz.prog ops Q (o::rest) a w :=
 wpList_plain hgd fun _ hK=>eG w s x ho B v xs hs hown ao n cap zs hx hn hnil hsrc hl hb fun v' w1 h1 h2 h3=>hK _ _ (h v' w1 h1 h2 h3)
theorem bK (h:Own w B v xs):∀ k,v.ownBlock=some k->B<=k:=by
 intro k hk;rcases h.2 with ⟨h',_⟩ | ⟨g,cap,cur,h',hb,_⟩
 ·
  rw [h'] at hk;cases hk
 ·
  rw [h'] at hk;simp only [Value.ownBlock,Option.some.injEq] at hk;omega
theorem bD {C:Nat} (h:Own w B v xs) (hc:C<=B):Own w C v xs:=by
 obtain ⟨h1,h2⟩:=h;refine ⟨h1,?_⟩;rcases h2 with h2 | ⟨g,cap,cur,h',hb,h3⟩
 · exact .inl h2
 · exact .inr ⟨g,cap,cur,h',by omega,h3⟩
theorem bA (h:Own w B v xs) (o:Obj):Own (w.alloc o) B v xs:=World.ownsRow.alloc h o
theorem own_below (h:Own w B v xs) (k:Below w.heap.size w u):Own u B v xs:=by
 obtain ⟨h1,h2⟩:=h;refine ⟨h1,?_⟩;rcases h2 with h2 | ⟨g,cap,cur,h',hb,hg,h3⟩
 · exact .inl h2
 ·
  refine .inr ⟨g,cap,cur,h',hb,?_,h3⟩
  have hl:g < w.heap.size:=by
   obtain ⟨hl,_⟩:=Array.getElem?_eq_some_iff.1 hg;exact hl
  rw [k.block g hl];exact hg
def block (r:T):Obj:=.cells #[.string r.aF,.int .i64 r.dG] 81 (0,0)
theorem bB {X:World} {r:T} (h:X.heap[g]? =some (block r)):Seg X (some ⟨g,0,none⟩) [r]:=by
 refine .inr ⟨g,0,rfl,fun k hk=>?_⟩;obtain rfl:k=0:=by simpa using hk
 unfold block at h;refine ⟨?_,?_⟩
 all_goals rw [cell_of_row X g _ _ _ _ h]
 all_goals rfl
end Go.Proofs.YtpfdnemaaeolcaaGreat.Ba
namespace Go.Proofs.YtpfdnemaaeolcaaGreat
open Go.RowKit
open Vt (Rt)
def rv (r:Rt):List Value:=[.string r.cat,.int .i64 r.y,.int .i64 r.m,.int .i64 r.d,.int .i64 r.bp]
theorem aM (r:Rt):(rv r).length=5:=rfl
theorem aB:∀ rs:List Rt,(rs.flatMap rv).length=rs.length*5
 | []=>rfl
 | r::l=>by
  rw [List.flatMap_cons,List.length_append,aM,aB l,List.length_cons];omega
theorem aS:∀ (rs:List Rt) (k p:Nat) (hk:k < rs.length),p < 5->(rs.flatMap rv)[k*5+p]? =(rv rs[k])[p]?
 | r::l,0,p,_,hp=>by
  rw [List.flatMap_cons,List.getElem?_append_left (by rw [aM];omega),Nat.zero_mul,Nat.zero_add];rfl
 | r::l,k+1,p,hk,hp=>by
  rw [List.flatMap_cons,List.getElem?_append_right (by rw [aM];omega),aM,show (k+1)*5+p - 5=k*5+p by omega];exact aS l k p (by simpa using hk) hp
theorem oneR (rs:List Rt):∀ v∈rs.flatMap rv,v.oneCell'=true:=by
 intro v hv;obtain ⟨r,_,h⟩:=List.mem_flatMap.1 hv;unfold rv at h;simp only [List.mem_cons,List.not_mem_nil,or_false] at h;rcases h with rfl | rfl | rfl | rfl | rfl <;> rfl
theorem dA {rs:List Rt} (h:∀ (k:Nat) (hk:k < rs.length),zq w b (off+k*5) rs[k]) (j:Nat) (u:Value) (hu:(rs.flatMap rv)[j]? =some u):w.cell? ((⟨b,off,none⟩:Addr).add j)=some u:=by
 have hj:j < (rs.flatMap rv).length:=by
  obtain ⟨hj,_⟩:=List.getElem?_eq_some_iff.1 hu;exact hj
 rw [aB] at hj;obtain ⟨k,p,rfl,hp⟩:∃ k p,j=k*5+p/\p < 5:=⟨j / 5,j % 5,by omega,by omega⟩;have hk:k < rs.length:=by omega
 rw [aS rs k p hk hp] at hu
 have ha:(⟨b,off,none⟩:Addr).add (k*5+p)=⟨b,off+k*5+p,none⟩:=by
  unfold Addr.add;split
  ·
   rename_i e;simp only [Addr.mk.injEq,true_and,and_true];omega
  ·
   simp only [Addr.mk.injEq,true_and,and_true];omega
 rw [ha];obtain ⟨c0,c1,c2,c3,c4⟩:=h k hk;have hp':p=0\/p=1\/p=2\/p=3\/p=4:=by omega
 unfold rv at hu;rcases hp' with rfl | rfl | rfl | rfl | rfl
 all_goals simp at hu
 all_goals subst hu
 · exact c0
 · exact c1
 · exact c2
 · exact c3
 · exact c4
def nQ (w:World) (B:Nat) (v:Value) (xs:List Rt):Prop:=w.ownsRow B 52 5 v xs.length (xs.flatMap rv)
variable {xs:List Rt}
theorem KT (h:nQ w B v xs) (hs:∀ r∈xs,Short r):∃ ao cap,v=.slice ao xs.length cap/\om w ao xs.length cap xs/\(∀ ad,ao=some ad->∃ g,ad=⟨g,0,none⟩/\B<=g):=by
 rcases h.2 with ⟨h',h2⟩ | ⟨g,cap,cur,h',hb,hg,hnc,hcm,hcs,htake⟩
 ·
  have e:xs=[]:=List.length_eq_zero_iff.1 h2;subst e;exact ⟨none,0,h',⟨rfl,Nat.le_refl _,by omega,fun _=>rfl,.inl rfl,hs⟩,fun ad k=>by cases k⟩
 ·
  refine ⟨some ⟨g,0,none⟩,cap,h',⟨rfl,hnc,hcm,fun k=>(by cases k),.inr ⟨g,0,rfl,fun k hk=>?_⟩,hs⟩,fun ad k=>by cases k;exact ⟨g,rfl,hb⟩⟩
  have hcell:∀ p,p < 5->w.cell? ⟨g,0+k*5+p,none⟩=(rv xs[k])[p]? :=by
   intro p hp;rw [Nat.zero_add,cell_of_row w g _ _ _ _ hg,<- aS xs k p hk hp,<- htake,List.getElem?_take_of_lt (by omega)]
   simp
  exact ⟨hcell 0 (by omega),hcell 1 (by omega),hcell 2 (by omega),hcell 3 (by omega),hcell 4 (by omega)⟩
theorem vC:∃ z,(Tryz.prog.info? 52).map (fun i=>(i.zero,i.size,i.bytes))=some (some z,5,48)/\z.cells.size=5:=⟨.agg #[.string .empty,.int .i64 0,.int .i64 0,.int .i64 0,.int .i64 0],by kernel_rfl,rfl⟩
theorem zJ {o:Oper} {K:Act->World->Prop} (w:World) (s x:Operand)
  (ho:o.op=.call { callee:=.builtin .append,args:=#[s,x],argTypes:=#[24,24] })
  (B:Nat) (v:Value) (xs:List Rt) (hs:a.eval s=v) (hown:nQ w B v xs)
  (ao:Option Addr) (n cap:Nat) (zs:List Rt) (hx:a.eval x=.slice ao n cap) (hn:n=zs.length) (hnil:ao=none->cap=0) (hsrc:E5 w ao zs) (hl:(xs.length+n)*48<=140737488355328) (hb:B<=w.heap.size)
  (h:∀ v' w1,nQ w1 B v' (xs++zs)->w.grownBy w1 v.ownBlock->(v'.ownBlock=v.ownBlock\/v'.ownBlock=some w.heap.size)->K (a.put o.dst v') w1):o.wp Tryz.prog a w K Q:=by
 obtain ⟨z,hinf,hzs⟩:=vC;obtain ⟨i0,hi,hz0,hz1,hz2⟩:=info_parts hinf;have hmx:maxLen=9223372036854775807:=rfl
 have empty:zs=[]->n=0->nQ w B v (xs++zs):=by
  intro e _;rw [e,List.append_nil];exact hown
 cases ao with
 | none =>
  obtain rfl:cap=0:=hnil rfl;rcases hsrc with e | ⟨b,off,e,_⟩
  ·
   obtain rfl:n=0:=by rw [hn,e];rfl
   have hrun:=run_append_owned_none (P:=Tryz.prog) (w:=w) B 24 o.type 52 i0 5 Tryz.underlying24 hi v _ _ hown;unfold Oper.wp;simp [execOp,ho,resolve,invoke,builtin,hs,hx,hrun,Result.andThen];exact h v w (empty e rfl) ⟨rfl,rfl,rfl,Nat.le_refl _,fun _ _ _=>rfl⟩ (.inl rfl)
  · cases e
 | some ad =>
  obtain ⟨v',w',hr,h2,h3,_,h5⟩:=run_append_own_at (P:=Tryz.prog) w B 24 o.type 52 i0 z 5 48 Tryz.underlying24 hi hz0 hz1 hz2 hzs (by omega) v xs.length (xs.flatMap rv) hown ad n cap (zs.flatMap rv) (by rw [aB,hn]) (by
   rcases hsrc with e | ⟨b,off,e,hc⟩
   ·
    rw [e];intro j u hu;simp at hu
   ·
    cases e
    exact fun j u hu=>dA hc j u hu) (oneR zs) (by omega) hl hb
  unfold Oper.wp execOp;simp only [ho,resolve,invoke,builtin,Sem.run_bind,Sem.run_pure,Result.andThen_ok,List.map_toArray,List.map_cons,List.map_nil,hs,hx,hr];refine h v' w' ?_ h3 h5;unfold nQ;rw [List.flatMap_append,List.length_append,<- hn];exact h2
theorem dD {o:Oper} (w:World) (hgd:o.guard=none) (s x:Operand)
  (ho:o.op=.call { callee:=.builtin .append,args:=#[s,x],argTypes:=#[24,24] })
  (B:Nat) (v:Value) (xs:List Rt) (hs:a.eval s=v) (hown:nQ w B v xs)
  (ao:Option Addr) (n cap:Nat) (zs:List Rt) (hx:a.eval x=.slice ao n cap) (hn:n=zs.length) (hnil:ao=none->cap=0) (hsrc:E5 w ao zs) (hl:(xs.length+n)*48<=140737488355328) (hb:B<=w.heap.size)
  (h:∀ v' w1,nQ w1 B v' (xs++zs)->w.grownBy w1 v.ownBlock->(v'.ownBlock=v.ownBlock\/v'.ownBlock=some w.heap.size)->wpList Tryz.prog ops Q rest (a.put o.dst v') w1):wpList Tryz.prog ops Q (o::rest) a w :=
 wpList_plain hgd fun _ hK=>zJ w s x ho B v xs hs hown ao n cap zs hx hn hnil hsrc hl hb fun v' w1 h1 h2 h3=>hK _ _ (h v' w1 h1 h2 h3)
theorem bK (h:nQ w B v xs):∀ k,v.ownBlock=some k->B<=k:=by
 intro k hk;rcases h.2 with ⟨h',_⟩ | ⟨g,cap,cur,h',hb,_⟩
 ·
  rw [h'] at hk;cases hk
 ·
  rw [h'] at hk;simp only [Value.ownBlock,Option.some.injEq] at hk;omega
theorem bD {C:Nat} (h:nQ w B v xs) (hc:C<=B):nQ w C v xs:=by
 obtain ⟨h1,h2⟩:=h;refine ⟨h1,?_⟩;rcases h2 with h2 | ⟨g,cap,cur,h',hb,h3⟩
 · exact .inl h2
 · exact .inr ⟨g,cap,cur,h',by omega,h3⟩
theorem bA (h:nQ w B v xs) (o:Obj):nQ (w.alloc o) B v xs:=World.ownsRow.alloc h o
def kX (r:Rt):Obj:=.cells #[.string r.cat,.int .i64 r.y,.int .i64 r.m,.int .i64 r.d,.int .i64 r.bp] 52 (0,0)
theorem bB {X:World} {r:Rt} (h:X.heap[g]? =some (kX r)):E5 X (some ⟨g,0,none⟩) [r]:=by
 refine .inr ⟨g,0,rfl,fun k hk=>?_⟩;obtain rfl:k=0:=by simpa using hk
 unfold kX at h;refine ⟨?_,?_,?_,?_,?_⟩
 all_goals rw [cell_of_row X g _ _ _ _ h]
 all_goals rfl
end Go.Proofs.YtpfdnemaaeolcaaGreat
namespace Go.Proofs.YtpfdnemaaeolcaaGreat.Bl
open Go.ChangeShapes Go.WideShapes Go.ChangeAt Go.RowKit Mem
open Vt (Rt)
set_option maxRecDepth 100000
set_option linter.unusedVariables false
structure tq (w:World) (rs:List Ca.T) (cs:List Cl):Prop where
 len:rs.length=cs.length
 each : ∀ i (h : i < rs.length),Qk w rs[i] (cs[i]'(len ▸ h))
theorem tq.below {w v:World} {rs:List Ca.T} {cs:List Cl} (h:tq w rs cs) (k:Below w.heap.size w v):tq v rs cs :=
 ⟨h.len,fun i q=>(h.each i q).below k⟩
theorem YD {r:Ca.T} (h:Ca.Sub w r):∃ c,Qk w r c:=by
 obtain ⟨ls,hl,_⟩:=h;exact ⟨⟨r.ak,r.seq,⟨r.kind,r.av,r.lim,⟨r.cat,r.ry,r.rm,r.rd,r.bp⟩,r.y,r.m,r.d,ls,r.bf,r.aY,r.fF⟩⟩,rfl,rfl,rfl,rfl,rfl,rfl,rfl,rfl,rfl,hl,rfl,rfl,rfl⟩
theorem Fz {w:World}:∀ {rs:List Ca.T},(∀ r∈rs,Ca.Sub w r)->∃ cs,tq w rs cs
 | [],_=>⟨[],rfl,fun i h=>absurd h (Nat.not_lt_zero _)⟩
 | r::l,h=>by
  obtain ⟨c,hc⟩:=YD (h r (by simp));obtain ⟨cs,hcs⟩:=Fz (rs:=l) fun x hx=>h x (by simp [hx])
  refine ⟨c::cs,by simp [hcs.len],fun i hi=>?_⟩;cases i with
  | zero=>exact hc
  | succ i=>exact hcs.each i (by simpa using hi)
structure Cs (w:World) (ao:Option Addr) (n cap:Nat) (rs:List Ca.T) (cs:List Cl):Prop where
 ls:Ca.Ls w ao n cap rs
 each:tq w rs cs
theorem Cs.below {w v:World} {ao:Option Addr} {n cap:Nat} {rs:List Ca.T} {cs:List Cl} (h:Cs w ao n cap rs cs) (k:Below w.heap.size w v):Cs v ao n cap rs cs:=⟨h.ls.below k,h.each.below k⟩
theorem FB {H:Type} {enc:TypeId×Value->H} {d:DataW H} {p:List MemPlace} {ts:List TypeId} {ds:List (DataW H)} (j:Nat)
  (hj:DataW.Trod enc Tryz.prog W 0 (fun _=>true) true 22 (.slice ao n cap) d p)
  (hsz:(DataW.weightsEach Tryz.prog ts ds).all (· <=reachBytes)=true) (ht:ts[j]? =some 22) (hd:ds[j]? =some d):∃ rs cs,Cs W ao n cap rs cs:=by
 obtain ⟨rs,h,hs⟩:=Ca.Dr j hj hsz ht hd;obtain ⟨cs,hc⟩:=Fz hs;exact ⟨rs,cs,h,hc⟩
end Go.Proofs.YtpfdnemaaeolcaaGreat.Bl
namespace Go.Proofs.YtpfdnemaaeolcaaGreat.Ca
open Go.RowKit
open Mem
theorem gY (h:a.tmps.toList[t]? =some v):a.eval (.tmp t)=v:=by
 show a.tmps.getD t undef=v;rw [Array.getElem?_toList] at h;simp [Array.getD_eq_getD_getElem?,h]
theorem ng:(Tryz.prog.info? 59).map (·.size)=some 17:=by kernel_rfl
variable {r:T}
theorem At.range (h:At w b o r):w.rangeAt b o (rv r):=by
 intro j v hv
 have hj:j < 17:=by
  have:=(List.getElem?_eq_some_iff.1 hv).1
  rwa [aM] at this
 match j,hj with
 | 0,_=>exact (h.c0).trans hv
 | 1,_=>exact (h.c1).trans hv
 | 2,_=>exact (h.c2).trans hv
 | 3,_=>exact (h.c3).trans hv
 | 4,_=>exact (h.c4).trans hv
 | 5,_=>exact (h.c5).trans hv
 | 6,_=>exact (h.c6).trans hv
 | 7,_=>exact (h.c7).trans hv
 | 8,_=>exact (h.c8).trans hv
 | 9,_=>exact (h.c9).trans hv
 | 10,_=>exact (h.c10).trans hv
 | 11,_=>exact (h.c11).trans hv
 | 12,_=>exact (h.c12).trans hv
 | 13,_=>exact (h.c13).trans hv
 | 14,_=>exact (h.c14).trans hv
 | 15,_=>exact (h.c15).trans hv
 | 16,_=>exact (h.c16).trans hv
theorem C.range {w:World} {b:Nat} {r:T} (h:C w b r):w.rangeAt b 0 (rv r):=by
 obtain ⟨h0,h1,h2,h3,h4,h5,h6,h7,h8,h9,h10,h11,h12,h13,h14,h15,h16⟩:=h;exact At.range ⟨(h0:_),(h1:_),(h2:_),(h3:_),(h4:_),(h5:_),(h6:_),(h7:_),(h8:_),(h9:_),(h10:_),(h11:_),(h12:_),(h13:_),(h14:_),(h15:_),(h16:_)⟩
theorem aI (h:At w b o r) (ho:op.op=.load 59 (.tmp t)) (hgd:op.guard=none)
  (hx:a.tmps.toList[t]? =some (.pointer (some ⟨b,o,none⟩))) (k:wpList Tryz.prog ops Q rest (a.put op.dst (val r)) w):wpList Tryz.prog ops Q (op::rest) a w :=
 wpList_load_mid hgd 59 (.tmp t) ho b o (gY hx) (rv r) _ h.range Tryz.underlying59 rfl (by rw [ng,aM]) k
theorem run_load (h:At w b o r):(Instr.loadAt 59 (.pointer (some ⟨b,o,none⟩))).run Tryz.prog w=.ok (val r) w :=
 run_loadAt_mid w b o 59 (rv r) _ h.range Tryz.underlying59 rfl (by rw [ng,aM])
theorem kE (h:C w b r) (ho:op.op=.load 59 (.tmp t)) (hgd:op.guard=none)
  (hx:a.tmps.toList[t]? =some (.pointer (some ⟨b,0,none⟩))) (k:wpList Tryz.prog ops Q rest (a.put op.dst (val r)) w):wpList Tryz.prog ops Q (op::rest) a w :=
 wpList_load_mid hgd 59 (.tmp t) ho b 0 (gY hx) (rv r) _ h.range Tryz.underlying59 rfl (by rw [ng,aM]) k
theorem nR (w:World) (old cs:Array Value) (t:TypeId):(w.alloc (.cells old t)).setRow w.heap.size cs=w.alloc (.cells cs t):=by
 unfold World.setRow World.alloc;simp only [World.mk.injEq,and_true];apply Array.ext_getElem?;intro i;rw [Array.getElem?_modify];by_cases hi:w.heap.size=i
 ·
  subst hi
  simp
 · rw [if_neg hi,Array.getElem?_push,Array.getElem?_push,if_neg (Ne.symm hi),if_neg (Ne.symm hi)]
theorem aQ (ho:op.op=.store 59 (.tmp t) (.tmp s)) (hgd:op.guard=none)
  (hx:a.tmps.toList[t]? =some (.pointer (some ⟨g,0,none⟩))) (hg:g=w.heap.size) (hy:a.tmps.toList[s]? =some (val r)) (hold:old.size=17)
  (k:wpList Tryz.prog ops Q rest (a.put op.dst undef) (box w r)):wpList Tryz.prog ops Q (op::rest) a (w.alloc (.cells old 59)):=by
 subst hg;refine wpList_store_row hgd 59 (.tmp t) (.tmp s) ho w.heap.size (rv r).toArray (gY hx) (gY hy) 59 old (heap_alloc_new w _) (by rw [ng];rfl) (by rw [hold];rfl) (all_oneCell_toArray fun v hv=>one_cell [r] v (by simpa using hv)) ?_;rw [nR];exact k
theorem Du (r:T) (u:World):(Instr.buildSlice 22 1 #[(0,val r)]).run Tryz.prog u=.ok (.slice (some ⟨u.heap.size,0,none⟩) 1 1) (u.alloc (block r)):=by
 kernel_rfl
theorem vD (ho:op.op=.buildSlice 22 1 #[(0,.tmp t)]) (hgd:op.guard=none)
  (hx:a.tmps.toList[t]? =some (val r)) (k:wpList Tryz.prog ops Q rest (a.put op.dst (.slice (some ⟨w.heap.size,0,none⟩) 1 1)) (w.alloc (block r))):wpList Tryz.prog ops Q (op::rest) a w :=
 wpList_plain hgd fun _ hK=>by
  have e:(#[(0,Operand.tmp t)]:Array (Nat×Operand)).map (fun (i,x)=>(i,a.eval x))=#[(0,val r)]:=by simp [gY hx]
  unfold Oper.wp execOp;simp only [ho,Sem.run_bind,e,Du,Result.andThen_ok];exact hK _ _ k
end Go.Proofs.YtpfdnemaaeolcaaGreat.Ca
set_option linter.unusedVariables false
namespace Go.Proofs.YtpfdnemaaeolcaaGreat
open Go.RowKit
open Mem
def Bl.cut (c:Bl.Cl):Bl.Cl:=⟨c.ak,c.seq,⟨c.cmd.kind,c.cmd.av,c.cmd.lim,c.cmd.row,c.cmd.y,c.cmd.m,c.cmd.d,c.cmd.lines.take 15,c.cmd.bf,c.cmd.aY,c.cmd.ak⟩⟩
def Bl.AX (n:Nat) (l:List Bl.Cl):List Bl.Cl:=(l.take n).map Bl.cut
def Ca.cut (r:Ca.T):Ca.T:=⟨r.ak,r.seq,r.kind,r.av,r.lim,r.cat,r.ry,r.rm,r.rd,r.bp,r.y,r.m,r.d,⟨r.lines.ao,if 15 < r.lines.n then 15 else r.lines.n,r.lines.cap⟩,r.bf,r.aY,r.fF⟩
theorem Ca.QJ {r:Ca.T} (h:15 < r.lines.n):Ca.cut r=⟨r.ak,r.seq,r.kind,r.av,r.lim,r.cat,r.ry,r.rm,r.rd,r.bp,r.y,r.m,r.d,⟨r.lines.ao,15,r.lines.cap⟩,r.bf,r.aY,r.fF⟩:=by
 unfold Ca.cut;rw [if_pos h]
theorem Ca.MO {r:Ca.T} (h: ¬ 15 < r.lines.n):Ca.cut r=r:=by
 unfold Ca.cut;rw [if_neg h]
theorem Ca.U3 (w:World) (r:Ca.T) (ao:Option Addr) (n cap:Nat):(Ca.box w r).setCell ⟨w.heap.size,13,none⟩ (.slice ao n cap)=Ca.box w ⟨r.ak,r.seq,r.kind,r.av,r.lim,r.cat,r.ry,r.rm,r.rd,r.bp,r.y,r.m,r.d,⟨ao,n,cap⟩,r.bf,r.aY,r.fF⟩:=by
 unfold Ca.box;simp [go_sem]
theorem Ca.MP {r:Ca.T} (h:Ca.Short r):Ca.Short (Ca.cut r):=h
theorem Bl.Qk.cut {w:World} {r:Ca.T} {c:Bl.Cl} (h:Bl.Qk w r c):Bl.Qk w (Ca.cut r) (Bl.cut c):=by
 refine ⟨h.ak,h.seq,h.kind,h.av,h.lim,h.row,h.y,h.m,h.d,?_,h.bf,h.aY,h.fF⟩;unfold Ca.cut Bl.cut;dsimp only;by_cases q:15 < r.lines.n
 ·
  rw [if_pos q];exact (h.lines.to 15 (by omega)).2
 ·
  rw [if_neg q,List.take_of_length_le (by rw [<- h.lines.len];omega)];exact h.lines
theorem Bl.BA {l:List Bl.Cl}:∀ c∈Bl.AX n l,c.cmd.lines.length<=15:=by
 intro c hc;obtain ⟨d,_,rfl⟩:=List.mem_map.1 hc;show (d.cmd.lines.take 15).length<=15;rw [List.length_take];omega
theorem Bl.tq.few {rs:List Ca.T} {cs:List Bl.Cl} (h:Bl.tq w rs cs) (n:Nat):Bl.tq w ((rs.take n).map Ca.cut) (Bl.AX n cs):=by
 have hl:((rs.take n).map Ca.cut).length=(Bl.AX n cs).length:=by
  unfold Bl.AX;rw [List.length_map,List.length_map,List.length_take,List.length_take,h.len]
 refine ⟨hl,fun i hi=>?_⟩;rw [List.length_map,List.length_take] at hi;have:=(h.each i (by omega)).cut;unfold Bl.AX;simpa using this
def FewE (w:World) (rs:List Ca.T) (cs:List Bl.Cl) (N:Nat) (e:Ending) (w':World):Prop:=∃ v,e=.returned v/\Ca.Own w' w.heap.size v ((rs.take N).map Ca.cut)/\Bl.tq w' ((rs.take N).map Ca.cut) (Bl.AX N cs)/\Below w.heap.size w w'
theorem U4 (rs:List Ca.T) (cs:List Bl.Cl) (N:Nat) (ao:Option Addr) (n cap:Nat) (w:World) (hC:Bl.Cs w ao n cap rs cs) (hN:N<=1000) :
  Calls Tryz.prog 7 #[.slice ao n cap,.int .i64 N] w (FewE w rs cs N):=by
 have HC:=Lh hC;have HN:=Lh hC.ls.len;have hcap:=hC.ls.reach;have hfit:=hC.ls.fits;clear hC;go_enter Tryz.func7,Tryz.ntmps7;go_wp2_with fail
 go_loopw [5,6,7] (fun v j _ wr=>∃ k:Nat,k<=n/\k<=N/\j=.int .i64 k/\Hid (Ca.Own wr w.heap.size v ((rs.take k).map Ca.cut))/\Hid (Below w.heap.size w wr)) (fun _ j _ _=>n - (intOf j).toNat)
 case atStart=>exact ⟨0,by omega,by omega,rfl,Lh (Ca.aN _ _),Lh (Below.refl _ _)⟩
 case round =>
  obtain ⟨k,hk,hkN,rfl,HO,HB⟩:=hrel;by_cases hlt:k < n
  ·
   by_cases hlN:k < N
   ·
    obtain ⟨b,off,rfl⟩:=HC.out.ls.at (by omega);have hkr:k < rs.length:=HN.out▸hlt;have hrow:=(HC.out.ls.row k hkr).below HB.out;have HS:Hid ((rs.take (k+1)).map Ca.cut=(rs.take k).map Ca.cut++[Ca.cut rs[k]]):=Lh (by rw [List.take_succ_eq_append_getElem hkr,List.map_append];rfl);have HL:=Lh ((HC.out.each.each k hkr).lines);have hlr:=(HC.out.each.each k hkr).lines.reach;have hlf:=(HC.out.each.each k hkr).lines.fits;obtain ⟨r,hr⟩:∃ r,rs[k]=r:=⟨_,rfl⟩;rw [hr] at hrow HS HL hlr hlf;clear hr;have HLen:Hid (((rs.take k).map Ca.cut).length=k):=Lh (by rw [List.length_map,List.length_take];omega);have hkb:k<=1000:=by omega
    have hC:=Ca.dO wr r;have oo:=Lh (aj HB.out (Ca.aC wr r));have HOx:=Lh (Ca.own_below HO.out (Ca.aC wr r));have hC2:=Ca.dO wr (Ca.cut r);have QK:=Lh (aj HB.out (Ca.aC wr (Ca.cut r)));have HOy:=Lh (Ca.own_below HO.out (Ca.aC wr (Ca.cut r)))
    have a13:(Ca.box wr r).cell? ⟨wr.heap.size,13,none⟩=some (.slice r.lines.ao r.lines.n r.lines.cap):=by
     unfold Ca.C at hC;exact hC.2.2.2.2.2.2.2.2.2.2.2.2.2.1
    have f13:(Ca.box wr r).frozen? ⟨wr.heap.size,13,none⟩=false:=frozen_of_row (Ca.box wr r) wr.heap.size 13 _ _ (heap_alloc_new wr _);by_cases h15:15 < r.lines.n
    ·
     obtain ⟨hs,_⟩:=HL.out.to 15 (by omega);have HE:=Lh (Ca.QJ h15);have hs':∀ u,(Instr.slice 53 (.slice r.lines.ao r.lines.n r.lines.cap) none (some (.int .i64 15)) none).run Tryz.prog u=.ok (.slice r.lines.ao 15 r.lines.cap) u:=fun u=>hs u
     clear hs;have hbc:=Ca.U3 wr r r.lines.ao 15 r.lines.cap;rw [<- HE.out] at hbc;go_wp2_with (first | ((with_reducible apply Ca.aI hrow);rfl;rfl;rfl)|((with_reducible apply Ca.kE hC2);rfl;rfl;rfl)|((with_reducible apply Ca.vD (r:=Ca.cut r));rfl;rfl;rfl)|((with_reducible apply Ca.aQ (r:=r) (g:=wr.heap.size));rfl;rfl;rfl;rfl;rfl;rfl)|(at_builtin;go_must (refine Ca.aG _ rfl (.tmp 34) (.tmp 36) rfl w.heap.size u5 ((rs.take k).map Ca.cut) rfl (Ca.bA HOy.out _) (some ⟨(Ca.box wr (Ca.cut r)).heap.size,0,none⟩) 1 1 [Ca.cut r] rfl rfl (fun h=>by cases h) (Ca.bB (heap_alloc_new _ _)) (by have:=HLen.out;omega) ((aL QK.out _).size) ?_)));intro v2 y2 o2 tu _;have hb2:=(aL QK.out (Ca.block (Ca.cut r))).grown tu (aL QK.out (Ca.block (Ca.cut r))).size (Ca.bK HOy.out);have lX:=Lh o2;have mP:=Lh hb2;clear o2 tu hb2;go_wp2_with fail;go_roundw
     case rel=>exact ⟨k+1,by omega,by omega,by go_num,Lh (by rw [HS.out,List.map_take];exact lX.out),mP⟩
     case measure=>simp [intOf];omega
    ·
     have HE:=Ca.MO h15;rw [HE] at hC2 QK HOy HS;clear HE;go_wp2_with (first | ((with_reducible apply Ca.aI hrow);rfl;rfl;rfl)|((with_reducible apply Ca.kE hC2);rfl;rfl;rfl)|((with_reducible apply Ca.vD (r:=r));rfl;rfl;rfl)|((with_reducible apply Ca.aQ (r:=r) (g:=wr.heap.size));rfl;rfl;rfl;rfl;rfl;rfl)|(at_builtin;go_must (refine Ca.aG _ rfl (.tmp 34) (.tmp 36) rfl w.heap.size u5 ((rs.take k).map Ca.cut) rfl (Ca.bA HOy.out _) (some ⟨(Ca.box wr (r)).heap.size,0,none⟩) 1 1 [r] rfl rfl (fun h=>by cases h) (Ca.bB (heap_alloc_new _ _)) (by have:=HLen.out;omega) ((aL QK.out _).size) ?_)));intro v2 y2 o2 tu _;have hb2:=(aL QK.out (Ca.block (r))).grown tu (aL QK.out (Ca.block (r))).size (Ca.bK HOy.out);have lX:=Lh o2;have mP:=Lh hb2;clear o2 tu hb2;go_wp2_with fail;go_roundw
     case rel=>exact ⟨k+1,by omega,by omega,by go_num,Lh (by rw [HS.out,List.map_take];exact lX.out),mP⟩
     case measure=>simp [intOf];omega
   ·
    obtain rfl:k=N:=by omega
    have hd:decide ((k:Int) < (k:Int))=false:=decide_eq_false (Int.lt_irrefl _);go_wp2_with fail;go_ret;exact ⟨_,rfl,HO.out,(HC.out.each.below HB.out).few _,HB.out⟩
  ·
   obtain rfl:k=n:=by omega
   have HT:Hid ((rs.take k).map Ca.cut=(rs.take N).map Ca.cut):=Lh (by rw [List.take_of_length_le (by rw [HN.out];exact Nat.le_refl _),List.take_of_length_le (by rw [<- HN.out];omega)]);go_wp2_with fail;go_ret;exact ⟨_,rfl,by rw [<- HT.out];exact HO.out,(HC.out.each.below HB.out).few _,HB.out⟩
end Go.Proofs.YtpfdnemaaeolcaaGreat
namespace Go.Proofs.YtpfdnemaaeolcaaGreat.Rp
open Go.RowKit
open Mem
structure At (u:World) (b o:Nat) (r:T):Prop where
 c0:u.cell? ⟨b,o,none⟩=some (.int .i64 r.why)
 c1:u.cell? ⟨b,o+1,none⟩=some (.int .i64 r.num)
 c2:u.cell? ⟨b,o+2,none⟩=some (.int .i64 r.au)
theorem At.below {v:World} {r:T} (h:At u b o r) (k:Below u.heap.size u v):At v b o r:=by
 have hl:=aH h.c0;exact ⟨by rw [(aD k).1 _ _ hl];exact h.c0,by rw [(aD k).1 _ _ hl];exact h.c1,by rw [(aD k).1 _ _ hl];exact h.c2⟩
def Seg (w:World) (ao:Option Addr) (rs:List T):Prop:=rs=[]\/∃ b off,ao=some ⟨b,off,none⟩/\∀ (k:Nat) (hk:k < rs.length),At w b (off+k*3) rs[k]
theorem Seg.below {w v:World} {ao:Option Addr} {rs:List T} (h:Seg w ao rs) (k:Below w.heap.size w v):Seg v ao rs:=by
 rcases h with h | ⟨b,off,e,h⟩
 · exact .inl h
 · exact .inr ⟨b,off,e,fun i hi=>(h i hi).below k⟩
structure Ls (w:World) (ao:Option Addr) (n cap:Nat) (rs:List T):Prop where
 len:n=rs.length
 fits:n<=cap
 reach:cap<=9223372036854775807
 nil:ao=none->cap=0
 seg:Seg w ao rs
 short:∀ r∈rs,Short r
theorem Ls.below {w v:World} {ao:Option Addr} {n cap:Nat} {rs:List T} (h:Ls w ao n cap rs) (k:Below w.heap.size w v):Ls v ao n cap rs :=
 ⟨h.len,h.fits,h.reach,h.nil,h.seg.below k,h.short⟩
theorem Ls.at {w:World} {ao:Option Addr} {n cap:Nat} {rs:List T} (h:Ls w ao n cap rs) (hn:0 < n):∃ b off,ao=some ⟨b,off,none⟩:=by
 rcases h.seg with e | ⟨b,off,e,_⟩
 ·
  have:=h.len;rw [e] at this;simp at this;omega
 · exact ⟨b,off,e⟩
theorem Ls.row {rs:List T} (h:Ls w (some ⟨b,off,none⟩) n cap rs) (k:Nat) (hk:k < rs.length):At w b (off+k*3) rs[k]:=by
 rcases h.seg with e | ⟨b',off',e,hs⟩
 ·
  subst e;simp at hk
 ·
  cases e
  exact hs k hk
open Go.Sort (grow)
def kg (a b:T):Bool:=decide (a.why=b.why/\a.num=b.num/\a.au=b.au)
theorem kN (a b:T):kg a b=true↔a=b:=by
 unfold kg;rw [decide_eq_true_iff];cases a
 cases b
 simp
def aK:List T->List T->Bool
 | [],[]=>true
 | a::l,b::m=>kg a b&&aK l m
 | _,_=>false
theorem bM:∀ l m:List T,aK l m=true↔l=m
 | [],[]=>by simp [aK]
 | [],_::_=>by simp [aK]
 | _::_,[]=>by simp [aK]
 | a::l,b::m=>by
  rw [aK,Bool.and_eq_true,kN,bM l m,List.cons.injEq]
theorem eO (l:List T):aK l l=true:=(bM l l).2 rfl
theorem fU {l m:List T} (h:l.length≠m.length):aK l m=false:=by
 rw [Bool.eq_false_iff];intro k;exact h (congrArg List.length ((bM l m).1 k))
theorem jV (l m:List T) (k:Nat) (h:k < l.length) (h':k < m.length):aK (l.drop k) (m.drop k)=(kg l[k] m[k]&&aK (l.drop (k+1)) (m.drop (k+1))):=by
 rw [List.drop_eq_getElem_cons h,List.drop_eq_getElem_cons h',aK]
theorem iI (xs ys:List T) (ao bo:Option Addr) (n m ca cb:Nat) (w0 w:World) (hw:Below w0.heap.size w0 w) (hA:Ls w ao n ca xs) (hB:Ls w bo m cb ys) :
  Calls Tryz.prog 11 #[.slice ao n ca,.slice bo m cb] w fun e w'=>e=.returned (.bool (aK xs ys))/\Below w0.heap.size w0 w':=by
 have HW:=Lh hw;have HA:=Lh hA;have HB:=Lh hB;have HN:=Lh hA.len;have HM:=Lh hB.len;have hca:=hA.reach;have hfa:=hA.fits;have hcb:=hB.reach;have OQ:=hB.fits;clear hw hA hB;by_cases hnm:n=m
 ·
  subst hnm;have hne:((n:Int) != (n:Int))=false:=bne_self_eq_false _;go_enter Tryz.func11,Tryz.ntmps11;go_wp2
  go_loopw [5] (fun i wr=>∃ k:Nat,k<=n/\i=.int .i64 k/\Hid (aK (xs.drop k) (ys.drop k)=aK xs ys)/\Hid (Below w.heap.size w wr)) (fun i _=>n - (intOf i).toNat)
  case atStart=>exact ⟨0,Nat.zero_le _,rfl,Lh rfl,Lh (Below.refl _ _)⟩
  case round =>
   obtain ⟨k,hk,rfl,HK,iT⟩:=hrel;by_cases hlt:k < n
   ·
    obtain ⟨a,oa,rfl⟩:=HA.out.at (by omega);obtain ⟨b,ob,rfl⟩:=HB.out.at (by omega);have hkr:k < xs.length:=HN.out▸hlt;have hks:k < ys.length:=HM.out▸hlt;have bX:=Lh (jV xs ys k hkr hks);obtain ⟨r,hr⟩:∃ r,xs[k]=r:=⟨_,rfl⟩;obtain ⟨s,hs⟩:∃ s,ys[k]=s:=⟨_,rfl⟩;have h1:=(HA.out.row k hkr).below iT.out;have h2:=(HB.out.row k hks).below iT.out;rw [hr] at h1 bX;rw [hs] at h2 bX;clear hr hs;obtain ⟨g0,g1,g2⟩:=h1;obtain ⟨f0,f1,f2⟩:=h2;have g0':=cell_regrown g0;have g1':=cell_regrown g1;have g2':=cell_regrown g2;have OT:=cell_regrown f0;have OU:=cell_regrown f1;have f2':=cell_regrown f2;clear g0 g1 g2 f0 f1 f2;by_cases e0:r.why=s.why
    ·
     have q0:(r.why==s.why)=true:=beq_iff_eq.2 e0;by_cases e1:r.num=s.num
     ·
      have q1:(r.num==s.num)=true:=beq_iff_eq.2 e1;by_cases e2:r.au=s.au
      ·
       have q2:(r.au==s.au)=true:=beq_iff_eq.2 e2;have HE:Hid (kg r s=true):=Lh (decide_eq_true ⟨e0,e1,e2⟩);clear e0 e1 e2;go_wp2;refine wp_region_quiet_below (by kernel_rfl) (by kernel_rfl) ?_
       repeat (first | go_big_quiet_step (fail) | quiet_step (fail))
       refine wpQuiet_nil ?_;intro _ hw';obtain ⟨⟨dq,osq⟩,hw''⟩:=hw';subst hw'';have cO:=Lh (aj iT.out (below_regrown wr dq osq));go_wp2;go_roundw
       case rel=>exact ⟨k+1,by omega,by go_num,Lh (by rw [<- HK.out,bX.out,HE.out,Bool.true_and]),cO⟩
       case measure=>simp [intOf];omega
      ·
       have q2:(r.au==s.au)=false:=beq_eq_false_iff_ne.2 e2;have HE:Hid (kg r s=false):=Lh (decide_eq_false fun h=>e2 h.2.2);clear e0 e1 e2;go_wp2;refine wp_region_quiet_below (by kernel_rfl) (by kernel_rfl) ?_
       repeat (first | go_big_quiet_step (fail) | quiet_step (fail))
       refine wpQuiet_nil ?_;intro _ hw';obtain ⟨⟨dq,osq⟩,hw''⟩:=hw';subst hw'';have cO:=Lh (aj iT.out (below_regrown wr dq osq));go_wp2;go_ret;exact ⟨ay (by rw [<- HK.out,bX.out,HE.out,Bool.false_and]),aj HW.out cO.out⟩
     ·
      have q1:(r.num==s.num)=false:=beq_eq_false_iff_ne.2 e1;have HE:Hid (kg r s=false):=Lh (decide_eq_false fun h=>e1 h.2.1);clear e0 e1;go_wp2;refine wp_region_quiet_below (by kernel_rfl) (by kernel_rfl) ?_
      repeat (first | go_big_quiet_step (fail) | quiet_step (fail))
      refine wpQuiet_nil ?_;intro _ hw';obtain ⟨⟨dq,osq⟩,hw''⟩:=hw';subst hw'';have cO:=Lh (aj iT.out (below_regrown wr dq osq));go_wp2;go_ret;exact ⟨ay (by rw [<- HK.out,bX.out,HE.out,Bool.false_and]),aj HW.out cO.out⟩
    ·
     have q0:(r.why==s.why)=false:=beq_eq_false_iff_ne.2 e0;have HE:Hid (kg r s=false):=Lh (decide_eq_false fun h=>e0 h.1);clear e0;go_wp2;refine wp_region_quiet_below (by kernel_rfl) (by kernel_rfl) ?_
     repeat (first | go_big_quiet_step (fail) | quiet_step (fail))
     refine wpQuiet_nil ?_;intro _ hw';obtain ⟨⟨dq,osq⟩,hw''⟩:=hw';subst hw'';have cO:=Lh (aj iT.out (below_regrown wr dq osq));go_wp2;go_ret;exact ⟨ay (by rw [<- HK.out,bX.out,HE.out,Bool.false_and]),aj HW.out cO.out⟩
   ·
    obtain rfl:k=n:=by omega
    go_wp2;go_ret;refine ⟨ay ?_,HW.out.trans (iT.out.mono HW.out.size)⟩;rw [<- HK.out,List.drop_eq_nil_of_le (Nat.le_of_eq HN.out.symm),List.drop_eq_nil_of_le (Nat.le_of_eq HM.out.symm)];rfl
 ·
  have HE:=Lh (fU (l:=xs) (m:=ys) (by rw [<- HN.out,<- HM.out];exact hnm));have hne:((n:Int) != (m:Int))=true:=bne_iff_ne.2 (by omega);go_enter Tryz.func11,Tryz.ntmps11;go_wp2;go_ret;exact ⟨ay HE.out.symm,HW.out⟩
theorem fV (xs:List T) (ao bo:Option Addr) (n ca cb:Nat) (w0 w:World) (hw:Below w0.heap.size w0 w) (hA:Ls w ao n ca xs) (hB:Ls w bo n cb xs) :
  Calls Tryz.prog 11 #[.slice ao n ca,.slice bo n cb] w fun e w'=>e=.returned (.bool true)/\Below w0.heap.size w0 w':=by
 have h:=iI xs xs ao bo n n ca cb w0 w hw hA hB;rw [eO] at h;exact h
end Go.Proofs.YtpfdnemaaeolcaaGreat.Rp
namespace Go.Proofs.YtpfdnemaaeolcaaGreat
open Go.RowKit
open Mem
structure Kp (A:Nat) (w v:World):Prop where
 cell:∀ b o,A<=b->b < w.heap.size->v.cell? ⟨b,o,none⟩=w.cell? ⟨b,o,none⟩
 size:w.heap.size<=v.heap.size
theorem Kp.of {v:World} (h:Below w.heap.size w v):Kp A w v:=⟨fun b o _ hb=>(aD h).1 b o hb,h.size⟩
theorem Kp.trans {A:Nat} {u v w:World} (h:Kp A u v) (k:Kp A v w):Kp A u w:=⟨fun b o ha hb=>(k.cell b o ha (Nat.lt_of_lt_of_le hb h.size)).trans (h.cell b o ha hb),Nat.le_trans h.size k.size⟩
theorem Kp.set (w:World) (hg:g < A) (o:Nat) (x:Value):Kp A w (w.setCell ⟨g,o,none⟩ x) :=
 ⟨fun b o' ha _=>World.cell?_setCell_other _ _ _ _ (by intro k;simp only [Addr.mk.injEq] at k;omega),by simp⟩
def sJ (A:Nat) (ao:Option Addr) (n:Nat):Prop:=0 < n->∀ b off,ao=some ⟨b,off,none⟩->A<=b
theorem sJ.mono (h:sJ A ao n) (k:B<=A):sJ B ao n:=fun hn b off e=>Nat.le_trans k (h hn b off e)
theorem kP (A:Nat) (ao:Option Addr):sJ A ao 0:=fun h=>absurd h (Nat.lt_irrefl _)
theorem dZ (h:∀ ad,ao=some ad->∃ g,ad=⟨g,0,none⟩/\A<=g):sJ A ao n:=fun _ b off e=>by
 obtain ⟨g,e2,hg⟩:=h _ e;cases e2
 exact hg
theorem Sr.Ls.kp {v:World} {rs:List Sr.T} (h:Sr.Ls w ao n cap rs) (hi:sJ A ao n) (k:Kp A w v):Sr.Ls v ao n cap rs:=by
 refine ⟨h.len,h.fits,h.reach,h.nil,?_,h.short⟩;rcases h.seg with e | ⟨b,off,e,hc⟩
 · exact .inl e
 ·
  refine .inr ⟨b,off,e,fun i hr=>?_⟩;have hA:=hi (by rw [h.len];omega) b off e;have hl:=aH (hc i hr).c0;exact ⟨(k.cell b _ hA hl).trans (hc i hr).c0,(k.cell b _ hA hl).trans (hc i hr).c1,(k.cell b _ hA hl).trans (hc i hr).c2,(k.cell b _ hA hl).trans (hc i hr).c3⟩
theorem Ba.Ls.kp {v:World} {rs:List Ba.T} (h:Ba.Ls w ao n cap rs) (hi:sJ A ao n) (k:Kp A w v):Ba.Ls v ao n cap rs:=by
 refine ⟨h.len,h.fits,h.reach,h.nil,?_,h.short⟩;rcases h.seg with e | ⟨b,off,e,hc⟩
 · exact .inl e
 ·
  refine .inr ⟨b,off,e,fun i hr=>?_⟩;have hA:=hi (by rw [h.len];omega) b off e;have hl:=aH (hc i hr).c0;exact ⟨(k.cell b _ hA hl).trans (hc i hr).c0,(k.cell b _ hA hl).trans (hc i hr).c1⟩
theorem Sn.Ls.kp {v:World} {rs:List Sn.T} (h:Sn.Ls w ao n cap rs) (hi:sJ A ao n) (k:Kp A w v):Sn.Ls v ao n cap rs:=by
 refine ⟨h.len,h.fits,h.reach,h.nil,?_,h.short⟩;rcases h.seg with e | ⟨b,off,e,hc⟩
 · exact .inl e
 ·
  refine .inr ⟨b,off,e,fun i hr=>?_⟩;have hA:=hi (by rw [h.len];omega) b off e;have hl:=aH (hc i hr).c0;exact ⟨(k.cell b _ hA hl).trans (hc i hr).c0,(k.cell b _ hA hl).trans (hc i hr).c1,(k.cell b _ hA hl).trans (hc i hr).c2,(k.cell b _ hA hl).trans (hc i hr).c3,(k.cell b _ hA hl).trans (hc i hr).c4⟩
theorem Pt.Ls.kp {v:World} {rs:List Pt.T} (h:Pt.Ls w ao n cap rs) (hi:sJ A ao n) (k:Kp A w v):Pt.Ls v ao n cap rs:=by
 refine ⟨h.len,h.fits,h.reach,h.nil,?_,h.short⟩;rcases h.seg with e | ⟨b,off,e,hc⟩
 · exact .inl e
 ·
  refine .inr ⟨b,off,e,fun i hr=>?_⟩;have hA:=hi (by rw [h.len];omega) b off e;have hl:=aH (hc i hr).c0;exact ⟨(k.cell b _ hA hl).trans (hc i hr).c0,(k.cell b _ hA hl).trans (hc i hr).c1,(k.cell b _ hA hl).trans (hc i hr).c2,(k.cell b _ hA hl).trans (hc i hr).c3⟩
theorem Pd.Ls.kp {v:World} {rs:List Pd.T} (h:Pd.Ls w ao n cap rs) (hi:sJ A ao n) (k:Kp A w v):Pd.Ls v ao n cap rs:=by
 refine ⟨h.len,h.fits,h.reach,h.nil,?_,h.short⟩;rcases h.seg with e | ⟨b,off,e,hc⟩
 · exact .inl e
 ·
  refine .inr ⟨b,off,e,fun i hr=>?_⟩;have hA:=hi (by rw [h.len];omega) b off e;have hl:=aH (hc i hr).c0;exact ⟨(k.cell b _ hA hl).trans (hc i hr).c0,(k.cell b _ hA hl).trans (hc i hr).c1,(k.cell b _ hA hl).trans (hc i hr).c2,(k.cell b _ hA hl).trans (hc i hr).c3,(k.cell b _ hA hl).trans (hc i hr).c4,(k.cell b _ hA hl).trans (hc i hr).c5,(k.cell b _ hA hl).trans (hc i hr).c6,(k.cell b _ hA hl).trans (hc i hr).c7,(k.cell b _ hA hl).trans (hc i hr).c8,(k.cell b _ hA hl).trans (hc i hr).c9,(k.cell b _ hA hl).trans (hc i hr).c10,(k.cell b _ hA hl).trans (hc i hr).c11⟩
theorem Rp.Ls.kp {v:World} {rs:List Rp.T} (h:Rp.Ls w ao n cap rs) (hi:sJ A ao n) (k:Kp A w v):Rp.Ls v ao n cap rs:=by
 refine ⟨h.len,h.fits,h.reach,h.nil,?_,h.short⟩;rcases h.seg with e | ⟨b,off,e,hc⟩
 · exact .inl e
 ·
  refine .inr ⟨b,off,e,fun i hr=>?_⟩;have hA:=hi (by rw [h.len];omega) b off e;have hl:=aH (hc i hr).c0;exact ⟨(k.cell b _ hA hl).trans (hc i hr).c0,(k.cell b _ hA hl).trans (hc i hr).c1,(k.cell b _ hA hl).trans (hc i hr).c2⟩
theorem om.kp {v:World} {rs:List Vt.Rt} (h:om w ao n cap rs) (hi:sJ A ao n) (k:Kp A w v):om v ao n cap rs:=by
 refine ⟨h.len,h.fits,h.reach,h.nil,?_,h.short⟩;rcases h.seg with e | ⟨b,off,e,hc⟩
 · exact .inl e
 ·
  refine .inr ⟨b,off,e,fun i hr=>?_⟩;have hA:=hi (by rw [h.len];omega) b off e;have hl:=aH (hc i hr).c0;exact ⟨(k.cell b _ hA hl).trans (hc i hr).c0,(k.cell b _ hA hl).trans (hc i hr).c1,(k.cell b _ hA hl).trans (hc i hr).c2,(k.cell b _ hA hl).trans (hc i hr).c3,(k.cell b _ hA hl).trans (hc i hr).c4⟩
namespace Bl
structure lJ (A:Nat) (w:World) (h:Sv) (s:St):Prop where
 tab:om w h.tab.ao h.tab.n h.tab.cap s.tab
 av:Sr.Ls w h.av.ao h.av.n h.av.cap s.av
 post:∃ rs,Pd.Ls w h.post.ao h.post.n h.post.cap rs/\Each w rs s.post/\∀ r∈rs,sJ A r.parts.ao r.parts.n
 book:Ba.Ls w h.book.ao h.book.n h.book.cap s.book
 ak:Sn.Ls w h.ak.ao h.ak.n h.ak.cap s.ak
 next:h.next=s.next
 fit:Fit s.next
 YE:sJ A h.tab.ao h.tab.n
 YF:sJ A h.av.ao h.av.n
 QL:sJ A h.post.ao h.post.n
 QM:sJ A h.book.ao h.book.n
 QN:sJ A h.ak.ao h.ak.n
theorem lJ.lies {h:Sv} {s:St} (l:lJ A w h s):kW w h s:=by
 obtain ⟨rs,h1,h2,_⟩:=l.post;exact ⟨l.tab,l.av,⟨rs,h1,h2⟩,l.book,l.ak,l.next,l.fit⟩
theorem lJ.mono {A B:Nat} {w:World} {h:Sv} {s:St} (l:lJ A w h s) (k:B<=A):lJ B w h s:=by
 obtain ⟨rs,h1,h2,h3⟩:=l.post;exact ⟨l.tab,l.av,⟨rs,h1,h2,fun r hr=>(h3 r hr).mono k⟩,l.book,l.ak,l.next,l.fit,l.YE.mono k,l.YF.mono k,l.QL.mono k,l.QM.mono k,l.QN.mono k⟩
theorem AV.kp {A:Nat} {w v:World} {r:Pd.T} {p:Ps} (h:AV w r p) (hi:sJ A r.parts.ao r.parts.n) (k:Kp A w v):AV v r p :=
 ⟨h.av,h.num,h.y,h.m,h.d,h.net,h.aP,h.au,h.parts.kp hi k,h.bf,h.aY,h.back⟩
theorem lJ.kp {A:Nat} {w v:World} {h:Sv} {s:St} (l:lJ A w h s) (k:Kp A w v):lJ A v h s:=by
 obtain ⟨rs,h1,h2,h3⟩:=l.post;exact ⟨l.tab.kp l.YE k,l.av.kp l.YF k,⟨rs,h1.kp l.QL k,⟨h2.len,fun i hi=>(h2.each i hi).kp (h3 _ (List.getElem_mem hi)) k⟩,h3⟩,l.book.kp l.QM k,l.ak.kp l.QN k,l.next,l.fit,l.YE,l.YF,l.QL,l.QM,l.QN⟩
end Bl
namespace Bl
def NewE (w0 w:World) (e:Ending) (w':World):Prop:=∃ h:Sv,e=.returned h.val/\lJ w.heap.size w' h new/\Below w0.heap.size w0 w'
def Xp (w0 w:World) (s:St) (cs:List Cl) (e:Ending) (w':World):Prop:=∃ (h:Sv) (ao:Option Addr) (n cap:Nat),e=.returned (.tuple #[h.val,.slice ao n cap])/\lJ w.heap.size w' h (play s cs).1/\Rp.Ls w' ao n cap (play s cs).2/\sJ w.heap.size ao n/\Below w0.heap.size w0 w'
theorem bY {cs:Array Value} {t:TypeId} (h:u.heap[g]? =some (.cells cs t (0,0))) (i:Nat) (x:Value):(u.setCell ⟨g,i,none⟩ x).heap[g]? =some (.cells (cs.setIfInBounds i x) t (0,0)):=heap_setCell_same u g i _ _ x h
variable {h:Sv}
theorem At.put (a:At u g h) (k:Sv):At ((((((u.setCell ⟨g,0,none⟩ (sl k.tab)).setCell ⟨g,1,none⟩ (sl k.av)).setCell ⟨g,2,none⟩ (sl k.post)).setCell ⟨g,3,none⟩ (sl k.book)).setCell ⟨g,4,none⟩ (sl k.ak)).setCell ⟨g,5,none⟩ (.int .i64 k.next)) g k :=
 (bY (bY (bY (bY (bY (bY a 0 _) 1 _) 2 _) 3 _) 4 _) 5 _).trans rfl
theorem aW {w0:World} (h:Below w0.heap.size w0 u) (hg:w0.heap.size<=g) (x0 x1 x2 x3 x4 x5:Value):Below w0.heap.size w0 ((((((u.setCell ⟨g,0,none⟩ x0).setCell ⟨g,1,none⟩ x1).setCell ⟨g,2,none⟩ x2).setCell ⟨g,3,none⟩ x3).setCell ⟨g,4,none⟩ x4).setCell ⟨g,5,none⟩ x5) :=
 bU (bU (bU (bU (bU (bU h hg _ _) hg _ _) hg _ _) hg _ _) hg _ _) hg _ _
def rv (h:Sv):List Value:=[sl h.tab,sl h.av,sl h.post,sl h.book,sl h.ak,.int .i64 h.next]
theorem info:(Tryz.prog.info? 30).map (·.size)=some 6:=by kernel_rfl
theorem aI (hA:At w g h) (ho:op.op=.load 30 (.tmp t)) (hgd:op.guard=none)
  (hx:a.tmps.toList[t]? =some (.pointer (some ⟨g,0,none⟩))) (k:wpList Tryz.prog ops Q rest (a.put op.dst h.val) w):wpList Tryz.prog ops Q (op::rest) a w :=
 wpList_load_row hgd 30 (.tmp t) ho g (Ca.gY hx) 30 (rv h).toArray (0,0) _ hA Tryz.underlying30 rfl (by rw [info];rfl) k
theorem wF (h:Sv):∀ v∈rv h,v.oneCell'=true:=by
 intro v hv;unfold rv at hv;simp only [List.mem_cons,List.not_mem_nil,or_false] at hv;rcases hv with rfl | rfl | rfl | rfl | rfl | rfl <;> rfl
theorem aQ (ho:op.op=.store 30 (.tmp t) (.tmp s)) (hgd:op.guard=none)
  (hx:a.tmps.toList[t]? =some (.pointer (some ⟨g,0,none⟩))) (hg:g=w.heap.size) (hy:a.tmps.toList[s]? =some h.val) (hold:old.size=6)
  (k:wpList Tryz.prog ops Q rest (a.put op.dst undef) (box w h)):wpList Tryz.prog ops Q (op::rest) a (w.alloc (.cells old 30)):=by
 subst hg;refine wpList_store_row hgd 30 (.tmp t) (.tmp s) ho w.heap.size (rv h).toArray (Ca.gY hx) (Ca.gY hy) 30 old (heap_alloc_new w _) (by rw [info];rfl) (by rw [hold];rfl) (all_oneCell_toArray (wF h)) ?_;rw [Ca.nR];exact k
def lay (w:World) (g:Nat) (h:Sv):World:=w.setRow g (rv h).toArray
theorem aU {h0:Sv} (hA:At w g h0) (ho:op.op=.store 30 (.tmp t) (.tmp s)) (hgd:op.guard=none)
  (hx:a.tmps.toList[t]? =some (.pointer (some ⟨g,0,none⟩))) (hy:a.tmps.toList[s]? =some h.val)
  (k:wpList Tryz.prog ops Q rest (a.put op.dst undef) (lay w g h)):wpList Tryz.prog ops Q (op::rest) a w :=
 wpList_store_row hgd 30 (.tmp t) (.tmp s) ho g (rv h).toArray (Ca.gY hx) (Ca.gY hy) 30 (rv h0).toArray hA (by rw [info];rfl) rfl (all_oneCell_toArray (wF h)) k
theorem run_load (hA:At w g h):(Instr.loadAt 30 (.pointer (some ⟨g,0,none⟩))).run Tryz.prog w=.ok h.val w:=by
 simp only [Instr.loadAt,Instr.sureAddr,Sem.run_bind,Sem.run_pure,Result.andThen_ok,run_loadVar_row w g 30 30 (rv h).toArray (0,0) _ hA Tryz.underlying30 rfl (by rw [info];rfl)];rfl
theorem At.lay {w:World} {g:Nat} {h0:Sv} (hA:At w g h0) (h:Sv):At (lay w g h) g h:=setRow_heap w g _ _ 30 _ hA
theorem dM {w0:World} (hb:Below B w0 w) (hg:B<=g) (h:Sv):Below B w0 (lay w g h):=below_setRow hb hg _
theorem Dv (w:World) (hg:g < A) (h:Sv):Kp A w (lay w g h):=by
 refine ⟨fun b o ha hb=>?_,by simp [lay,World.setRow]⟩;have e:(lay w g h).heap[b]? =w.heap[b]? :=setRow_other w g b _ (by omega);unfold World.cell?;simp only [e]
end Bl
end Go.Proofs.YtpfdnemaaeolcaaGreat
namespace Go.Proofs.YtpfdnemaaeolcaaGreat.Pd
open Go.RowKit
open Mem
theorem gY (h:a.tmps.toList[t]? =some v):a.eval (.tmp t)=v:=by
 show a.tmps.getD t undef=v;rw [Array.getElem?_toList] at h;simp [Array.getD_eq_getD_getElem?,h]
theorem ng:(Tryz.prog.info? 104).map (·.size)=some 12:=by kernel_rfl
variable {r:T}
theorem At.range (h:At w b o r):w.rangeAt b o (rv r):=by
 intro j v hv
 have hj:j < 12:=by
  have:=(List.getElem?_eq_some_iff.1 hv).1
  rwa [aM] at this
 match j,hj with
 | 0,_=>exact (h.c0).trans hv
 | 1,_=>exact (h.c1).trans hv
 | 2,_=>exact (h.c2).trans hv
 | 3,_=>exact (h.c3).trans hv
 | 4,_=>exact (h.c4).trans hv
 | 5,_=>exact (h.c5).trans hv
 | 6,_=>exact (h.c6).trans hv
 | 7,_=>exact (h.c7).trans hv
 | 8,_=>exact (h.c8).trans hv
 | 9,_=>exact (h.c9).trans hv
 | 10,_=>exact (h.c10).trans hv
 | 11,_=>exact (h.c11).trans hv
theorem C.range {w:World} {b:Nat} {r:T} (h:C w b r):w.rangeAt b 0 (rv r):=by
 obtain ⟨h0,h1,h2,h3,h4,h5,h6,h7,h8,h9,h10,h11⟩:=h;exact At.range ⟨(h0:_),(h1:_),(h2:_),(h3:_),(h4:_),(h5:_),(h6:_),(h7:_),(h8:_),(h9:_),(h10:_),(h11:_)⟩
theorem aI (h:At w b o r) (ho:op.op=.load 104 (.tmp t)) (hgd:op.guard=none)
  (hx:a.tmps.toList[t]? =some (.pointer (some ⟨b,o,none⟩))) (k:wpList Tryz.prog ops Q rest (a.put op.dst (val r)) w):wpList Tryz.prog ops Q (op::rest) a w :=
 wpList_load_mid hgd 104 (.tmp t) ho b o (gY hx) (rv r) _ h.range Tryz.underlying104 rfl (by rw [ng,aM]) k
theorem run_load (h:At w b o r):(Instr.loadAt 104 (.pointer (some ⟨b,o,none⟩))).run Tryz.prog w=.ok (val r) w :=
 run_loadAt_mid w b o 104 (rv r) _ h.range Tryz.underlying104 rfl (by rw [ng,aM])
theorem kE (h:C w b r) (ho:op.op=.load 104 (.tmp t)) (hgd:op.guard=none)
  (hx:a.tmps.toList[t]? =some (.pointer (some ⟨b,0,none⟩))) (k:wpList Tryz.prog ops Q rest (a.put op.dst (val r)) w):wpList Tryz.prog ops Q (op::rest) a w :=
 wpList_load_mid hgd 104 (.tmp t) ho b 0 (gY hx) (rv r) _ h.range Tryz.underlying104 rfl (by rw [ng,aM]) k
theorem nR (w:World) (old cs:Array Value) (t:TypeId):(w.alloc (.cells old t)).setRow w.heap.size cs=w.alloc (.cells cs t):=by
 unfold World.setRow World.alloc;simp only [World.mk.injEq,and_true];apply Array.ext_getElem?;intro i;rw [Array.getElem?_modify];by_cases hi:w.heap.size=i
 ·
  subst hi
  simp
 · rw [if_neg hi,Array.getElem?_push,Array.getElem?_push,if_neg (Ne.symm hi),if_neg (Ne.symm hi)]
theorem aQ (ho:op.op=.store 104 (.tmp t) (.tmp s)) (hgd:op.guard=none)
  (hx:a.tmps.toList[t]? =some (.pointer (some ⟨g,0,none⟩))) (hg:g=w.heap.size) (hy:a.tmps.toList[s]? =some (val r)) (hold:old.size=12)
  (k:wpList Tryz.prog ops Q rest (a.put op.dst undef) (box w r)):wpList Tryz.prog ops Q (op::rest) a (w.alloc (.cells old 104)):=by
 subst hg;refine wpList_store_row hgd 104 (.tmp t) (.tmp s) ho w.heap.size (rv r).toArray (gY hx) (gY hy) 104 old (heap_alloc_new w _) (by rw [ng];rfl) (by rw [hold];rfl) (all_oneCell_toArray fun v hv=>one_cell [r] v (by simpa using hv)) ?_;rw [nR];exact k
theorem aU (hg:w.heap[g]? =some (.cells old 104 (0,0))) (hold:old.size=12) (ho:op.op=.store 104 (.tmp t) (.tmp s)) (hgd:op.guard=none)
  (hx:a.tmps.toList[t]? =some (.pointer (some ⟨g,0,none⟩))) (hy:a.tmps.toList[s]? =some (val r))
  (k:wpList Tryz.prog ops Q rest (a.put op.dst undef) (w.setRow g (rv r).toArray)):wpList Tryz.prog ops Q (op::rest) a w :=
 wpList_store_row hgd 104 (.tmp t) (.tmp s) ho g (rv r).toArray (gY hx) (gY hy) 104 old hg (by rw [ng];rfl) (by rw [hold];rfl) (all_oneCell_toArray fun v hv=>one_cell [r] v (by simpa using hv)) k
theorem heap_put (r:T) (hg:w.heap[g]? =some (.cells old 104 (0,0))):(w.setRow g (rv r).toArray).heap[g]? =some (block r):=setRow_heap w g _ _ 104 _ hg
theorem FC {fn:Func} {p:Tmp} (h:fn.results=#[.cell p 104]) {tmps:Array Value} {w:World} {g:Nat} {r:T} (hp:tmps.getD p undef=.pointer (some ⟨g,0,none⟩))
  (hg:w.heap[g]? =some (block r)):(results fn tmps).run Tryz.prog w=.ok (val r) w :=
 results_cell_row h tmps w g 104 (rv r).toArray (0,0) _ hp hg Tryz.underlying104 rfl (by rw [ng];rfl)
theorem Du (r:T) (u:World):(Instr.buildSlice 26 1 #[(0,val r)]).run Tryz.prog u=.ok (.slice (some ⟨u.heap.size,0,none⟩) 1 1) (u.alloc (block r)):=by
 kernel_rfl
theorem vD (ho:op.op=.buildSlice 26 1 #[(0,.tmp t)]) (hgd:op.guard=none)
  (hx:a.tmps.toList[t]? =some (val r)) (k:wpList Tryz.prog ops Q rest (a.put op.dst (.slice (some ⟨w.heap.size,0,none⟩) 1 1)) (w.alloc (block r))):wpList Tryz.prog ops Q (op::rest) a w :=
 wpList_plain hgd fun _ hK=>by
  have e:(#[(0,Operand.tmp t)]:Array (Nat×Operand)).map (fun (i,x)=>(i,a.eval x))=#[(0,val r)]:=by simp [gY hx]
  unfold Oper.wp execOp;simp only [ho,Sem.run_bind,e,Du,Result.andThen_ok];exact hK _ _ k
end Go.Proofs.YtpfdnemaaeolcaaGreat.Pd
namespace Go.Proofs.YtpfdnemaaeolcaaGreat.Po
instance:Inhabited Ba.T:=⟨Ba.zero⟩
instance:DecidableEq Ba.T:=fun a b=>decidable_of_iff (Ba.kg a b=true) (Ba.kN a b)
theorem xD {c:ByteArray}:∀ {l:List Ba.T} {i:Nat},i < spot c l->∃ h:i < l.length,lt l[i].aF c=true
 | [],i,h=>by
  unfold spot at h;omega
 | a::l,i,h=>by
  unfold spot at h;by_cases k:lt a.aF c=true
  ·
   rw [if_pos k] at h;cases i with
   | zero=>exact ⟨by simp,k⟩
   | succ i =>
    obtain ⟨h1,h2⟩:=xD (c:=c) (l:=l) (i:=i) (by omega);exact ⟨by simpa using h1,by simpa using h2⟩
  ·
   rw [if_neg k] at h;omega
theorem xE {c:ByteArray}:∀ {l:List Ba.T},Sorted l->∀ {i:Nat} (hi:i < l.length),spot c l<=i->lt l[i].aF c=false
 | a::l,h,i,hi,k=>by
  have h1:=(List.pairwise_cons.1 h).1;have h2:=(List.pairwise_cons.1 h).2;unfold spot at k;by_cases q:lt a.aF c=true
  ·
   rw [if_pos q] at k;cases i with
   | zero=>omega
   | succ i =>
    have:=xE (c:=c) h2 (i:=i) (by simpa using hi) (by omega);simpa using this
  ·
   rw [Bool.not_eq_true] at q;cases i with
   | zero=>exact q
   | succ i =>
    have hi':i < l.length:=by simpa using hi
    rw [Bool.eq_false_iff];intro m;rw [List.getElem_cons_succ] at m;have:=lt_trans (h1 _ (List.getElem_mem hi')) m;rw [q] at this;cases this
variable {l:List Ba.T}
theorem U5 {c:ByteArray} (h:Sorted l) {m:Nat} (hm:m < l.length) (k:lt l[m].aF c=true):m+1<=spot c l:=by
 rcases Nat.lt_or_ge m (spot c l) with q | q
 · exact q
 ·
  rw [xE h hm q] at k;cases k
theorem MQ {c:ByteArray} {m:Nat} (hm:m < l.length) (k:lt l[m].aF c=false):spot c l<=m:=by
 rcases Nat.lt_or_ge m (spot c l) with q | q
 ·
  obtain ⟨_,h2⟩:=xD q;rw [h2] at k;cases k
 · exact q
theorem mem_iff (h:Sorted l) (x:Ba.T):x∈l↔has x.aF l=true/\val x.aF l=x.dG:=by
 constructor
 ·
  intro hx;obtain ⟨p,q⟩:=look h hx rfl;exact ⟨q,by unfold val;rw [p]⟩
 ·
  rintro ⟨h1,h2⟩;obtain ⟨y,hy,e⟩:=yg h1;obtain ⟨p,_⟩:=look h hy e;unfold val at h2;rw [p] at h2;cases x
  cases y
  simp only at e h2;subst e h2;exact hy
theorem ext_mem:∀ {l m:List Ba.T},Sorted l->Sorted m->(∀ x,x∈l↔x∈m)->l=m
 | [],[],_,_,_=>rfl
 | [],b::m,_,_,h=>by
  have:=(h b).2 (by simp);simp at this
 | a::l,[],_,_,h=>by
  have:=(h a).1 (by simp);simp at this
 | a::l,b::m,hl,hm,h=>by
  have l1:=(List.pairwise_cons.1 hl).1;have l2:=(List.pairwise_cons.1 hl).2;have m1:=(List.pairwise_cons.1 hm).1;have m2:=(List.pairwise_cons.1 hm).2
  have e:a=b:=by
   rcases List.mem_cons.1 ((h a).1 (by simp)) with e | e
   · exact e
   ·
    rcases List.mem_cons.1 ((h b).2 (by simp)) with e' | e'
    · exact e'.symm
    ·
     have:=lt_trans (m1 a e) (l1 b e');rw [lt_irrefl] at this;cases this
  subst e
  have no:∀ {k:List Ba.T},(∀ x∈k,lt a.aF x.aF=true)->a ∉ k:=fun {k} hk ha=>by
   have:=hk a ha;rw [lt_irrefl] at this;cases this
  have t:l=m:=ext_mem l2 m2 fun x=>by
   constructor
   ·
    intro hx;rcases List.mem_cons.1 ((h x).1 (by simp [hx])) with e | e
    · exact absurd (e▸hx) (no l1)
    · exact e
   ·
    intro hx;rcases List.mem_cons.1 ((h x).2 (by simp [hx])) with e | e
    · exact absurd (e▸hx) (no m1)
    · exact e
  rw [t]
theorem U6 {m:List Ba.T} (hl:Sorted l) (hm:Sorted m) (h:∀ c,has c l=has c m/\val c l=val c m):l=m :=
 ext_mem hl hm fun x=>by rw [mem_iff hl,mem_iff hm,(h _).1,(h _).2]
theorem rX (h:Sorted l) (c:ByteArray):has c l=true↔∃ x∈l,x.aF=c :=
 ⟨yg,fun ⟨_,hx,e⟩=>(look h hx e).2⟩
def news (b:List Ba.T):List Ba.T->List Ba.T
 | []=>[]
 | x::l=>if has x.aF b=true then news b l else ⟨x.aF,0⟩::news b l
theorem FD (b:List Ba.T):∀ l m:List Ba.T,news b (l++m)=news b l++news b m
 | [],m=>rfl
 | x::l,m=>by
  rw [List.cons_append,news,news,FD b l m];split <;> rfl
theorem MR (b ls:List Ba.T) (k:Nat) (h:k < ls.length):news b (ls.take (k+1))=news b (ls.take k)++(if has ls[k].aF b=true then [] else [⟨ls[k].aF,0⟩]):=by
 rw [List.take_succ_eq_append_getElem h,FD]
 congr 1
theorem zK (b:List Ba.T):∀ l:List Ba.T,(news b l).length<=l.length
 | []=>Nat.le_refl _
 | x::l=>by
  have:=zK b l;unfold news;split <;> simp <;> omega
theorem kY {b:List Ba.T}:∀ {l:List Ba.T} {x:Ba.T},x∈news b l↔x.dG=0/\has x.aF b=false/\named x.aF l=true
 | [],x=>by
  constructor
  ·
   intro h;cases h
  ·
   rintro ⟨_,_,h⟩;cases h
 | y::l,x=>by
  have ih:=kY (b:=b) (l:=l) (x:=x);have hn:named x.aF (y::l)=(decide (y.aF=x.aF)||named x.aF l):=rfl;unfold news;rw [hn];by_cases h:has y.aF b=true
  ·
   rw [if_pos h,ih];constructor
   ·
    rintro ⟨h1,h2,h3⟩;exact ⟨h1,h2,by rw [h3,Bool.or_true]⟩
   ·
    rintro ⟨h1,h2,h3⟩;refine ⟨h1,h2,?_⟩;rcases Bool.or_eq_true_iff.1 h3 with e | e
    ·
     rw [of_decide_eq_true e,h2] at h;cases h
    · exact e
  ·
   rw [if_neg h,List.mem_cons,ih];rw [Bool.not_eq_true] at h;constructor
   ·
    rintro (rfl | ⟨h1,h2,h3⟩)
    · exact ⟨rfl,h,by simp⟩
    · exact ⟨h1,h2,by rw [h3,Bool.or_true]⟩
   ·
    rintro ⟨h1,h2,h3⟩;rcases Bool.or_eq_true_iff.1 h3 with e | e
    ·
     left
     cases x
     cases y
     simp only at h1 e;have e':=of_decide_eq_true e;subst h1 e';rfl
    · exact .inr ⟨h1,h2,e⟩
structure Dw (b ls M:List Ba.T):Prop where
 sorted:Sorted M
 has:∀ c,has c M=(has c b||named c ls)
 val:∀ c,val c M=val c b
theorem MS {b ls M:List Ba.T} (hb:Sorted b) (hM:Sorted M) (h:∀ x,x∈M↔x∈b++news b ls):Dw b ls M:=by
 have hh:∀ c,Po.has c M=(Po.has c b||named c ls):=fun c=>by
  rw [Bool.eq_iff_iff,rX hM,Bool.or_eq_true_iff];constructor
  ·
   rintro ⟨x,hx,rfl⟩;rcases List.mem_append.1 ((h x).1 hx) with k | k
   · exact .inl ((rX hb _).2 ⟨x,k,rfl⟩)
   · exact .inr (kY.1 k).2.2
  ·
   intro k;cases q:Po.has c b with
   | true =>
    obtain ⟨x,hx,e⟩:=(rX hb c).1 q;exact ⟨x,(h x).2 (List.mem_append.2 (.inl hx)),e⟩
   | false =>
    rw [q] at k;have k':named c ls=true:=by simpa using k
    exact ⟨⟨c,0⟩,(h _).2 (List.mem_append.2 (.inr (kY.2 ⟨rfl,q,k'⟩))),rfl⟩
 refine ⟨hM,hh,fun c=>?_⟩;cases q:Po.has c M with
 | true =>
  obtain ⟨x,hx,e⟩:=(rX hM c).1 q;have v1:Po.val c M=x.dG:=by unfold Po.val;rw [(look hM hx e).1]
  rcases List.mem_append.1 ((h x).1 hx) with k | k
  ·
   have v2:Po.val c b=x.dG:=by unfold Po.val;rw [(look hb k e).1]
   rw [v1,v2]
  ·
   obtain ⟨k1,k2,_⟩:=kY.1 k;rw [e] at k2;rw [v1,k1,yU k2]
 | false =>
  have k:=hh c;rw [q] at k
  have k2:Po.has c b=false:=by
   cases z:Po.has c b with
   | false=>rfl
   | true=>rw [z] at k;cases k
  rw [yU q,yU k2]
theorem vE (d:Array Ba.T) (hs:∀ i j,i < j->j < d.size->lt d[j]!.aF d[i]!.aF=false) (h1:∀ i j,i < d.size->j < d.size->d[i]!.aF=d[j]!.aF->d[i]! =d[j]!) :
  ∀ m,m<=d.size->Sorted (Lib.compactUpTo d m)/\∀ x,x∈Lib.compactUpTo d m↔∃ i,i < m/\d[i]! =x
 | 0,_=>⟨List.Pairwise.nil,fun x=>⟨fun h=>(by cases h),fun ⟨i,h,_⟩=>by omega⟩⟩
 | m+1,hm=>by
  obtain ⟨ih1,ih2⟩:=vE d hs h1 m (by omega);rw [Lib.compactUpTo_succ];by_cases hk:Lib.keeps d m=true
  ·
   rw [if_pos hk];refine ⟨List.pairwise_append.2 ⟨ih1,List.pairwise_singleton _ _,?_⟩,fun x=>?_⟩
   ·
    intro x hx y hy;obtain rfl:=List.mem_singleton.1 hy;obtain ⟨i,hi,rfl⟩:=(ih2 x).1 hx;rcases fq d[i]!.aF d[m]!.aF with e | e | e
    · exact e
    ·
     exfalso
     have hne:d[m]! ≠d[m - 1]! :=by
      unfold Lib.keeps at hk;rcases of_decide_eq_true hk with q | q
      · omega
      · exact q
     apply hne;apply h1 _ _ (by omega) (by omega);rcases Nat.lt_or_ge i (m - 1) with q | q
     ·
      have a1:=hs i (m - 1) q (by omega);have a2:=hs (m - 1) m (by omega) (by omega);rw [e] at a1;rcases fq d[m]!.aF d[m - 1]!.aF with z | z | z
      · rw [a2] at z;cases z
      · exact z
      · rw [a1] at z;cases z
     ·
      rw [show m - 1=i by omega];exact e.symm
    ·
     rw [hs i m hi (by omega)] at e;cases e
   ·
    rw [List.mem_append,ih2 x,List.mem_singleton];constructor
    ·
     rintro (⟨i,hi,e⟩ | e)
     · exact ⟨i,by omega,e⟩
     · exact ⟨m,by omega,e.symm⟩
    ·
     rintro ⟨i,hi,e⟩;rcases Nat.lt_or_ge i m with q | q
     · exact .inl ⟨i,q,e⟩
     ·
      obtain rfl:i=m:=by omega
      exact .inr e.symm
  ·
   rw [if_neg hk,List.append_nil];refine ⟨ih1,fun x=>?_⟩;rw [ih2 x];constructor
   ·
    rintro ⟨i,hi,e⟩;exact ⟨i,by omega,e⟩
   ·
    rintro ⟨i,hi,e⟩;rcases Nat.lt_or_ge i m with q | q
    · exact ⟨i,q,e⟩
    ·
     obtain rfl:i=m:=by omega
     unfold Lib.keeps at hk;rw [decide_eq_true_iff] at hk;have hm0:i≠0:=fun h=>hk (.inl h)
     have he:d[i]! =d[i - 1]! :=Classical.byContradiction fun h=>hk (.inr h)
     exact ⟨i - 1,by omega,by rw [<- he];exact e⟩
theorem QO:∀ a b:List UInt8,decide (Lib.compareBytes a b < 0)=Op.bytesLess a b
 | [],[]=>rfl
 | [],_::_=>rfl
 | _::_,[]=>rfl
 | a::x,b::y=>by
  have ih:=QO x y;unfold Lib.compareBytes Op.bytesLess;by_cases h:a < b
  ·
   rw [if_pos h,decide_eq_true h];rfl
  ·
   rw [if_neg h,decide_eq_false h,Bool.false_or];by_cases k:b < a
   ·
    rw [if_pos k];have hne:(a==b)=false:=beq_eq_false_iff_ne.2 fun e=>by subst e;exact UInt8.lt_irrefl a k
    rw [hne];rfl
   ·
    rw [if_neg k,ih];have he:a=b:=UInt8.le_antisymm (UInt8.not_lt.1 k) (UInt8.not_lt.1 h);rw [beq_iff_eq.2 he,Bool.true_and]
end Go.Proofs.YtpfdnemaaeolcaaGreat.Po
