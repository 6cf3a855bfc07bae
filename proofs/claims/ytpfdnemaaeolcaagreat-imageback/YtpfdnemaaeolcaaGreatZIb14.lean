import Derived.Test.YtpfdnemaaeolcaaGreatZIb4
import Derived.Test.YtpfdnemaaeolcaaGreatZIb6
import Derived.Test.YtpfdnemaaeolcaaGreatZIb10
import Derived.Test.YtpfdnemaaeolcaaGreatZIb11
import Derived.Test.YtpfdnemaaeolcaaGreatZIb13
variable {k b:Nat} {a:Go.Act} {ops:Array Go.Oper} {o:Go.Oper} {w u:Go.World} {Q:Go.Exit->Go.Act->Go.World->Prop}
set_option maxHeartbeats 8000000
set_option maxRecDepth 100000
set_option linter.unusedVariables false
namespace Go.Proofs.YtpfdnemaaeolcaaGreat
open Go.RowKit
open Mem
open Go.Sort (grow)
theorem aa {c:Prop} {h:Decidable c} (k:¬c) {A:Sort _} {t e:A}:ite c t e=e:=if_neg k
theorem ab {c:Prop} {h:Decidable c} (k:c) {A:Sort _} {t e:A}:ite c t e=t:=if_pos k
theorem ac (n:Nat):n<=n:=Nat.le_refl n
theorem ae {A:Type _} {l:List A} {n:Nat} (h:n<l.length):l[n]∈l:=List.getElem_mem h
theorem ag {A:Type _} {a b:List A}:(a++b).length=a.length+b.length:=List.length_append
theorem ah {B:Nat} {w:World}:Below B w w:=Below.refl B w
def Tt.lay (w:World) (g:Nat) (N X G:Int) (v:Value):World:=w.setRow g #[.int .i64 N,.int .i64 X,.int .i64 G,v]
theorem Tt.At.lay {w:World} {g:Nat} {N0 X0 G0:Int} {v0:Value} (h:Tt.At w g N0 X0 G0 v0) (N X G:Int) (v:Value):Tt.At (Tt.lay w g N X G v) g N X G v:=setRow_heap w g _ _ 102 _ h
theorem Tt.dJ {K:Act->World->Prop} {E:Prop} {x y:Tmp} {g:Nat} {N0 X0 G0 N X G:Int} {v0:Value} {sl:Sl} (hgd:o.guard=none) (ho:o.op=.store 102 (.tmp x) (.tmp y)) (hd:o.dst=none) (hx:a.tmps.toList[x]? =some (.pointer (some ⟨g,0,none⟩))) (hy:a.tmps.toList[y]? =some (Tt.val N X G (.slice sl.ao sl.n sl.cap))) (hA:Tt.At w g N0 X0 G0 v0)
  (k:K a (Tt.lay w g N X G (.slice sl.ao sl.n sl.cap))):if Region.wanted o (yielded ops a.tmps)=true then Oper.wp Tryz.prog o a w K Q else E:=by
 have hw:Region.wanted o (yielded ops a.tmps)=true:=by simp [Region.wanted,hgd]
 rw [ab hw];refine wp_store_row 102 (.tmp x) (.tmp y) ho g #[.int .i64 N,.int .i64 X,.int .i64 G,.slice sl.ao sl.n sl.cap] (Ca.gY hx) (Ca.gY hy) 102 #[.int .i64 N0,.int .i64 X0,.int .i64 G0,v0] hA (by rw [Tt.Li];rfl) rfl (by simp [Value.oneCell']) ?_;rw [hd];exact k
theorem Bl.xO {K:Act->World->Prop} {E:Prop} (hgd:o.guard=none) (ho:o.op=.alloc 102) (k:K (a.put o.dst (.pointer (some ⟨w.heap.size,0,none⟩))) (Tt.box w 0 0 0 (.slice none 0 0))) :
  if Region.wanted o (yielded ops a.tmps)=true then Oper.wp Tryz.prog o a w K Q else E:=by
 have hw:Region.wanted o (yielded ops a.tmps)=true:=by simp [Region.wanted,hgd]
 rw [ab hw];unfold Oper.wp;simp only [execOp,ho];simp [go_sem];exact k
theorem Bl.X6 {S:World->Prop} {t:Tmp} {v:Value} (hgd:o.guard=none) (ho:o.op=.assign (.tmp t)) (hp:a.tmps.toList[t]? =some v):YieldsIf Tryz.prog ops S o v a:=by
 refine .inl ⟨by simp [Region.wanted,hgd],fun u _=>?_⟩;simp only [execOp,ho,Ca.gY hp];simp [go_sem]
def Bl.X7 (ops:Array Oper):Bool:=Region.noSelect ops&&Bl.tk ops [false,false,false,false,false,false,false,false,false,false,false,false,false,false] 0&&Bl.tk ops [true,false,false,false,false,false,false,false,false,false,false,false,false,false] 1&&Bl.tk ops [true,true,false,false,false,false,false,false,false,false,false,false,false,false] 2&&Bl.tk ops [true,true,true,false,false,false,false,false,false,false,false,false,false,false] 3&&Bl.tk ops [true,true,true,true,false,false,false,false,false,false,false,false,false,false] 4&&Bl.tk ops [true,true,true,true,true,false,false,false,false,false,false,false,false,false] 5&&Bl.tk ops [true,true,true,true,true,true,false,false,false,false,false,false,false,false] 6&&(Region.ready .any ops [true,true,true,true,true,true,true,false,false,false,false,false,false,false].toArray==[7,11])&&(Region.ready .any ops [true,true,true,true,true,true,true,false,false,false,false,true,false,false].toArray==[7])&&Bl.tk ops [true,true,true,true,true,true,true,true,false,false,false,false,false,false] 8&&Bl.tk ops [true,true,true,true,true,true,true,true,true,false,false,false,false,false] 9&&Bl.tk ops [true,true,true,true,true,true,true,true,true,true,false,false,false,false] 10&&Bl.tk ops [true,true,true,true,true,true,true,true,false,false,false,true,false,false] 8&&Bl.tk ops [true,true,true,true,true,true,true,true,true,false,false,true,false,false] 9&&Bl.tk ops [true,true,true,true,true,true,true,true,true,true,false,true,false,false] 10&&(Region.ready .any ops [true,true,true,true,true,true,true,true,true,true,true,false,false,false].toArray==[11])&&(Region.ready .any ops [true,true,true,true,true,true,true,true,true,true,true,true,false,false].toArray==[12])&&Bl.tk ops [true,true,true,true,true,true,true,true,true,true,true,true,true,false] 13&&(Region.ready .any ops [true,true,true,true,true,true,true,true,true,true,true,true,true,true].toArray==[])
theorem Bl.SY (X:Act) (p v:Value):(X.put (some 7) p).put (some 32) v=(X.put (some 32) v).put (some 7) p:=congrArg (fun t=>(⟨t,X.defers⟩:Act)) (Array.setIfInBounds_comm _ _ (by decide))
theorem Bl.S9 (X:Act) (p v:Value):(X.put (some 7) p).put (some 24) v=(X.put (some 24) v).put (some 7) p:=congrArg (fun t=>(⟨t,X.defers⟩:Act)) (Array.setIfInBounds_comm _ _ (by decide))
theorem Bl.Ta (X:Act) (p v:Value):(X.put (some 7) p).put (some 33) v=(X.put (some 33) v).put (some 7) p:=congrArg (fun t=>(⟨t,X.defers⟩:Act)) (Array.setIfInBounds_comm _ _ (by decide))
theorem Bl.Tc (X:Act) (p v:Value):(X.put (some 7) p).put (some 34) v=(X.put (some 34) v).put (some 7) p:=congrArg (fun t=>(⟨t,X.defers⟩:Act)) (Array.setIfInBounds_comm _ _ (by decide))
theorem Bl.Wv {id:Nat} {o0 o1 o2 o3 o4 o5 o6 o7 o8 o9 eU mK qg qj:Oper} {S:World->Prop} {J:List Nat->Int->Int->Int->Sl->Int->World->Prop} (v0 v1 v2 v3 v4 v5 v6:Value) {f1:FuncId} {Zy:Func} {c1:Code} {ty1:Array TypeId}
  (hsz:a.tmps.size=64) (vV:∀ u,Below w.heap.size w u->S u) (SX:∀ u b vs,w.heap.size<=b->S u->S (World.setRow u b vs)) (hc:Bl.X7 #[o0,o1,o2,o3,o4,o5,o6,o7,o8,o9,eU,mK,qg,qj]=true)
  (hd0:o0.dst=some 25) (hd1:o1.dst=some 26) (hd2:o2.dst=some 27) (hd3:o3.dst=some 28) (hd4:o4.dst=some 29) (hd5:o5.dst=some 30) (hd6:o6.dst=some 31) (hd7:o7.dst=some 32) (XU:o8.dst=some 24) (XV:o9.dst=some 33) (AP:eU.dst=some 34) (Wu:mK.dst=some 7) (Ww:qj.dst=some 8) (XR:o7.guard=none) (hg8:o8.guard=none) (hg9:o9.guard=none) (Oq:eU.guard=none) (Ws:mK.guard=none) (hg12:qg.guard=none) (hg13:qj.guard=none)
  (y0:YieldsIf Tryz.prog #[o0,o1,o2,o3,o4,o5,o6,o7,o8,o9,eU,mK,qg,qj] S o0 v0 a) (y1:YieldsIf Tryz.prog #[o0,o1,o2,o3,o4,o5,o6,o7,o8,o9,eU,mK,qg,qj] S o1 v1 (a.put (some 25) v0)) (y2:YieldsIf Tryz.prog #[o0,o1,o2,o3,o4,o5,o6,o7,o8,o9,eU,mK,qg,qj] S o2 v2 ((a.put (some 25) v0).put (some 26) v1)) (y3:YieldsIf Tryz.prog #[o0,o1,o2,o3,o4,o5,o6,o7,o8,o9,eU,mK,qg,qj] S o3 v3 (((a.put (some 25) v0).put (some 26) v1).put (some 27) v2)) (y4:YieldsIf Tryz.prog #[o0,o1,o2,o3,o4,o5,o6,o7,o8,o9,eU,mK,qg,qj] S o4 v4 ((((a.put (some 25) v0).put (some 26) v1).put (some 27) v2).put (some 28) v3)) (y5:YieldsIf Tryz.prog #[o0,o1,o2,o3,o4,o5,o6,o7,o8,o9,eU,mK,qg,qj] S o5 v5 (((((a.put (some 25) v0).put (some 26) v1).put (some 27) v2).put (some 28) v3).put (some 29) v4)) (y6:YieldsIf Tryz.prog #[o0,o1,o2,o3,o4,o5,o6,o7,o8,o9,eU,mK,qg,qj] S o6 v6 ((((((a.put (some 25) v0).put (some 26) v1).put (some 27) v2).put (some 28) v3).put (some 29) v4).put (some 30) v5))
  (hQ:∀ c a d v w,Q (.panic c) (Act.put a (some d) v) w->Q (.panic c) a w)
  (XT : o7.op = .call { callee := .value (.func f1), args := #[.tmp 29, .tmp 31], argTypes := ty1 }) (hf1 : Tryz.prog.funcs[f1]? = some Zy) (hn1 : (Zy.name == "runtime.NumGoroutine") = false) (hb1 : Zy.body = some c1)
  (ho8:o8.op=.move (.tmp 32)) (ho9:o9.op=.extract (.tmp 24) 0) (Ot:eU.op=.extract (.tmp 24) 1) (Wt:mK.op=.alloc 102) (ho12:qg.op=.store 102 (.tmp 7) (.tmp 33)) (hd12:qg.dst=none) (ho13:qj.op=.assign (.tmp 34))
  (m1:∀ X u,Below w.heap.size w u->(∀ x∈X,w.heap.size<=x/\x < u.heap.size)->Calls Tryz.prog f1 #[v4,v6] u fun e u'=>∃ (N T G:Int) (sl:Sl) (E:Int),e=.returned (.tuple #[Tt.val N T G (.slice sl.ao sl.n sl.cap),.int .i64 E])/\J X N T G sl E u'/\Below u.heap.size u u')
  (a1:∀ X N T G sl E u o,J X N T G sl E u->J (u.heap.size::X) N T G sl E (World.alloc u o))
  (k:∀ X N T G sl E u gt,Below w.heap.size w u->J X N T G sl E u->gt∈X->w.heap.size<=gt->Tt.At u gt 0 0 0 (.slice none 0 0)->Q .normal ((((((((((((((a.put (some 25) v0).put (some 26) v1).put (some 27) v2).put (some 28) v3).put (some 29) v4).put (some 30) v5).put (some 31) v6).put (some 32) (.tuple #[Tt.val N T G (.slice sl.ao sl.n sl.cap),.int .i64 E])).put (some 24) (.tuple #[Tt.val N T G (.slice sl.ao sl.n sl.cap),.int .i64 E])).put (some 33) (Tt.val N T G (.slice sl.ao sl.n sl.cap))).put (some 34) (.int .i64 E)).put (some 7) (.pointer (some ⟨gt,0,none⟩))).put (some 8) (.int .i64 E))) (Tt.lay u gt N T G (.slice sl.ao sl.n sl.cap))) :
  (Code.region id #[o0,o1,o2,o3,o4,o5,o6,o7,o8,o9,eU,mK,qg,qj] true).wp Tryz.prog Q a w:=by
 unfold Bl.X7 at hc;simp only [Bool.and_eq_true,beq_iff_eq] at hc;obtain ⟨⟨⟨⟨⟨⟨⟨⟨⟨⟨⟨⟨⟨⟨⟨⟨⟨⟨⟨c0,c1⟩,c2⟩,c3⟩,c4⟩,c5⟩,c6⟩,c7⟩,c8⟩,c9⟩,c10⟩,c11⟩,c12⟩,c13⟩,c14⟩,c15⟩,c16⟩,c17⟩,c18⟩,c19⟩:=hc;have hw0:Below w.heap.size w w.drew:=ah.drew;refine wp_region_held_drew (S:=S) (by kernel_rfl) (vV _ hw0) (fun hH=>?_);show wpAnyH Tryz.prog .any #[o0,o1,o2,o3,o4,o5,o6,o7,o8,o9,eU,mK,qg,qj] Q S 14 [false,false,false,false,false,false,false,false,false,false,false,false,false,false].toArray a w.drew;refine Bl.aO (i:=0) (oi:=o0) rfl c0 c1 (by rw [hd0];exact fun c a w=>hQ c a _ _ w) y0 hH ?_;rw [hd0];show wpAnyH Tryz.prog .any #[o0,o1,o2,o3,o4,o5,o6,o7,o8,o9,eU,mK,qg,qj] Q S 13 [true,false,false,false,false,false,false,false,false,false,false,false,false,false].toArray _ w.drew;refine Bl.aO (i:=1) (oi:=o1) rfl c0 c2 (by rw [hd1];exact fun c a w=>hQ c a _ _ w) y1 hH ?_;rw [hd1];show wpAnyH Tryz.prog .any #[o0,o1,o2,o3,o4,o5,o6,o7,o8,o9,eU,mK,qg,qj] Q S 12 [true,true,false,false,false,false,false,false,false,false,false,false,false,false].toArray _ w.drew;refine Bl.aO (i:=2) (oi:=o2) rfl c0 c3 (by rw [hd2];exact fun c a w=>hQ c a _ _ w) y2 hH ?_;rw [hd2];show wpAnyH Tryz.prog .any #[o0,o1,o2,o3,o4,o5,o6,o7,o8,o9,eU,mK,qg,qj] Q S 11 [true,true,true,false,false,false,false,false,false,false,false,false,false,false].toArray _ w.drew;refine Bl.aO (i:=3) (oi:=o3) rfl c0 c4 (by rw [hd3];exact fun c a w=>hQ c a _ _ w) y3 hH ?_;rw [hd3];show wpAnyH Tryz.prog .any #[o0,o1,o2,o3,o4,o5,o6,o7,o8,o9,eU,mK,qg,qj] Q S 10 [true,true,true,true,false,false,false,false,false,false,false,false,false,false].toArray _ w.drew;refine Bl.aO (i:=4) (oi:=o4) rfl c0 c5 (by rw [hd4];exact fun c a w=>hQ c a _ _ w) y4 hH ?_;rw [hd4];show wpAnyH Tryz.prog .any #[o0,o1,o2,o3,o4,o5,o6,o7,o8,o9,eU,mK,qg,qj] Q S 9 [true,true,true,true,true,false,false,false,false,false,false,false,false,false].toArray _ w.drew;refine Bl.aO (i:=5) (oi:=o5) rfl c0 c6 (by rw [hd5];exact fun c a w=>hQ c a _ _ w) y5 hH ?_;rw [hd5];show wpAnyH Tryz.prog .any #[o0,o1,o2,o3,o4,o5,o6,o7,o8,o9,eU,mK,qg,qj] Q S 8 [true,true,true,true,true,true,false,false,false,false,false,false,false,false].toArray _ w.drew;refine Bl.aO (i:=6) (oi:=o6) rfl c0 c7 (by rw [hd6];exact fun c a w=>hQ c a _ _ w) y6 hH ?_;rw [hd6];show wpAnyH Tryz.prog .any #[o0,o1,o2,o3,o4,o5,o6,o7,o8,o9,eU,mK,qg,qj] Q S 7 [true,true,true,true,true,true,true,false,false,false,false,false,false,false].toArray _ w.drew;have BL:=hw0;have XB:∀ x∈([]:List Nat),w.heap.size<=x/\x < w.drew.heap.size:=by simp
 refine Bl.lG (rs:=[7,11]) c8 (by simp) ?_;intro i hi;simp only [List.mem_cons,List.not_mem_nil,or_false] at hi;rcases hi with rfl | rfl
 ·
  refine ⟨o7,rfl,fun K hK=>?_⟩;refine Bl.fB XR (Bl.enters XT (vs:=#[v4,v6]) (by simp [Act.eval,Act.put,hsz,Array.getD_eq_getD_getElem?]) hf1 hn1 hb1 _) ((m1 [] _ BL XB).mono ?_);rintro e u1 ⟨N,T,G,sl,E,rfl,j1,b⟩;have LD:=aj BL b;have hS2:=vV _ LD;refine ⟨_,rfl,hK.out _ _ hS2 fun _=>?_⟩;clear hK K;rw [hd7];show wpAnyH Tryz.prog .any #[o0,o1,o2,o3,o4,o5,o6,o7,o8,o9,eU,mK,qg,qj] Q S 6 [true,true,true,true,true,true,true,true,false,false,false,false,false,false].toArray _ _;refine Bl.aO (i:=8) (oi:=o8) (v:=.tuple #[Tt.val N T G (.slice sl.ao sl.n sl.cap),.int .i64 E]) rfl c0 c10 (by rw [XU];exact fun c a w=>hQ c a _ _ w) (Bl.iJ hg8 ho8 (by simp [Act.put,hsz])) hS2 ?_;rw [XU];show wpAnyH Tryz.prog .any #[o0,o1,o2,o3,o4,o5,o6,o7,o8,o9,eU,mK,qg,qj] Q S 5 [true,true,true,true,true,true,true,true,true,false,false,false,false,false].toArray _ _;refine Bl.aO (i:=9) (oi:=o9) (v:=Tt.val N T G (.slice sl.ao sl.n sl.cap)) rfl c0 c11 (by rw [XV];exact fun c a w=>hQ c a _ _ w) (Bl.Cy 0 (.inl rfl) hg9 ho9 (v0:=Tt.val N T G (.slice sl.ao sl.n sl.cap)) (v1:=.int .i64 E) (by simp [Act.put,hsz])) hS2 ?_;rw [XV];show wpAnyH Tryz.prog .any #[o0,o1,o2,o3,o4,o5,o6,o7,o8,o9,eU,mK,qg,qj] Q S 4 [true,true,true,true,true,true,true,true,true,true,false,false,false,false].toArray _ _;refine Bl.aO (i:=10) (oi:=eU) (v:=.int .i64 E) rfl c0 c12 (by rw [AP];exact fun c a w=>hQ c a _ _ w) (Bl.Cy 1 (.inr rfl) Oq Ot (v0:=Tt.val N T G (.slice sl.ao sl.n sl.cap)) (v1:=.int .i64 E) (by simp [Act.put,hsz])) hS2 ?_;rw [AP];show wpAnyH Tryz.prog .any #[o0,o1,o2,o3,o4,o5,o6,o7,o8,o9,eU,mK,qg,qj] Q S 3 [true,true,true,true,true,true,true,true,true,true,true,false,false,false].toArray _ _;refine Bl.eu (i:=11) (oi:=mK) rfl c16 (fun K hK=>?_);have b2:Below u1.heap.size u1 (Tt.box u1 0 0 0 (.slice none 0 0)):=Tt.aC _ _ _ _ _;have L7:w.heap.size<=u1.heap.size:=LD.size;have BL:=aj LD b2;refine Bl.xO Ws Wt (hK.out _ _ (vV _ BL) fun _=>?_);clear hK K;rw [Wu];show wpAnyH Tryz.prog .any #[o0,o1,o2,o3,o4,o5,o6,o7,o8,o9,eU,mK,qg,qj] Q S 2 [true,true,true,true,true,true,true,true,true,true,true,true,false,false].toArray _ _;have D:=Tt.dY u1 0 0 0 (.slice none 0 0);have J1:J (u1.heap.size::[]) N T G sl E (Tt.box u1 0 0 0 (.slice none 0 0)):=a1 _ _ _ _ _ _ _ _ j1;refine Bl.eu (i:=12) (oi:=qg) rfl c17 (fun K hK=>?_);refine Tt.dJ hg12 ho12 hd12 (N:=N) (X:=T) (G:=G) (sl:=sl) (by simp [Act.put,hsz]) (by simp [Act.put,hsz]) D (hK.out _ _ (SX _ _ _ L7 (vV _ BL)) fun yI=>?_);clear hK K;show wpAnyH Tryz.prog .any #[o0,o1,o2,o3,o4,o5,o6,o7,o8,o9,eU,mK,qg,qj] Q S 1 [true,true,true,true,true,true,true,true,true,true,true,true,true,false].toArray _ _;refine Bl.aO (i:=13) (oi:=qj) (v:=.int .i64 E) rfl c0 c18 (by rw [Ww];exact fun c a w=>hQ c a _ _ w) (Bl.X6 hg13 ho13 (by simp [Act.put,hsz])) yI ?_;rw [Ww];show wpAnyH Tryz.prog .any #[o0,o1,o2,o3,o4,o5,o6,o7,o8,o9,eU,mK,qg,qj] Q S 0 [true,true,true,true,true,true,true,true,true,true,true,true,true,true].toArray _ _;refine wpAnyH_done c19 ?_ _
  try simp only [Bl.SY,Bl.S9,Bl.Ta,Bl.Tc]
  exact k _ N T G sl E _ _ BL J1 (by simp) L7 D
 ·
  refine ⟨mK,rfl,fun K hK=>?_⟩;have b2:Below w.drew.heap.size w.drew (Tt.box w.drew 0 0 0 (.slice none 0 0)):=Tt.aC _ _ _ _ _;have L7:w.heap.size<=w.drew.heap.size:=BL.size;have XB:=Bl.Ej XB BL.size (show w.drew.heap.size < (Tt.box w.drew 0 0 0 (.slice none 0 0)).heap.size by rw [Tt.dh];exact Nat.lt_succ_self _);have BL:=aj BL b2;refine Bl.xO Ws Wt (hK.out _ _ (vV _ BL) fun _=>?_);clear hK K;rw [Wu];show wpAnyH Tryz.prog .any #[o0,o1,o2,o3,o4,o5,o6,o7,o8,o9,eU,mK,qg,qj] Q S 6 [true,true,true,true,true,true,true,false,false,false,false,true,false,false].toArray _ _;have D:=Tt.dY w.drew 0 0 0 (.slice none 0 0);refine Bl.eu (i:=7) (oi:=o7) rfl c9 (fun K hK=>?_);refine Bl.fB XR (Bl.enters XT (vs:=#[v4,v6]) (by simp [Act.eval,Act.put,hsz,Array.getD_eq_getD_getElem?]) hf1 hn1 hb1 _) ((m1 (w.drew.heap.size::[]) _ BL XB).mono ?_);rintro e u1 ⟨N,T,G,sl,E,rfl,j1,b⟩;have LD:=aj BL b;have hS2:=vV _ LD;refine ⟨_,rfl,hK.out _ _ hS2 fun _=>?_⟩;clear hK K;rw [hd7];show wpAnyH Tryz.prog .any #[o0,o1,o2,o3,o4,o5,o6,o7,o8,o9,eU,mK,qg,qj] Q S 5 [true,true,true,true,true,true,true,true,false,false,false,true,false,false].toArray _ _;refine Bl.aO (i:=8) (oi:=o8) (v:=.tuple #[Tt.val N T G (.slice sl.ao sl.n sl.cap),.int .i64 E]) rfl c0 c13 (by rw [XU];exact fun c a w=>hQ c a _ _ w) (Bl.iJ hg8 ho8 (by simp [Act.put,hsz])) hS2 ?_;rw [XU];show wpAnyH Tryz.prog .any #[o0,o1,o2,o3,o4,o5,o6,o7,o8,o9,eU,mK,qg,qj] Q S 4 [true,true,true,true,true,true,true,true,true,false,false,true,false,false].toArray _ _;refine Bl.aO (i:=9) (oi:=o9) (v:=Tt.val N T G (.slice sl.ao sl.n sl.cap)) rfl c0 c14 (by rw [XV];exact fun c a w=>hQ c a _ _ w) (Bl.Cy 0 (.inl rfl) hg9 ho9 (v0:=Tt.val N T G (.slice sl.ao sl.n sl.cap)) (v1:=.int .i64 E) (by simp [Act.put,hsz])) hS2 ?_;rw [XV];show wpAnyH Tryz.prog .any #[o0,o1,o2,o3,o4,o5,o6,o7,o8,o9,eU,mK,qg,qj] Q S 3 [true,true,true,true,true,true,true,true,true,true,false,true,false,false].toArray _ _;refine Bl.aO (i:=10) (oi:=eU) (v:=.int .i64 E) rfl c0 c15 (by rw [AP];exact fun c a w=>hQ c a _ _ w) (Bl.Cy 1 (.inr rfl) Oq Ot (v0:=Tt.val N T G (.slice sl.ao sl.n sl.cap)) (v1:=.int .i64 E) (by simp [Act.put,hsz])) hS2 ?_;rw [AP];show wpAnyH Tryz.prog .any #[o0,o1,o2,o3,o4,o5,o6,o7,o8,o9,eU,mK,qg,qj] Q S 2 [true,true,true,true,true,true,true,true,true,true,true,true,false,false].toArray _ _;have D:=D.below b;have BL:=LD;have J1:=j1;refine Bl.eu (i:=12) (oi:=qg) rfl c17 (fun K hK=>?_);refine Tt.dJ hg12 ho12 hd12 (N:=N) (X:=T) (G:=G) (sl:=sl) (by simp [Act.put,hsz]) (by simp [Act.put,hsz]) D (hK.out _ _ (SX _ _ _ L7 (vV _ BL)) fun yI=>?_);clear hK K;show wpAnyH Tryz.prog .any #[o0,o1,o2,o3,o4,o5,o6,o7,o8,o9,eU,mK,qg,qj] Q S 1 [true,true,true,true,true,true,true,true,true,true,true,true,true,false].toArray _ _;refine Bl.aO (i:=13) (oi:=qj) (v:=.int .i64 E) rfl c0 c18 (by rw [Ww];exact fun c a w=>hQ c a _ _ w) (Bl.X6 hg13 ho13 (by simp [Act.put,hsz])) yI ?_;rw [Ww];show wpAnyH Tryz.prog .any #[o0,o1,o2,o3,o4,o5,o6,o7,o8,o9,eU,mK,qg,qj] Q S 0 [true,true,true,true,true,true,true,true,true,true,true,true,true,true].toArray _ _;refine wpAnyH_done c19 ?_ _
  try simp only [Bl.SY,Bl.S9,Bl.Ta,Bl.Tc]
  exact k _ N T G sl E _ _ BL J1 (by simp) L7 D
section
variable {ops:Array Oper} {o:Oper} {a:Act} {S:World->Prop} {t:Tmp} {g:Nat}
theorem Bl.ZA (hgd:o.guard=none) (ho:o.op=.fieldAddr 30 (.tmp t) 2) (hp:a.tmps.toList[t]? =some (.pointer (some ⟨g,0,none⟩))):YieldsIf Tryz.prog ops S o (.pointer (some ⟨g,2,none⟩)) a:=by
 refine .inl ⟨by simp [Region.wanted,hgd],fun u _=>?_⟩;simp only [execOp,ho,Ca.gY hp];simp [go_sem]
theorem Bl.ZB (hgd:o.guard=none) (ho:o.op=.fieldAddr 57 (.tmp t) 4) (hp:a.tmps.toList[t]? =some (.pointer (some ⟨g,0,none⟩))):YieldsIf Tryz.prog ops S o (.pointer (some ⟨g,8,none⟩)) a:=by
 refine .inl ⟨by simp [Region.wanted,hgd],fun u _=>?_⟩;simp only [execOp,ho,Ca.gY hp];simp [go_sem]
theorem Bl.y_pds {ao:Option Addr} {n c:Nat} (hgd:o.guard=none) (ho:o.op=.load 26 (.tmp t)) (hp:a.tmps.toList[t]? =some (.pointer (some ⟨g,k,none⟩))) (hS:∀ u,S u->u.cell? ⟨g,k,none⟩=some (.slice ao n c)):YieldsIf Tryz.prog ops S o (.slice ao n c) a:=by
 refine .inl ⟨by simp [Region.wanted,hgd],fun u hu=>?_⟩;have h:=hS u hu;simp only [execOp,ho,Ca.gY hp];simp [go_sem,h]
theorem Bl.ZC {y m d:Int} (hgd:o.guard=none) (ho:o.op=.load 50 (.tmp t)) (hp:a.tmps.toList[t]? =some (.pointer (some ⟨g,k,none⟩))) (hS:∀ u,S u->u.cell? ⟨g,k,none⟩=some (.int .i64 y)/\u.cell? ⟨g,k+1,none⟩=some (.int .i64 m)/\u.cell? ⟨g,k+2,none⟩=some (.int .i64 d)):YieldsIf Tryz.prog ops S o (nG y m d) a:=by
 refine .inl ⟨by simp [Region.wanted,hgd],fun u hu=>?_⟩;obtain ⟨h0,h1,h2⟩:=hS u hu;simp only [execOp,ho,Ca.gY hp];simp [go_sem,h0,h1,h2,nG]
theorem Bl.X8 {off:Nat} {r:Pd.T} (hgd:o.guard=none) (ho:o.op=.load 104 (.tmp t)) (hp:a.tmps.toList[t]? =some (.pointer (some ⟨b,off,none⟩))) (hS:∀ u,S u->Pd.At u b off r):YieldsIf Tryz.prog ops S o (Pd.val r) a:=by
 refine .inl ⟨by simp [Region.wanted,hgd],fun u hu=>?_⟩;have e:=Pd.run_load (hS u hu);simp only [execOp,ho,Ca.gY hp,Sem.run_bind,e,Result.andThen_ok];rfl
theorem Bl.y_idx {t2:Tmp} {off n c:Nat} (hk:k < n) (hn:n<=9223372036854775807) (hgd:o.guard=none) (ho:o.op=.indexAddr 26 (.tmp t) (.tmp t2)) (hp:a.tmps.toList[t]? =some (.slice (some ⟨b,off,none⟩) n c)) (hp2:a.tmps.toList[t2]? =some (.int .i64 k)):YieldsIf Tryz.prog ops S o (.pointer (some ⟨b,off+k*12,none⟩)) a:=by
 refine .inl ⟨by simp [Region.wanted,hgd],fun u _=>?_⟩;simp only [execOp,ho,Ca.gY hp,Ca.gY hp2];simp [go_sem];omega
end
theorem Pd.At.of {v:World} {o:Nat} {r:Pd.T} (h:Pd.At u b o r) (e:v.heap[b]? =u.heap[b]?):Pd.At v b o r:=by
 have k:∀ j,v.cell? ⟨b,j,none⟩=u.cell? ⟨b,j,none⟩:=fun j=>World.cell?_of_block e
 exact ⟨(k _).trans h.c0,(k _).trans h.c1,(k _).trans h.c2,(k _).trans h.c3,(k _).trans h.c4,(k _).trans h.c5,(k _).trans h.c6,(k _).trans h.c7,(k _).trans h.c8,(k _).trans h.c9,(k _).trans h.c10,(k _).trans h.c11⟩
theorem Pd.C.of {v:World} {r:Pd.T} (h:Pd.C u b r) (e:v.heap[b]? =u.heap[b]?):Pd.C v b r:=by
 have k:∀ j,v.cell? ⟨b,j,none⟩=u.cell? ⟨b,j,none⟩:=fun j=>World.cell?_of_block e
 unfold Pd.C at h ⊢;obtain ⟨h0,h1,h2,h3,h4,h5,h6,h7,h8,h9,h10,h11⟩:=h;exact ⟨(k _).trans h0,(k _).trans h1,(k _).trans h2,(k _).trans h3,(k _).trans h4,(k _).trans h5,(k _).trans h6,(k _).trans h7,(k _).trans h8,(k _).trans h9,(k _).trans h10,(k _).trans h11⟩
theorem Pd.C.at {u:World} {b:Nat} {r:Pd.T} (h:Pd.C u b r):Pd.At u b 0 r:=by
 unfold Pd.C at h;obtain ⟨h0,h1,h2,h3,h4,h5,h6,h7,h8,h9,h10,h11⟩:=h;exact ⟨h0,h1,h2,h3,h4,h5,h6,h7,h8,h9,h10,h11⟩
theorem Pd.At.lt {o:Nat} {r:Pd.T} (h:Pd.At u b o r):b < u.heap.size:=aH h.c0
theorem Bl.Fr.other {w wr:World} {gs gr b:Nat} (h:Bl.Fr w wr gs gr) (hl:w.heap.size<=b) (hn:b≠gs/\b≠gr) (vs:Array Value):Bl.Fr w (wr.setRow b vs) gs gr:=⟨below_setRow h.dx hl _,h.lo,h.nxt,h.st.other (Ne.symm hn.1) _,h.rp.other (Ne.symm hn.2) _⟩
def Bl.LG (s:Bl.St) (k:Nat):Bl.St:=⟨s.tab,s.av,Bl.mark s.post k,s.book,s.ak,s.next⟩
def Bl.kr (s:Bl.St) (c:Bl.Cm):Bl.Ps:=⟨c.av,0,c.y,c.m,c.d,Bl.iV (Bl.old s c) c.y c.m c.d,c.bf,c.aY,false⟩
def Bl.og (s:Bl.St) (c:Bl.Cm):Bl.St:=Bl.LG s (Bl.lU c.bf c.aY s.post)
def Bl.tH (s:Bl.St) (c:Bl.Cm):Bl.St:=if s.post.length<=Bl.lU c.bf c.aY s.post then s else if Bl.fZ (Bl.old s c) c.y c.m c.d≠0 then s else if (Bl.sN (Bl.og s c) (Bl.kr s c)).why≠0 then s else Bl.xS (Bl.og s c) (Bl.kr s c)
def Bl.rO (s:Bl.St) (c:Bl.Cm):Rp.T:=if s.post.length<=Bl.lU c.bf c.aY s.post then ⟨11,0,0⟩ else if Bl.fZ (Bl.old s c) c.y c.m c.d≠0 then ⟨Bl.fZ (Bl.old s c) c.y c.m c.d,0,0⟩ else Bl.sN (Bl.og s c) (Bl.kr s c)
theorem Bl.Cz {s:Bl.St} {c:Bl.Cm} (h:s.post.length<=Bl.lU c.bf c.aY s.post):Bl.tH s c=s/\Bl.rO s c=⟨11,0,0⟩:=⟨ab h,ab h⟩
theorem Bl.CB {s:Bl.St} {c:Bl.Cm} (h: ¬ s.post.length<=Bl.lU c.bf c.aY s.post) (k:Bl.fZ (Bl.old s c) c.y c.m c.d≠0):Bl.tH s c=s/\Bl.rO s c=⟨Bl.fZ (Bl.old s c) c.y c.m c.d,0,0⟩:=by
 unfold Bl.tH Bl.rO;rw [aa h,aa h,ab k,ab k];exact ⟨rfl,rfl⟩
theorem Bl.GV {s:Bl.St} {c:Bl.Cm} (h: ¬ s.post.length<=Bl.lU c.bf c.aY s.post) (k: ¬ Bl.fZ (Bl.old s c) c.y c.m c.d≠0) (m:(Bl.sN (Bl.og s c) (Bl.kr s c)).why≠0):Bl.tH s c=s/\Bl.rO s c=Bl.sN (Bl.og s c) (Bl.kr s c):=by
 unfold Bl.tH Bl.rO;rw [aa h,aa h,aa k,aa k,ab m];exact ⟨rfl,rfl⟩
theorem Bl.LH {s:Bl.St} {c:Bl.Cm} (h: ¬ s.post.length<=Bl.lU c.bf c.aY s.post) (k: ¬ Bl.fZ (Bl.old s c) c.y c.m c.d≠0) (m: ¬ (Bl.sN (Bl.og s c) (Bl.kr s c)).why≠0):Bl.tH s c=Bl.xS (Bl.og s c) (Bl.kr s c)/\Bl.rO s c=Bl.sN (Bl.og s c) (Bl.kr s c):=by
 unfold Bl.tH Bl.rO;rw [aa h,aa h,aa k,aa k,aa m];exact ⟨rfl,rfl⟩
theorem Bl.Am {p:Bl.Ps} {y m d:Int} (hR:Bl.sI p.tot) (hs:∀ x∈p.tot.parts,Pt.Short x):(∀ x∈(Bl.iV p y m d).parts,Pt.Short x)/\(Bl.iV p y m d).parts.length<=12/\(∀ x∈(Bl.iV p y m d).parts,x.cat.size<=140737488351232)/\Fit (Bl.iV p y m d).net/\Fit (Bl.iV p y m d).aP/\Fit (Bl.iV p y m d).au:=by
 by_cases h:Bl.fZ p y m d=0
 ·
  have e:Bl.iV p y m d=Iv.back p.tot:=ab h
  have hb:Iv.dQ p.tot=0:=by
   unfold Bl.fZ at h;split at h
   · omega
   ·
    split at h
    · omega
    · exact h
  have hr:=Bl.tX hR hb;rw [e];refine ⟨?_,hr.few,hr.small,hr.fit.1,hr.fit.2.1,hr.fit.2.2⟩;intro x hx;obtain ⟨z,hz,rfl⟩:=List.mem_map.1 (show x∈p.tot.parts.map Iv.yT from hx);have hsz:=hs z hz;have h1:=(hr.each _ hx)
  have hbad:Iv.wC z=false:=by
   unfold Iv.dQ at hb;split at hb
   · omega
   ·
    split at hb
    · omega
    ·
     rename_i q;cases hq:Iv.wC z
     · rfl
     · exact absurd (List.any_eq_true.2 ⟨z,hz,hq⟩) q
  unfold Iv.wC at hbad;have hb2:=of_decide_eq_false hbad;have e1:Mn.err (-z.net)=0:=Decidable.byContradiction fun q=>hb2 (.inl q)
  have e2:Mn.err (-z.aP)=0:=Decidable.byContradiction fun q=>hb2 (.inr q)
  exact ⟨hsz.1,hsz.2.1,Iv.kT e1,Iv.kT e2⟩
 ·
  have e:Bl.iV p y m d=Iv.iD.zero:=aa h;rw [e];exact ⟨fun x hx=>(by cases hx),Nat.zero_le _,fun x hx=>(by cases hx),Bl.eF,Bl.eF,Bl.eF⟩
theorem JW (P0:Nat->Prop) (s:Bl.St) (h:Bl.Sv) (r:Ca.T) (c:Bl.Cm) (w:World) (hL:Bl.Lp P0 w h s) (hI:Bl.Om w r c) (hS:Ca.Short r) (hR:Bl.Right s) :
  Calls Tryz.prog 91 #[h.val,Ca.nX r] w (Bl.uy P0 w (Bl.tH s c) (Bl.rO s c)):=by
 have HL:=Lh hL;have HI:=Lh hI;have bT:=Lh hS;have HR:=Lh hR;obtain ⟨rs,hP,hE,hpi⟩:=hL.post;have HLen:=Lh (And.intro hP.len hE.len);have hreach:=hP.reach;have hfits:=hP.fits;have yB:=Lh hP;have HEs:=Lh hE;have hpx:=Bl.IK c.bf c.aY s.post;obtain ⟨U,hU,hA,hF,iN⟩:=Bl.OV w h (Ca.nY r);have c12:U.cell? ⟨w.heap.size+1,12,none⟩=some (.string r.bf):=by rw [cell_of_row U _ 12 _ _ _ iN];rfl
 have c13:U.cell? ⟨w.heap.size+1,13,none⟩=some (.int .i64 r.aY):=by rw [cell_of_row U _ 13 _ _ _ iN];rfl
 have HA:=Lh hA;have HF:=Lh hF;have gV:=Lh iN;have iB:Hid (w.heap.size+1+1+1 < U.heap.size):=Lh hF.rp.lt;obtain ⟨x0,x1,x2,x3,x4,x5⟩:=hA.cells;clear hL hI hS hR hA hF iN hP hE hpi;unfold Bl.Sv.val Bl.sl Ca.nX;unfold Ca.nY at hU;go_enter Tryz.func91,Tryz.ntmps91;go_wp2_with fail;clear hU;refine Calls.mono (R:=fun e w'=>e=.returned (.int .i64 (Bl.lU c.bf c.aY s.post:Nat))/\Below U.heap.size U w') ?_ ?_
 ·
  rw [HI.out.bf,HI.out.aY];exact BF s.post rs c.bf c.aY h.post.ao h.post.n h.post.cap U U ah (yB.out.below HF.out.dx) (HEs.out.below HF.out.dx)
 rintro e w1 ⟨rfl,b1⟩;have hA1:=HA.out.below b1;have HA1:=Lh hA1;have jB:=Lh (HF.out.below b1);have Ei:=Lh ((b1.block _ (by have:=iB.out;omega)).trans gV.out);have mQ:=Lh b1.size;clear b1 x0 x1 x2 x3 x4 x5 c12 c13;obtain ⟨y0,y1,y2,y3,y4,y5⟩:=hA1.cells;clear hA1;have cK:=Lh (Bl.Cz (s:=s) (c:=c));have Uf:=Lh (Bl.CB (s:=s) (c:=c));have HBa:=Lh (Bl.GV (s:=s) (c:=c));have Zg:=Lh (Bl.LH (s:=s) (c:=c));have ZE:=Lh (Bl.IL (s:=s) (c:=c));obtain ⟨M,hM⟩:∃ M,Bl.og s c=M:=⟨_,rfl⟩;have HM:Hid (M=Bl.LG s (Bl.lU c.bf c.aY s.post)):=Lh hM.symm;rw [hM] at HBa Zg;clear hM;obtain ⟨k,hk⟩:∃ k,Bl.lU c.bf c.aY s.post=k:=⟨_,rfl⟩;rw [hk] at hpx cK Uf HBa Zg HM ZE ⊢;clear hk;have hpl:=HLen.out.1;have hel:=HLen.out.2;by_cases hkn:k=h.post.n
 ·
  have qk:((k:Int)==(h.post.n:Int))=true:=beq_iff_eq.2 (by omega);have HP:=Lh (cK.out (by omega));clear hkn hpx hpl hel;go_wp2_with fail;refine Bl.mg (w.heap.size) (w.heap.size+1+1) (w.heap.size+1+1+1) h Bl.iy ⟨0,0,0⟩ (11) HA1.out jB.out.st jB.out.rp (by omega) rfl rfl rfl rfl rfl rfl rfl rfl rfl rfl ?_ ?_ ?_ ?_ ?_ ?_ ?_ ?_ ?_
  · kernel_rfl
  · exact fun _ _ _ h=>h
  · rfl
  · rfl
  · rfl
  · rfl
  · rfl
  · rfl
  intro w9 b9;go_wp2_with fail;exact (jB.out.below b9).ret Tryz.results91 h ⟨11,0,0⟩ rfl rfl rfl fun b=>by rw [HP.out.1,HP.out.2];exact ⟨_,rfl,(HL.out.below b).wide w,b⟩
 ·
  have qk:((k:Int)==(h.post.n:Int))=false:=beq_eq_false_iff_ne.2 (by omega);have hkp:k < s.post.length:=by omega
  have hkr:k < rs.length:=by omega
  have hkl:k < h.post.n:=by omega
  have HNk:Hid (¬ s.post.length<=k):=Lh (by omega);have XH:Hid (h.post.n=s.post.length):=Lh (by omega);obtain ⟨pb,ZF,hpo⟩:=yB.out.at (by omega);have hrow:=(yB.out.below (w:=w) (v:=w)  ah);rw [hpo] at hrow;have Vb:=Lh (hrow.row k hkr);have HIk:=Lh (HEs.out.each k hkr);have HShk:=Lh (yB.out.short _ (ae hkr));have hold:Bl.old s c=s.post[k]:=ZE.out hkp;have p9:=Lh (HR.out.tot _ (ae hkp));have HDk:=Lh (HR.out.day _ (ae hkp));obtain ⟨pr,hpr⟩:∃ pr,rs[k]=pr:=⟨_,rfl⟩;obtain ⟨po,hpo2⟩:∃ po,s.post[k]=po:=⟨_,rfl⟩;rw [hpr] at Vb HIk HShk;rw [hpo2] at HIk p9 HDk hold;have HUp:=Lh (Bl.Am (y:=c.y) (m:=c.m) (d:=c.d) p9.out HIk.out.parts.short);have HCp:Hid (Bl.kr s c=⟨c.av,0,c.y,c.m,c.d,Bl.iV po c.y c.m c.d,c.bf,c.aY,false⟩):=Lh (by rw [<- hold];rfl);rw [hold] at Uf HBa Zg;clear hpr hpo2 hold hrow;have HPo:=Lh hpo;clear hkn hpx hpl hel cK ZE hpo;go_wp2_with fail
  refine Bl.Wv (S:=fun u=>Bl.At u w.heap.size h/\u.heap[w.heap.size+1]? =some (Ca.nY r)/\Pd.At u pb (ZF+k*12) pr)
   (J:=fun X N T G sl E u=>E=Bl.fZ po c.y c.m c.d/\N=(Bl.iV po c.y c.m c.d).net/\T=(Bl.iV po c.y c.m c.d).aP/\G=(Bl.iV po c.y c.m c.d).au/\Pt.Ls u sl.ao sl.n sl.cap (Bl.iV po c.y c.m c.d).parts/\kQ (fun b=>w1.heap.size<=b/\b ∉ X) sl.ao sl.n)
   (.pointer (some ⟨w.heap.size,2,none⟩)) (.slice (some ⟨pb,ZF,none⟩) h.post.n h.post.cap) (.int .i64 k) (.pointer (some ⟨pb,ZF+k*12,none⟩)) (Pd.val pr) (.pointer (some ⟨w.heap.size+1,8,none⟩)) (nG r.y r.m r.d) rfl ?_ ?_ ?_ rfl rfl rfl rfl rfl rfl rfl rfl rfl rfl rfl rfl rfl rfl rfl rfl rfl rfl rfl rfl ?_ ?_ ?_ ?_ ?_ ?_ ?_ ?_ rfl Tryz.func136 (by kernel_rfl) rfl rfl rfl rfl rfl rfl rfl rfl ?_ ?_ ?_
  ·
   intro u hb;exact ⟨HA1.out.below hb,(hb.block _ (by have:=iB.out;have:=mQ.out;omega)).trans Ei.out,((Vb.out.below jB.out.dx).below hb)⟩
  ·
   intro u b vs hb hu;refine ⟨hu.1.other (by have:=iB.out;have:=mQ.out;omega) _,(setRow_other u b _ _ (by have:=iB.out;have:=mQ.out;omega)).trans hu.2.1,hu.2.2.of (setRow_other u b _ _ (by have:=(Vb.out.below jB.out.dx).lt;omega))⟩
  · kernel_rfl
  · exact Bl.ZA (t:=2) rfl rfl (by kernel_rfl)
  · exact Bl.y_pds (t:=25) rfl rfl (by kernel_rfl) fun u hu=>by rw [<- HPo.out];exact hu.1.cells.2.2.1
  · exact Bl.iJ (t:=6) rfl rfl (by kernel_rfl)
  · exact Bl.y_idx (t:=26) (t2:=27) (c:=h.post.cap) hkl (by omega) rfl rfl (by kernel_rfl) (by kernel_rfl)
  · exact Bl.X8 (t:=28) rfl rfl (by kernel_rfl) fun u hu=>hu.2.2
  · exact Bl.ZB (t:=3) rfl rfl (by kernel_rfl)
  · exact Bl.ZC (t:=30) rfl rfl (by kernel_rfl) fun u hu=>⟨by rw [cell_of_row u _ 8 _ _ _ hu.2.1];rfl,by rw [cell_of_row u _ 9 _ _ _ hu.2.1];rfl,by rw [cell_of_row u _ 10 _ _ _ hu.2.1];rfl⟩
  · exact fun _ _ _ _ _ h=>h
  ·
   intro X u hb hX;rw [HI.out.y,HI.out.m,HI.out.d];refine (RV pr po c.y c.m c.d u ((HIk.out.below jB.out.dx).below hb) HShk.out (HI.out.y▸bT.out.2.2.2.2.2.2.2.2.2.2.1) (HI.out.m▸bT.out.2.2.2.2.2.2.2.2.2.2.2.1) (HI.out.d▸bT.out.2.2.2.2.2.2.2.2.2.2.2.2.1) HDk.out (by have:=HIk.out.parts.len;have:=p9.out.few;omega)).mono ?_;rintro e u' ⟨v,rfl,o,bb⟩;obtain ⟨vo,vc,rfl,lv,iv⟩:=Pt.aX o HUp.out.1;refine ⟨_,_,_,⟨vo,(Bl.iV po c.y c.m c.d).parts.length,vc⟩,_,rfl,⟨rfl,rfl,rfl,rfl,lv,?_⟩,bb⟩;intro hn b off e;have:=dZ iv hn b off e;exact ⟨by have:=hb.size;omega,fun hx=>by have:=(hX b hx).2;omega⟩
  ·
   rintro X N T G sl E u o ⟨j1,j2,j3,j4,j5,j6⟩;refine ⟨j1,j2,j3,j4,j5.below (ah.alloc (ac _) _),?_⟩;intro hn b off e;have q1:=j6 hn b off e;have q2:=j5.inp hn b off e;exact ⟨q1.1,fun hx=>(List.mem_cons.1 hx).elim (fun z=>by omega) q1.2⟩
  ·
   rintro X N T G sl E u gt hb ⟨j1,j2,j3,j4,j5,j6⟩ hgX hgt D;have hnn:gt≠w.heap.size/\gt≠w.heap.size+1/\gt≠w.heap.size+1+1/\gt≠w.heap.size+1+1+1:=by have:=iB.out;have:=mQ.out;omega
   have hA2:=(HA1.out.below hb).other (b:=gt) (by omega) #[.int .i64 N,.int .i64 T,.int .i64 G,.slice sl.ao sl.n sl.cap];have hF2:=(jB.out.below hb).other (b:=gt) (by have:=iB.out;have:=mQ.out;omega) (by omega) #[.int .i64 N,.int .i64 T,.int .i64 G,.slice sl.ao sl.n sl.cap];have nZ:=(setRow_other u gt (w.heap.size+1) #[.int .i64 N,.int .i64 T,.int .i64 G,.slice sl.ao sl.n sl.cap] (by omega)).trans ((hb.block _ (by have:=iB.out;have:=mQ.out;omega)).trans Ei.out);have X4:=D.lay N T G (.slice sl.ao sl.n sl.cap);have DX:=j5.kR j6 (jN.row u (fun q=>q.2 hgX) #[.int .i64 N,.int .i64 T,.int .i64 G,.slice sl.ao sl.n sl.cap]);have hb2:Below w1.heap.size w1 (u.setRow gt #[.int .i64 N,.int .i64 T,.int .i64 G,.slice sl.ao sl.n sl.cap]):=below_setRow hb hgt _;obtain ⟨W2,hW2⟩:∃ W2,Tt.lay u gt N T G (.slice sl.ao sl.n sl.cap)=W2:=⟨_,rfl⟩;have hW2':u.setRow gt #[.int .i64 N,.int .i64 T,.int .i64 G,.slice sl.ao sl.n sl.cap]=W2:=hW2;rw [hW2'] at hA2 hF2 nZ DX hb2;rw [hW2] at X4 ⊢;clear hW2 hW2';have HA2:=Lh hA2;have ko:=Lh hF2;have Og:=Lh nZ;have O7:=Lh DX;have YV:Hid (kQ (fun b=>w1.heap.size<=b) sl.ao sl.n):=Lh (j6.mono fun _ q=>q.1);have HB2:=Lh hb2;have HJ:=Lh (And.intro j2 (And.intro j3 j4));have HJe:=Lh j1;clear hb j1 j2 j3 j4 j5 j6 hgX hF2 DX hb2 hgt D y0 y1 y2 y3 y4 y5;by_cases hE0:E=0
   ·
    subst hE0;have HKe:Hid (¬ Bl.fZ po c.y c.m c.d≠0):=Lh (by rw [<- HJe.out];simp);have d1:W2.cell? ⟨w.heap.size+1,1,none⟩=some (.string r.av):=by rw [cell_of_row W2 _ 1 _ _ _ nZ];rfl
    have d8:W2.cell? ⟨w.heap.size+1,8,none⟩=some (.int .i64 r.y):=by rw [cell_of_row W2 _ 8 _ _ _ nZ];rfl
    have d9:W2.cell? ⟨w.heap.size+1,9,none⟩=some (.int .i64 r.m):=by rw [cell_of_row W2 _ 9 _ _ _ nZ];rfl
    have Z6:W2.cell? ⟨w.heap.size+1,10,none⟩=some (.int .i64 r.d):=by rw [cell_of_row W2 _ 10 _ _ _ nZ];rfl
    have d12:W2.cell? ⟨w.heap.size+1,12,none⟩=some (.string r.bf):=by rw [cell_of_row W2 _ 12 _ _ _ nZ];rfl
    have d13:W2.cell? ⟨w.heap.size+1,13,none⟩=some (.int .i64 r.aY):=by rw [cell_of_row W2 _ 13 _ _ _ nZ];rfl
    go_wp2_with (first | ((with_reducible apply Tt.aI X4);rfl;rfl;rfl)|((with_reducible apply Pd.aQ (r:=⟨r.av,0,r.y,r.m,r.d,N,T,G,sl,r.bf,r.aY,false⟩) (g:=W2.heap.size));rfl;rfl;rfl;rfl;rfl;rfl));have V6:=Pd.dO W2 ⟨r.av,0,r.y,r.m,r.d,N,T,G,sl,r.bf,r.aY,false⟩;have hb3:=Pd.aC W2 ⟨r.av,0,r.y,r.m,r.d,N,T,G,sl,r.bf,r.aY,false⟩;have Pf:=Pd.dh W2 ⟨r.av,0,r.y,r.m,r.d,N,T,G,sl,r.bf,r.aY,false⟩;obtain ⟨W3,hW3⟩:∃ W3,Pd.box W2 ⟨r.av,0,r.y,r.m,r.d,N,T,G,sl,r.bf,r.aY,false⟩=W3:=⟨_,rfl⟩;rw [hW3] at V6 hb3 Pf ⊢;clear hW3 hA2 nZ X4 d1 d8 d9 Z6 d12 d13;have JR:=Lh (HA2.out.below hb3);have lM:=Lh (ko.out.below hb3);have jJ:=Lh V6;have HB3:=Lh (aj jB.out.dx (aj HB2.out hb3));have HPt3:=Lh (O7.out.below hb3);have uO:Hid (w.heap.size+1+1+1 < U.heap.size/\U.heap.size<=w1.heap.size/\w1.heap.size<=W2.heap.size/\W3.heap.size=W2.heap.size+1):=Lh ⟨iB.out,mQ.out,HB2.out.size,Pf⟩;clear V6 hb3 Pf;obtain ⟨C,hC⟩:∃ C,Bl.kr s c=C:=⟨_,rfl⟩;rw [hC] at HCp HBa Zg;clear hC
    have hIs:∀ u,Below W3.heap.size W3 u->Bl.AV u ⟨r.av,0,r.y,r.m,r.d,N,T,G,sl,r.bf,r.aY,false⟩ C:=by
     intro u hb;rw [HCp.out];exact ⟨HI.out.av,rfl,HI.out.y,HI.out.m,HI.out.d,HJ.out.1,HJ.out.2.1,HJ.out.2.2,HPt3.out.below hb,HI.out.bf,HI.out.aY,rfl⟩
    have Xt:=Lh hIs;have HPr:Hid (Pd.Short ⟨r.av,0,r.y,r.m,r.d,N,T,G,sl,r.bf,r.aY,false⟩):=Lh ⟨bT.out.2.2.2.1,Bl.eF,bT.out.2.2.2.2.2.2.2.2.2.2.1,bT.out.2.2.2.2.2.2.2.2.2.2.2.1,bT.out.2.2.2.2.2.2.2.2.2.2.2.2.1,by show Fit N;rw [HJ.out.1];exact HUp.out.2.2.2.1,by show Fit T;rw [HJ.out.2.1];exact HUp.out.2.2.2.2.1,by show Fit G;rw [HJ.out.2.2];exact HUp.out.2.2.2.2.2,bT.out.2.2.2.2.2.2.2.2.2.2.2.2.2.1,bT.out.2.2.2.2.2.2.2.2.2.2.2.2.2.2.1⟩;clear hIs
    refine Bl.SV (S:=fun u=>Bl.At u w.heap.size h/\Pd.C u W2.heap.size ⟨r.av,0,r.y,r.m,r.d,N,T,G,sl,r.bf,r.aY,false⟩)
     (J0:=fun _ _=>True)
     (J1:=fun X hm u=>Bl.Lp (fun b=>((P0 b/\b < w.heap.size)\/U.heap.size<=b)/\b ∉ X) u hm M)
     (J2:=fun X h' q u=>q=Bl.sN M C/\Bl.Lp (fun b=>((P0 b/\b < w.heap.size)\/U.heap.size<=b)/\b ∉ X) u h' (Bl.xS M C))
     h.val (.int .i64 k) (Pd.val ⟨r.av,0,r.y,r.m,r.d,N,T,G,sl,r.bf,r.aY,false⟩) rfl ?_ ?_ trivial ?_ rfl rfl rfl rfl rfl rfl rfl rfl rfl rfl rfl rfl rfl rfl rfl rfl rfl rfl rfl ?_ ?_ ?_ ?_ rfl rfl Tryz.func137 (by kernel_rfl) rfl Tryz.func135 (by kernel_rfl) rfl rfl rfl rfl rfl rfl rfl rfl rfl rfl ?_ ?_ ?_ ?_ ?_ ?_
    ·
     intro u hb;exact ⟨JR.out.below hb,jJ.out.below hb⟩
    ·
     intro u b vs hb hu;exact ⟨hu.1.other (by have:=uO.out;omega) _,hu.2.of (setRow_other u b _ _ (by have:=uO.out;omega))⟩
    · kernel_rfl
    · exact Bl.iq (t:=2) rfl rfl (by kernel_rfl) fun u hu=>hu.1
    · exact Bl.iJ (t:=6) rfl rfl (by kernel_rfl)
    · exact Bl.X8 (t:=9) rfl rfl (by kernel_rfl) fun u hu=>hu.2.at
    · exact fun _ _ _ _ _ h=>h
    ·
     intro X u hb hX _;refine (RS (fun b=>P0 b/\b < w.heap.size) s h k u ((HL.out.lt.below HB3.out).below hb) hkp (by have:=XH.out;have:=HR.out.few;omega)).mono ?_;rintro e u' ⟨hm,rfl,hl,bb⟩;refine ⟨hm,rfl,?_,bb⟩;rw [HM.out];refine hl.mono fun b q=>q.elim (fun z=>⟨.inl z,fun hx=>by have:=(hX b hx).1;have:=uO.out;omega⟩) (fun z=>⟨.inr (by have:=hb.size;have:=uO.out;omega),fun hx=>by have:=(hX b hx).2;omega⟩)
    ·
     intro X hm u hb hX hl;refine (Cx (fun b=>((P0 b/\b < w.heap.size)\/U.heap.size<=b)/\b ∉ X) M hm ⟨r.av,0,r.y,r.m,r.d,N,T,G,sl,r.bf,r.aY,false⟩ C u hl ?_ (Xt.out u hb) HPr.out ?_ ?_ ?_ ?_).mono ?_
     ·
      intro hn b off e;have q1:=YV.out hn b off e;have q2:=HPt3.out.inp hn b off e;exact ⟨.inr (by have:=uO.out;omega),fun hx=>by have:=(hX b hx).1;omega⟩
     ·
      show sl.n<=100;have:=O7.out.len;have:=HUp.out.2.1;omega
     ·
      rw [HCp.out];exact HUp.out.2.2.1
     ·
      rw [HM.out];show (Bl.mark s.post k).length<=40;rw [Bl.nO];exact HR.out.few
     ·
      rw [HM.out];exact HR.out.Ak
     ·
      rintro e u' ⟨h',rfl,hl',bb⟩;refine ⟨h',_,rfl,⟨rfl,?_⟩,bb⟩;exact hl'.mono fun b q=>q.elim id (fun z=>⟨.inr (by have:=hb.size;have:=uO.out;omega),fun hx=>by have:=(hX b hx).2;omega⟩)
    · exact fun _ _ _ _=>trivial
    ·
     intro X hm u o hl;exact (hl.lt.below (ah.alloc (ac _) _)).mono fun b q=>⟨q.1.1,fun hx=>(List.mem_cons.1 hx).elim (fun z=>by have:=q.2;omega) q.1.2⟩
    ·
     rintro X h' q u o ⟨hq,hl⟩;exact ⟨hq,(hl.lt.below (ah.alloc (ac _) _)).mono fun b q=>⟨q.1.1,fun hx=>(List.mem_cons.1 hx).elim (fun z=>by have:=q.2;omega) q.1.2⟩⟩
    ·
     rintro X hm h' q u g10 g11 hb ⟨hq,hl⟩ hx10 hx11 hne hl10 hl11 D E;have hnn:g10≠w.heap.size/\g11≠w.heap.size/\g10≠w.heap.size+1+1/\g10≠w.heap.size+1+1+1/\g11≠w.heap.size+1+1/\g11≠w.heap.size+1+1+1:=by have:=uO.out;omega
     have hlo:w.heap.size<=g10/\w.heap.size<=g11:=by have:=uO.out;omega
     have SI:Bl.At (Bl.fA u g10 g11 h' q) w.heap.size h:=((JR.out.below hb).other (by omega) _).other (by omega) _;have hD4:Bl.At (Bl.fA u g10 g11 h' q) g10 h':=(D.lay h').other (by omega) _;have X9:Rp.Bk (Bl.fA u g10 g11 h' q) g11 q:=(E.other (by omega) _).lay q;have Oi:Bl.Fr w (Bl.fA u g10 g11 h' q) (w.heap.size+1+1) (w.heap.size+1+1+1):=((lM.out.below hb).other hlo.1 (by omega) _).other hlo.2 (by omega) _;have hl4:Bl.Lp (fun b=>((P0 b/\b < w.heap.size)\/U.heap.size<=b)/\b ∉ X) (Bl.fA u g10 g11 h' q) h' (Bl.xS M C):=(hl.kp (jN.row u (fun z=>z.2 hx10) _)).kp (jN.row _ (fun z=>z.2 hx11) _);have hB4:=Oi.dx;obtain ⟨W4,hW4⟩:∃ W4,Bl.fA u g10 g11 h' q=W4:=⟨_,rfl⟩;rw [hW4] at SI hD4 X9 Oi hl4 hB4 ⊢;clear hW4 D E hl hx10 hx11 hb;have JX:=Lh SI;have HD4:=Lh hD4;have HE4:=Lh X9;have Hu:=Lh Oi;have AJ:=Lh hl4;have pR:=Lh hB4;have HQ:=Lh hq;clear SI hD4 Oi hl4 hB4;obtain ⟨t0,t1,t2⟩:=X9.cells;clear X9;by_cases hw0:q.why=0
     ·
      rw [hw0] at t0;have HP:=Lh (Zg.out HNk.out HKe.out (by rw [<- HQ.out,hw0];simp));clear hq hw0;go_wp2_with fail;refine Bl.yA (g10) (g11) (w.heap.size+1+1) (w.heap.size+1+1+1) h' Bl.iy q ⟨0,0,0⟩ HD4.out HE4.out Hu.out.st Hu.out.rp (by omega) rfl rfl rfl rfl rfl rfl rfl rfl rfl rfl ?_ ?_ ?_ ?_ ?_ ?_ ?_ ?_ ?_ ?_
      · kernel_rfl
      · exact fun _ _ _ h=>h
      · exact fun _ _ _ h=>h
      · rfl
      · rfl
      · rfl
      · rfl
      · rfl
      · rfl
      go_wp2_with fail;exact (Hu.out.below (ah.drew)).ret Tryz.results91 h' q rfl rfl rfl fun b=>by rw [HP.out.1,HP.out.2,<- HQ.out];exact ⟨_,rfl,(((AJ.out.mono (fun b z=>z.1)).below (ah.drew)).fA (P:=fun b=>P0 b/\b < w.heap.size) (u:=U) (w:=w) (fun b z=>z.2) (by omega) (by have:=uO.out;omega) (by omega) (by have:=uO.out;omega)).mono (fun b z=>z.elim (fun y=>.inl y.1) .inr),b⟩
     ·
      have hqq:(q.why==0)=false:=beq_eq_false_iff_ne.2 hw0;have HP:=Lh (HBa.out HNk.out HKe.out (by rw [<- HQ.out];exact hw0));clear hq;go_wp2_with fail;refine Bl.yA (w.heap.size) (g11) (w.heap.size+1+1) (w.heap.size+1+1+1) h Bl.iy q ⟨0,0,0⟩ JX.out HE4.out Hu.out.st Hu.out.rp (by omega) rfl rfl rfl rfl rfl rfl rfl rfl rfl rfl ?_ ?_ ?_ ?_ ?_ ?_ ?_ ?_ ?_ ?_
      · kernel_rfl
      · exact fun _ _ _ h=>h
      · exact fun _ _ _ h=>h
      · rfl
      · rfl
      · rfl
      · rfl
      · rfl
      · rfl
      go_wp2_with fail;exact (Hu.out.below (ah.drew)).ret Tryz.results91 h q rfl rfl rfl fun b=>by rw [HP.out.1,HP.out.2,<- HQ.out];exact ⟨_,rfl,(HL.out.below b).wide w,b⟩
   ·
    have hq:(E==0)=false:=beq_eq_false_iff_ne.2 hE0;have HP:=Lh (Uf.out HNk.out (by rw [<- HJe.out];exact hE0));rw [<- HJe.out] at HP;clear hA2 nZ X4;go_wp2_with fail;refine Bl.jI (w.heap.size) (w.heap.size+1+1) (w.heap.size+1+1+1) h Bl.iy ⟨0,0,0⟩ (E) HA2.out ko.out.st ko.out.rp (by omega) rfl rfl rfl rfl rfl rfl rfl rfl rfl rfl rfl rfl ?_ ?_ ?_ ?_ ?_ ?_ ?_ ?_ ?_ ?_ ?_
    · kernel_rfl
    · exact fun _ _ _ h=>h
    · exact fun _ _ _ h=>h
    · rfl
    · rfl
    · rfl
    · rfl
    · rfl
    · rfl
    · rfl
    intro w9 b9;go_wp2_with fail;exact (ko.out.below b9).ret Tryz.results91 h ⟨E,0,0⟩ rfl rfl rfl fun b=>by rw [HP.out.1,HP.out.2];exact ⟨_,rfl,(HL.out.below b).wide w,b⟩
theorem JY (y m d z n e:Int) (hy:Fit y) (hm:Fit m) (hd:Fit d) (hz:Fit z) (hn:Fit n) (he:Fit e) (u:World) (i:Nat) (os:Array Obj):JK 113 #[.agg #[.int .i64 y,.int .i64 m,.int .i64 d],.agg #[.int .i64 z,.int .i64 n,.int .i64 e]] u i os (.bool (mq y m d z n e)) :=
 Calls.regrown_of (lg y m d z n e _ _ ah hy hm hd hz hn he)
theorem Bl.JZ {t:Iv.iD} (hR:Bl.sI t) (hs:∀ x∈t.parts,Pt.Short x):∀ x∈(Iv.mW t).parts,Pt.Short x:=by
 have h:=(Bl.Am (p:=⟨.empty,0,1,1,1,t,.empty,0,false⟩) (y:=1) (m:=1) (d:=1) hR hs).1;rw [(Bl.Lj (p:=⟨.empty,0,1,1,1,t,.empty,0,false⟩) (y:=1) (m:=1) (d:=1) (fun q=>q.elim (fun z=>by cases z) (fun z=>z ⟨rfl,rfl⟩)) (fun q=>q.elim (fun z=>absurd z (by decide)) (fun z=>absurd z (Int.lt_irrefl _)))).2] at h;exact h
theorem Bl.Wx {p z:Bl.Ps} {l:List Bl.Ps} {q:Nat} (e:Bl.lU p.bf p.aY l=q) (h:q < l.length) (hz:l[q]=z):Bl.Undo p l↔Bl.Own z/\Dt.days z.y z.m z.d<=Dt.days p.y p.m p.d/\Iv.dQ z.tot=0/\p.tot=Iv.back z.tot:=by
 subst e hz;exact ⟨fun u=>u.2,fun u=>⟨h,u⟩⟩
theorem pI (r:Pd.T) (p:Bl.Ps) (ps:List Bl.Ps) (rs:List Pd.T) (ao:Option Addr) (n cap:Nat) (w0 w:World) (hw:Below w0.heap.size w0 w) (hI:Bl.AV w r p) (hS:Pd.Short r) (hR:Dt.aA p.y p.m p.d=true) (hL:Pd.Ls w ao n cap rs) (hE:Bl.Each w rs ps) (hA:Bl.mJ ps) :
  Calls Tryz.prog 78 #[Pd.val r,.slice ao n cap] w (Bl.Bb w0 (Bl.Undo p ps)):=by
 have HW:=Lh hw;have HI:=Lh hI;have bT:=Lh hS;have HR:=Lh hR;have HL:=Lh hL;have HN:=Lh hL.len;have HE:=Lh hE;have Rh:=Lh hA;have hcap:=hL.reach;have hfit:=hL.fits;clear hL hw hE hI hS hR hA;obtain ⟨W,hW,hbW,hC⟩:=Pd.bZ w r;have dz:=Lh hbW;have HC:=Lh hC;unfold Pd.C at hC;obtain ⟨a0,a1,a2,a3,a4,a5,a6,a7,a8,a9,uh,qb⟩:=hC;clear hbW;unfold Pd.val;go_enter Tryz.func78,Tryz.ntmps78;go_wp2_with fail;clear hW;refine (BF ps rs r.bf r.aY ao n cap W W ah (HL.out.below dz.out) (HE.out.below dz.out)).mono ?_;rintro e w1 ⟨rfl,b1⟩;have HB1:=Lh b1;have O1:=HC.out.below b1;clear a0 a1 a2 a3 a4 a5 a6 a7 a8 a9 uh qb b1;have hpl:=Bl.IK r.bf r.aY ps;obtain ⟨q,hq⟩:∃ q,Bl.lU r.bf r.aY ps=q:=⟨_,rfl⟩;rw [hq] at hpl ⊢;have HQ:Hid (Bl.lU p.bf p.aY ps=q):=Lh (by rw [<- HI.out.bf,<- HI.out.aY];exact hq);clear hq;have hqn:q<=n:=by have:=HN.out;have:=HE.out.len;omega
 clear hpl;unfold Pd.C at O1;obtain ⟨a0,a1,a2,a3,a4,a5,a6,a7,a8,a9,uh,qb⟩:=O1;by_cases hlt:q < n
 ·
  obtain ⟨b,off,rfl⟩:=HL.out.at (by omega);have hkl:q < rs.length:=HN.out▸hlt;have hkp:q < ps.length:=HE.out.len▸hkl;have hrow:=((HL.out.row q hkl).below dz.out).below HB1.out;have hX:=HE.out.each q hkl;have hXs:=HL.out.short _ (ae hkl);have hZr:=Rh.out _ (ae hkp);obtain ⟨x,hx⟩:∃ x,rs[q]=x:=⟨_,rfl⟩;obtain ⟨z,hz⟩:∃ z,ps[q]=z:=⟨_,rfl⟩;have Uf:=Lh (Bl.Wx HQ.out hkp hz);rw [hx] at hrow hX hXs;rw [hz] at hX hZr;clear hx hz;have HX:=Lh hX;have HXs:=Lh hXs;have HZr:=Lh hZr;have HRow:=Lh hrow;have HXn:Hid (x.parts.n<=1000):=Lh (by have h1:=hX.parts.len;have h2:=hZr.2.few;omega);have HAh:Hid (mq r.y r.m r.d x.y x.m x.d=decide (Dt.days p.y p.m p.d < Dt.days z.y z.m z.d)):=Lh (by rw [HI.out.y,HI.out.m,HI.out.d,hX.y,hX.m,hX.d];exact mD HR.out hZr.1);have Et:=hX.bf;have Eu:=hX.aY;clear hX hXs hZr;obtain ⟨c0,c1,c2,c3,c4,c5,c6,c7,c8,c9,c10,c11⟩:=hrow;have qn:((q:Int)==(n:Int))=false:=beq_eq_false_iff_ne.2 (by omega);have a2':=cell_regrown a2;have a3':=cell_regrown a3;have a4':=cell_regrown a4;have c2':=cell_regrown c2;have c3':=cell_regrown c3;have c4':=cell_regrown c4;have c9':=cell_regrown c9;have c10':=cell_regrown c10;clear a0 a1 a2 a3 a4 a5 a6 a7 a8 a9 uh qb c0 c1 c2 c3 c4 c5 c6 c7 c8 c9 c10 c11;by_cases h1:x.bf=.empty
  ·
   have q1:(x.bf.toList==[])=true:=by rw [h1,wP];rfl
   by_cases h2:x.aY=0
   ·
    have q2:(x.aY==0)=true:=beq_iff_eq.2 h2;have Lb:Hid (Bl.Own z):=Lh ⟨Et▸h1,Eu▸h2⟩;clear Et Eu h1 h2;have cB:=fun i os=>JY r.y r.m r.d x.y x.m x.d bT.out.2.2.1 bT.out.2.2.2.1 bT.out.2.2.2.2.1 HXs.out.2.2.1 HXs.out.2.2.2.1 HXs.out.2.2.2.2.1 w1 i os
    rw [HAh.out] at cB;by_cases hdy:Dt.days p.y p.m p.d < Dt.days z.y z.m z.d
    ·
     have cK:Hid (¬ Bl.Undo p ps):=Lh fun u=>by
      obtain ⟨h1,h2⟩:=Uf.out.1 u;omega
     rw [decide_eq_true hdy] at cB;clear hdy;go_wp2_with fail;refine wp_region_quiet_below (by kernel_rfl) (by kernel_rfl) ?_
     repeat (first | go_big_quiet_step (first | (go_at_call 113;exact cB _ _)) | quiet_step (first | (go_at_call 113;exact cB _ _)))
     refine wpQuiet_nil ?_;intro _ hw';obtain ⟨⟨dq,osq⟩,hw''⟩:=hw';subst hw'';have HB2:=Lh (aj HB1.out (below_regrown w1 dq osq));go_wp2_with fail;go_ret;exact ⟨.inr ⟨cK.out,rfl⟩,aj HW.out (aj dz.out HB2.out)⟩
    ·
     have HDy:Hid (Dt.days z.y z.m z.d<=Dt.days p.y p.m p.d):=Lh (by omega);rw [decide_eq_false hdy] at cB;clear hdy;go_wp2_with fail;refine wp_region_quiet_below (by kernel_rfl) (by kernel_rfl) ?_
     repeat (first | go_big_quiet_step (first | (go_at_call 113;exact cB _ _)) | quiet_step (first | (go_at_call 113;exact cB _ _)))
     refine wpQuiet_nil ?_;intro _ hw';obtain ⟨⟨dq,osq⟩,hw''⟩:=hw';subst hw'';have HB2:=Lh (aj HB1.out (below_regrown w1 dq osq));have HI2:=Lh (HI.out.below (aj dz.out HB2.out));have iK:=Lh (HC.out.below HB2.out);have tC:=Lh (HX.out.below (aj dz.out HB2.out));have hrw2:=HRow.out.below (below_regrown w1 dq osq);generalize grow (redrawn w1 dq) osq=w2 at *;obtain ⟨c0,c1,c2,c3,c4,c5,c6,c7,c8,c9,c10,c11⟩:=hrw2;clear cB;go_wp2_with fail;have DX:=tC.out.parts;have hbk:=Gl z.tot x.parts.ao x.parts.n x.parts.cap w2 DX (HX.out.net▸HXs.out.2.2.2.2.2.1) (HX.out.aP▸HXs.out.2.2.2.2.2.2.1) (HX.out.au▸HXs.out.2.2.2.2.2.2.2.1) HXn.out;rw [<- HX.out.net,<- HX.out.aP,<- HX.out.au] at hbk;unfold Tt.val at hbk;refine hbk.mono ?_;clear DX hbk;rintro e w3 ⟨v,rfl,o3,b3⟩;have HB3:=Lh (aj HB2.out b3);have HI3:=Lh (HI2.out.below b3);have jJ:=Lh (iK.out.below b3);obtain ⟨vo,vc,rfl,l3,i3⟩:=Pt.aX o3 (Bl.JZ HZr.out.2 HX.out.parts.short);have uJ:=Lh l3;clear c0 c1 c2 c3 c4 c5 c6 c7 c8 c9 c10 c11 b3 o3 l3 i3;obtain ⟨T,hT⟩:∃ T,Iv.mW z.tot=T:=⟨_,rfl⟩;obtain ⟨E,hE⟩:∃ E,Iv.dQ z.tot=E:=⟨_,rfl⟩;have HTz:=Lh hT;have HEz:=Lh hE;rw [hT] at uJ ⊢;rw [hE];clear hT hE;obtain ⟨tn,htn⟩:∃ tn,T.parts.length=tn:=⟨_,rfl⟩;rw [htn] at uJ ⊢;clear htn;obtain ⟨b4,k4,s4⟩:=Bl.Ua w3 (.cells #[.int .i64 T.net,.int .i64 T.aP,.int .i64 T.au,.slice vo tn vc] 102);obtain ⟨V,hV⟩:∃ V,w3.alloc (.cells #[.int .i64 T.net,.int .i64 T.aP,.int .i64 T.au,.slice vo tn vc] 102)=V:=⟨_,rfl⟩;rw [hV] at b4 k4 s4;have hT4:Tt.At V w3.heap.size T.net T.aP T.au (.slice vo tn vc):=k4;obtain ⟨t0,t1,t2,t3⟩:=hT4.cells;have hC4:=jJ.out.below b4;unfold Pd.C at hC4;obtain ⟨a0,a1,a2,a3,a4,a5,a6,a7,a8,a9,uh,qb⟩:=hC4;have pR:=Lh (aj HB3.out b4);have HI4:=Lh (HI3.out.below b4);have AJ:=Lh (uJ.out.below b4);clear b4 k4 s4 hT4;unfold Tt.val;by_cases he:E=0
     ·
      subst he;have oD:=Lh (SG T p.tot vo r.parts.ao tn vc r.parts.n r.parts.cap V V ah AJ.out HI4.out.parts);rw [<- HI.out.net,<- HI.out.aP,<- HI.out.au] at oD;unfold Tt.val at oD;go_wp2_with fail;refine oD.out.mono ?_;rintro e w5 ⟨hcase,b5⟩;have tZ:=Lh (aj pR.out b5);have HTb:Hid (T=Iv.back z.tot):=Lh (by rw [<- HTz.out];unfold Iv.mW;rw [ab HEz.out]);clear b5 a0 a1 a2 a3 a4 a5 a6 a7 a8 a9 uh qb oD t0 t1 t2 t3;rcases hcase with ⟨hsm,rfl⟩ | ⟨hno,rfl⟩
      ·
       have iM:Hid (Bl.Undo p ps):=Lh (Uf.out.2 ⟨Lb.out,HDy.out,HEz.out,by rw [<- hsm];exact HTb.out⟩);clear hsm;go_wp2_with fail;go_ret;exact ⟨.inl ⟨iM.out,rfl⟩,aj HW.out (aj dz.out tZ.out)⟩
      ·
       have cK:Hid (¬ Bl.Undo p ps):=Lh fun u=>hno (HTb.out.trans (Uf.out.1 u).2.2.2.symm)
       clear hno;go_wp2_with fail;go_ret;exact ⟨.inr ⟨cK.out,rfl⟩,aj HW.out (aj dz.out tZ.out)⟩
     ·
      have qe:(E==0)=false:=beq_eq_false_iff_ne.2 he;have cK:Hid (¬ Bl.Undo p ps):=Lh fun u=>he (HEz.out▸(Uf.out.1 u).2.2.1)
      clear he;go_wp2_with fail;go_ret;exact ⟨.inr ⟨cK.out,rfl⟩,aj HW.out (aj dz.out pR.out)⟩
   ·
    have q2:(x.aY==0)=false:=beq_eq_false_iff_ne.2 h2;have cK:Hid (¬ Bl.Undo p ps):=Lh fun u=>h2 (Eu.trans (Uf.out.1 u).1.2)
    clear Et Eu h1 h2;go_wp2_with fail;refine wp_region_quiet_below (by kernel_rfl) (by kernel_rfl) ?_
    repeat (first | go_big_quiet_step (fail) | quiet_step (fail))
    refine wpQuiet_nil ?_;intro _ hw';obtain ⟨⟨dq,osq⟩,hw''⟩:=hw';subst hw'';have HB2:=Lh (aj HB1.out (below_regrown w1 dq osq));go_wp2_with fail;go_ret;exact ⟨.inr ⟨cK.out,rfl⟩,aj HW.out (aj dz.out HB2.out)⟩
  ·
   have q1:(x.bf.toList==[])=false:=beq_eq_false_iff_ne.2 fun e=>h1 (Vt.gM (e.trans wP.symm))
   have cK:Hid (¬ Bl.Undo p ps):=Lh fun u=>h1 (Et.trans (Uf.out.1 u).1.1)
   clear Et Eu h1;go_wp2_with fail;refine wp_region_quiet_below (by kernel_rfl) (by kernel_rfl) ?_
   repeat (first | go_big_quiet_step (fail) | quiet_step (fail))
   refine wpQuiet_nil ?_;intro _ hw';obtain ⟨⟨dq,osq⟩,hw''⟩:=hw';subst hw'';have HB2:=Lh (aj HB1.out (below_regrown w1 dq osq));go_wp2_with fail;go_ret;exact ⟨.inr ⟨cK.out,rfl⟩,aj HW.out (aj dz.out HB2.out)⟩
 ·
  obtain rfl:q=n:=by omega
  have qn:((q:Int)==(q:Int))=true:=beq_self_eq_true _
  have cK:Hid (¬ Bl.Undo p ps):=Lh fun u=>by
   have h1:=u.1;rw [HQ.out,<- HE.out.len,<- HN.out] at h1;exact Nat.lt_irrefl _ h1
  clear a0 a1 a2 a3 a4 a5 a6 a7 a8 a9 uh qb;go_wp2_with fail;refine wp_region_quiet_below (by kernel_rfl) (by kernel_rfl) ?_
  repeat (first | go_big_quiet_step (fail) | quiet_step (fail))
  refine wpQuiet_nil ?_;intro _ hw';obtain ⟨⟨dq,osq⟩,hw''⟩:=hw';subst hw'';have HB2:=Lh (aj HB1.out (below_regrown w1 dq osq));go_wp2_with fail;go_ret;exact ⟨.inr ⟨cK.out,rfl⟩,aj HW.out (aj dz.out HB2.out)⟩
theorem Bl.Each.take {w:World} {rs:List Pd.T} {ps:List Bl.Ps} (h:Bl.Each w rs ps) (k:Nat):Bl.Each w (rs.take k) (ps.take k):=by
 have hl:(rs.take k).length=(ps.take k).length:=by rw [List.length_take,List.length_take,h.len]
 refine ⟨hl,fun i hi=>?_⟩;have hi':=hi;rw [List.length_take] at hi';have:=h.each i (by omega);simp only [List.getElem_take];exact this
theorem Bl.mJ.take {ps:List Bl.Ps} (h:Bl.mJ ps) (k:Nat):Bl.mJ (ps.take k):=fun p hp=>h p (List.mem_of_mem_take hp)
theorem El (ps:List Bl.Ps) (rs:List Pd.T) (ao:Option Addr) (n cap:Nat) (w0 w:World) (hw:Below w0.heap.size w0 w) (hL:Pd.Ls w ao n cap rs) (hE:Bl.Each w rs ps) (hA:Bl.mJ ps) :
  Calls Tryz.prog 33 #[.slice ao n cap] w (Bl.Bb w0 (∀ i (h:i < ps.length),Bl.jF ps i h)):=by
 have HW:=Lh hw;have HL:=Lh hL;have HN:=Lh hL.len;have HE:=Lh hE;have Rh:=Lh hA;have hcap:=hL.reach;have hfit:=hL.fits;clear hL hw hE hA;go_enter Tryz.func33,Tryz.ntmps33;go_wp2_with fail
 go_loopw [3,4,5,8] (fun _ _ _ j wr=>∃ k:Nat,k<=n/\j=.int .i64 k/\Hid (∀ i (h:i < ps.length),i < k->Bl.jF ps i h)/\Hid (Below w.heap.size w wr)) (fun _ _ _ j _=>n - (intOf j).toNat)
 case atStart=>exact ⟨0,by omega,rfl,Lh (fun _ _ h=>absurd h (Nat.not_lt_zero _)),Lh ah⟩
 case round =>
  obtain ⟨k,hk,rfl,HT,HB⟩:=hrel;by_cases hlt:k < n
  ·
   obtain ⟨b,off,rfl⟩:=HL.out.at (by omega);have hkl:k < rs.length:=HN.out▸hlt;have hkp:k < ps.length:=HE.out.len▸hkl;have hrow:=(HL.out.row k hkl).below HB.out;have bT:=Lh (HL.out.short _ (ae hkl));have hI:=HE.out.each k hkl;have hRt:=(Rh.out _ (ae hkp)).1;obtain ⟨r,hr⟩:∃ r,rs[k]=r:=⟨_,rfl⟩;obtain ⟨p,hp⟩:∃ p,ps[k]=p:=⟨_,rfl⟩;have HP:=Lh hp;rw [hr] at hrow hI bT;rw [hp] at hI hRt;clear hr hp;have Ab:=Lh hRt;have ZG:=Lh (Rh.out.take k);have HC:=Lh (Pd.dO wr r);have dz:=Lh (aj HB.out (Pd.aC wr r));have HI:=Lh hI;have hA':=HC.out;unfold Pd.C at hA';obtain ⟨a0,a1,a2,a3,a4,a5,a6,a7,a8,a9,uh,qb⟩:=hA';have x0:=cell_regrown a0;have x1:=cell_regrown a1;have x2:=cell_regrown a2;have x3:=cell_regrown a3;have x4:=cell_regrown a4;have x5:=cell_regrown a5;have x6:=cell_regrown a6;have x7:=cell_regrown a7;have x8:=cell_regrown a8;have x9:=cell_regrown a9;have x10:=cell_regrown uh;have x11:=cell_regrown qb;clear a0 a1 a2 a3 a4 a5 a6 a7 a8 a9 uh qb;have Et:=hI.bf;have Eu:=hI.aY;clear hI hRt;by_cases h1:r.bf=.empty
   ·
    have q1:(r.bf.toList==[])=true:=by rw [h1,wP];rfl
    by_cases h2:r.aY=0
    ·
     have q2:(r.aY==0)=true:=beq_iff_eq.2 h2;have Ya:Hid (¬ Bl.Own p->Bl.Undo p (ps.take k)):=Lh fun z=>absurd ⟨Et▸h1,Eu▸h2⟩ z
     clear Et Eu h1 h2;go_wp2_with (first | ((with_reducible apply Pd.aI hrow);rfl;rfl;rfl)|((with_reducible apply Pd.aQ (r:=r) (g:=wr.heap.size));rfl;rfl;rfl;rfl;rfl;rfl));refine wp_region_quiet_below (by kernel_rfl) (by kernel_rfl) ?_
     repeat (first | go_big_quiet_step (fail) | quiet_step (fail))
     refine wpQuiet_nil ?_;intro _ hw';obtain ⟨⟨dq,osq⟩,hw''⟩:=hw';subst hw'';have HB2:=Lh (aj dz.out (below_regrown (Pd.box wr r) dq osq));have hC2:=HC.out.below (below_regrown (Pd.box wr r) dq osq);generalize grow (redrawn (Pd.box wr r) dq) osq=w2 at *;have GX:=hC2;unfold Pd.C at GX;obtain ⟨a0,a1,a2,a3,a4,a5,a6,a7,a8,a9,uh,qb⟩:=GX;cases hb:r.back
     ·
      have gV:Hid (p.back=false):=Lh (by rw [<- HI.out.back];exact hb);rw [hb] at qb;clear hb;have HCr:=Lh hC2;go_wp2_with fail;refine (jH ps rs r.av r.num (some ⟨b,off,none⟩) n cap w2 w2 ah (HL.out.below HB2.out) (HE.out.below HB2.out)).mono ?_;rintro e w3 ⟨rfl,b3⟩;have HB3:=Lh (aj HB2.out b3);clear b3;obtain ⟨q,hq⟩:∃ q,Bl.mZ r.av r.num ps=q:=⟨_,rfl⟩;have HQ:Hid (Bl.mZ p.av p.num ps=q):=Lh (by rw [<- HI.out.av,<- HI.out.num];exact hq);rw [hq];clear hq;by_cases he:q=0
      ·
       subst he;have iM:Hid (Bl.jF ps k hkp):=Lh ⟨by rw [HP.out];exact Ya.out,by rw [HP.out,HQ.out,gV.out];rfl⟩;go_wp2_with fail;go_roundw
       case rel =>
        refine ⟨k+1,by omega,by go_num,Lh ?_,HB3⟩;intro i hi hik;rcases Nat.lt_or_ge i k with h | h
        · exact HT.out i hi h
        ·
         obtain rfl:i=k:=by omega
         exact iM.out
       case measure=>simp [intOf];omega
      ·
       have qe:((q:Int) != 0)=true:=bne_iff_ne.2 (by omega)
       have cK:Hid (¬ ∀ i (h:i < ps.length),Bl.jF ps i h):=Lh fun z=>he (by
        have h:=(z k hkp).cnt;rw [HP.out,HQ.out,gV.out] at h;exact h)
       clear he;go_wp2_with fail;go_ret;exact ⟨.inr ⟨cK.out,rfl⟩,aj HW.out HB3.out⟩
     ·
      have gV:Hid (p.back=true):=Lh (by rw [<- HI.out.back];exact hb);rw [hb] at qb;clear hb;have HCr:=Lh hC2;go_wp2_with fail;refine (jH ps rs r.av r.num (some ⟨b,off,none⟩) n cap w2 w2 ah (HL.out.below HB2.out) (HE.out.below HB2.out)).mono ?_;rintro e w3 ⟨rfl,b3⟩;have HB3:=Lh (aj HB2.out b3);clear b3;obtain ⟨q,hq⟩:∃ q,Bl.mZ r.av r.num ps=q:=⟨_,rfl⟩;have HQ:Hid (Bl.mZ p.av p.num ps=q):=Lh (by rw [<- HI.out.av,<- HI.out.num];exact hq);rw [hq];clear hq;by_cases he:q=1
      ·
       subst he;have iM:Hid (Bl.jF ps k hkp):=Lh ⟨by rw [HP.out];exact Ya.out,by rw [HP.out,HQ.out,gV.out];rfl⟩;go_wp2_with fail;go_roundw
       case rel =>
        refine ⟨k+1,by omega,by go_num,Lh ?_,HB3⟩;intro i hi hik;rcases Nat.lt_or_ge i k with h | h
        · exact HT.out i hi h
        ·
         obtain rfl:i=k:=by omega
         exact iM.out
       case measure=>simp [intOf];omega
      ·
       have qe:((q:Int) != 1)=true:=bne_iff_ne.2 (by omega)
       have cK:Hid (¬ ∀ i (h:i < ps.length),Bl.jF ps i h):=Lh fun z=>he (by
        have h:=(z k hkp).cnt;rw [HP.out,HQ.out,gV.out] at h;exact h)
       clear he;go_wp2_with fail;go_ret;exact ⟨.inr ⟨cK.out,rfl⟩,aj HW.out HB3.out⟩
    ·
     have q2:(r.aY==0)=false:=beq_eq_false_iff_ne.2 h2;have ZH:Hid (¬ Bl.Own p):=Lh fun z=>h2 (Eu.trans z.2)
     clear Et Eu h1 h2;have hls:=HL.out.to k (by omega);have RI:=Lh hls.2;have hsl:=hls.1;clear hls;by_cases hu:Bl.Undo p (ps.take k)
     ·
      have cU:∀ i os,JK 78 #[Pd.val r,.slice (some ⟨b,off,none⟩) k cap] (Pd.box wr r) i os (.bool true):=fun i os=>Calls.regrown_of ((pI r p (ps.take k) (rs.take k) (some ⟨b,off,none⟩) k cap _ _ ah (HI.out.below (aj dz.out (below_regrown (Pd.box wr r) i os))) bT.out Ab.out (RI.out.below (aj dz.out (below_regrown (Pd.box wr r) i os))) ((HE.out.take k).below (aj dz.out (below_regrown (Pd.box wr r) i os))) ZG.out).mono fun e v h=>⟨h.1.elim (fun z=>z.2) (fun z=>absurd hu z.1),h.2⟩)
      unfold Pd.val at cU;have Ya:Hid (¬ Bl.Own p->Bl.Undo p (ps.take k)):=Lh fun _=>hu
      clear hu;go_wp2_with (first | ((with_reducible apply Pd.aI hrow);rfl;rfl;rfl)|((with_reducible apply Pd.aQ (r:=r) (g:=wr.heap.size));rfl;rfl;rfl;rfl;rfl;rfl));refine wp_region_quiet_below (by kernel_rfl) (by kernel_rfl) ?_
      repeat (first | go_big_quiet_step (first | (go_at_call 78;exact cU _ _)) | quiet_step (first | (go_at_call 78;exact cU _ _)))
      refine wpQuiet_nil ?_;intro _ hw';obtain ⟨⟨dq,osq⟩,hw''⟩:=hw';subst hw'';have HB2:=Lh (aj dz.out (below_regrown (Pd.box wr r) dq osq));clear cU;have hC2:=HC.out.below (below_regrown (Pd.box wr r) dq osq);generalize grow (redrawn (Pd.box wr r) dq) osq=w2 at *;have GX:=hC2;unfold Pd.C at GX;obtain ⟨a0,a1,a2,a3,a4,a5,a6,a7,a8,a9,uh,qb⟩:=GX;cases hb:r.back
      ·
       have gV:Hid (p.back=false):=Lh (by rw [<- HI.out.back];exact hb);rw [hb] at qb;clear hb;have HCr:=Lh hC2;go_wp2_with fail;refine (jH ps rs r.av r.num (some ⟨b,off,none⟩) n cap w2 w2 ah (HL.out.below HB2.out) (HE.out.below HB2.out)).mono ?_;rintro e w3 ⟨rfl,b3⟩;have HB3:=Lh (aj HB2.out b3);clear b3;obtain ⟨q,hq⟩:∃ q,Bl.mZ r.av r.num ps=q:=⟨_,rfl⟩;have HQ:Hid (Bl.mZ p.av p.num ps=q):=Lh (by rw [<- HI.out.av,<- HI.out.num];exact hq);rw [hq];clear hq;by_cases he:q=0
       ·
        subst he;have iM:Hid (Bl.jF ps k hkp):=Lh ⟨by rw [HP.out];exact Ya.out,by rw [HP.out,HQ.out,gV.out];rfl⟩;go_wp2_with fail;go_roundw
        case rel =>
         refine ⟨k+1,by omega,by go_num,Lh ?_,HB3⟩;intro i hi hik;rcases Nat.lt_or_ge i k with h | h
         · exact HT.out i hi h
         ·
          obtain rfl:i=k:=by omega
          exact iM.out
        case measure=>simp [intOf];omega
       ·
        have qe:((q:Int) != 0)=true:=bne_iff_ne.2 (by omega)
        have cK:Hid (¬ ∀ i (h:i < ps.length),Bl.jF ps i h):=Lh fun z=>he (by
         have h:=(z k hkp).cnt;rw [HP.out,HQ.out,gV.out] at h;exact h)
        clear he;go_wp2_with fail;go_ret;exact ⟨.inr ⟨cK.out,rfl⟩,aj HW.out HB3.out⟩
      ·
       have gV:Hid (p.back=true):=Lh (by rw [<- HI.out.back];exact hb);rw [hb] at qb;clear hb;have HCr:=Lh hC2;go_wp2_with fail;refine (jH ps rs r.av r.num (some ⟨b,off,none⟩) n cap w2 w2 ah (HL.out.below HB2.out) (HE.out.below HB2.out)).mono ?_;rintro e w3 ⟨rfl,b3⟩;have HB3:=Lh (aj HB2.out b3);clear b3;obtain ⟨q,hq⟩:∃ q,Bl.mZ r.av r.num ps=q:=⟨_,rfl⟩;have HQ:Hid (Bl.mZ p.av p.num ps=q):=Lh (by rw [<- HI.out.av,<- HI.out.num];exact hq);rw [hq];clear hq;by_cases he:q=1
       ·
        subst he;have iM:Hid (Bl.jF ps k hkp):=Lh ⟨by rw [HP.out];exact Ya.out,by rw [HP.out,HQ.out,gV.out];rfl⟩;go_wp2_with fail;go_roundw
        case rel =>
         refine ⟨k+1,by omega,by go_num,Lh ?_,HB3⟩;intro i hi hik;rcases Nat.lt_or_ge i k with h | h
         · exact HT.out i hi h
         ·
          obtain rfl:i=k:=by omega
          exact iM.out
        case measure=>simp [intOf];omega
       ·
        have qe:((q:Int) != 1)=true:=bne_iff_ne.2 (by omega)
        have cK:Hid (¬ ∀ i (h:i < ps.length),Bl.jF ps i h):=Lh fun z=>he (by
         have h:=(z k hkp).cnt;rw [HP.out,HQ.out,gV.out] at h;exact h)
        clear he;go_wp2_with fail;go_ret;exact ⟨.inr ⟨cK.out,rfl⟩,aj HW.out HB3.out⟩
     ·
      have cU:∀ i os,JK 78 #[Pd.val r,.slice (some ⟨b,off,none⟩) k cap] (Pd.box wr r) i os (.bool false):=fun i os=>Calls.regrown_of ((pI r p (ps.take k) (rs.take k) (some ⟨b,off,none⟩) k cap _ _ ah (HI.out.below (aj dz.out (below_regrown (Pd.box wr r) i os))) bT.out Ab.out (RI.out.below (aj dz.out (below_regrown (Pd.box wr r) i os))) ((HE.out.take k).below (aj dz.out (below_regrown (Pd.box wr r) i os))) ZG.out).mono fun e v h=>⟨h.1.elim (fun z=>absurd z.1 hu) (fun z=>z.2),h.2⟩)
      unfold Pd.val at cU
      have cK:Hid (¬ ∀ i (h:i < ps.length),Bl.jF ps i h):=Lh fun z=>hu (by
       have h:=(z k hkp).of;rw [HP.out] at h;exact h ZH.out)
      clear hu;go_wp2_with (first | ((with_reducible apply Pd.aI hrow);rfl;rfl;rfl)|((with_reducible apply Pd.aQ (r:=r) (g:=wr.heap.size));rfl;rfl;rfl;rfl;rfl;rfl));refine wp_region_quiet_below (by kernel_rfl) (by kernel_rfl) ?_
      repeat (first | go_big_quiet_step (first | (go_at_call 78;exact cU _ _)) | quiet_step (first | (go_at_call 78;exact cU _ _)))
      refine wpQuiet_nil ?_;intro _ hw';obtain ⟨⟨dq,osq⟩,hw''⟩:=hw';subst hw'';have HB2:=Lh (aj dz.out (below_regrown (Pd.box wr r) dq osq));go_wp2_with fail;go_ret;exact ⟨.inr ⟨cK.out,rfl⟩,aj HW.out HB2.out⟩
   ·
    have q1:(r.bf.toList==[])=false:=beq_eq_false_iff_ne.2 fun e=>h1 (Vt.gM (e.trans wP.symm))
    have ZH:Hid (¬ Bl.Own p):=Lh fun z=>h1 (Et.trans z.1)
    clear Et Eu h1;have hls:=HL.out.to k (by omega);have RI:=Lh hls.2;have hsl:=hls.1;clear hls;by_cases hu:Bl.Undo p (ps.take k)
    ·
     have cU:∀ i os,JK 78 #[Pd.val r,.slice (some ⟨b,off,none⟩) k cap] (Pd.box wr r) i os (.bool true):=fun i os=>Calls.regrown_of ((pI r p (ps.take k) (rs.take k) (some ⟨b,off,none⟩) k cap _ _ ah (HI.out.below (aj dz.out (below_regrown (Pd.box wr r) i os))) bT.out Ab.out (RI.out.below (aj dz.out (below_regrown (Pd.box wr r) i os))) ((HE.out.take k).below (aj dz.out (below_regrown (Pd.box wr r) i os))) ZG.out).mono fun e v h=>⟨h.1.elim (fun z=>z.2) (fun z=>absurd hu z.1),h.2⟩)
     unfold Pd.val at cU;have Ya:Hid (¬ Bl.Own p->Bl.Undo p (ps.take k)):=Lh fun _=>hu
     clear hu;go_wp2_with (first | ((with_reducible apply Pd.aI hrow);rfl;rfl;rfl)|((with_reducible apply Pd.aQ (r:=r) (g:=wr.heap.size));rfl;rfl;rfl;rfl;rfl;rfl));refine wp_region_quiet_below (by kernel_rfl) (by kernel_rfl) ?_
     repeat (first | go_big_quiet_step (first | (go_at_call 78;exact cU _ _)) | quiet_step (first | (go_at_call 78;exact cU _ _)))
     refine wpQuiet_nil ?_;intro _ hw';obtain ⟨⟨dq,osq⟩,hw''⟩:=hw';subst hw'';have HB2:=Lh (aj dz.out (below_regrown (Pd.box wr r) dq osq));clear cU;have hC2:=HC.out.below (below_regrown (Pd.box wr r) dq osq);generalize grow (redrawn (Pd.box wr r) dq) osq=w2 at *;have GX:=hC2;unfold Pd.C at GX;obtain ⟨a0,a1,a2,a3,a4,a5,a6,a7,a8,a9,uh,qb⟩:=GX;cases hb:r.back
     ·
      have gV:Hid (p.back=false):=Lh (by rw [<- HI.out.back];exact hb);rw [hb] at qb;clear hb;have HCr:=Lh hC2;go_wp2_with fail;refine (jH ps rs r.av r.num (some ⟨b,off,none⟩) n cap w2 w2 ah (HL.out.below HB2.out) (HE.out.below HB2.out)).mono ?_;rintro e w3 ⟨rfl,b3⟩;have HB3:=Lh (aj HB2.out b3);clear b3;obtain ⟨q,hq⟩:∃ q,Bl.mZ r.av r.num ps=q:=⟨_,rfl⟩;have HQ:Hid (Bl.mZ p.av p.num ps=q):=Lh (by rw [<- HI.out.av,<- HI.out.num];exact hq);rw [hq];clear hq;by_cases he:q=0
      ·
       subst he;have iM:Hid (Bl.jF ps k hkp):=Lh ⟨by rw [HP.out];exact Ya.out,by rw [HP.out,HQ.out,gV.out];rfl⟩;go_wp2_with fail;go_roundw
       case rel =>
        refine ⟨k+1,by omega,by go_num,Lh ?_,HB3⟩;intro i hi hik;rcases Nat.lt_or_ge i k with h | h
        · exact HT.out i hi h
        ·
         obtain rfl:i=k:=by omega
         exact iM.out
       case measure=>simp [intOf];omega
      ·
       have qe:((q:Int) != 0)=true:=bne_iff_ne.2 (by omega)
       have cK:Hid (¬ ∀ i (h:i < ps.length),Bl.jF ps i h):=Lh fun z=>he (by
        have h:=(z k hkp).cnt;rw [HP.out,HQ.out,gV.out] at h;exact h)
       clear he;go_wp2_with fail;go_ret;exact ⟨.inr ⟨cK.out,rfl⟩,aj HW.out HB3.out⟩
     ·
      have gV:Hid (p.back=true):=Lh (by rw [<- HI.out.back];exact hb);rw [hb] at qb;clear hb;have HCr:=Lh hC2;go_wp2_with fail;refine (jH ps rs r.av r.num (some ⟨b,off,none⟩) n cap w2 w2 ah (HL.out.below HB2.out) (HE.out.below HB2.out)).mono ?_;rintro e w3 ⟨rfl,b3⟩;have HB3:=Lh (aj HB2.out b3);clear b3;obtain ⟨q,hq⟩:∃ q,Bl.mZ r.av r.num ps=q:=⟨_,rfl⟩;have HQ:Hid (Bl.mZ p.av p.num ps=q):=Lh (by rw [<- HI.out.av,<- HI.out.num];exact hq);rw [hq];clear hq;by_cases he:q=1
      ·
       subst he;have iM:Hid (Bl.jF ps k hkp):=Lh ⟨by rw [HP.out];exact Ya.out,by rw [HP.out,HQ.out,gV.out];rfl⟩;go_wp2_with fail;go_roundw
       case rel =>
        refine ⟨k+1,by omega,by go_num,Lh ?_,HB3⟩;intro i hi hik;rcases Nat.lt_or_ge i k with h | h
        · exact HT.out i hi h
        ·
         obtain rfl:i=k:=by omega
         exact iM.out
       case measure=>simp [intOf];omega
      ·
       have qe:((q:Int) != 1)=true:=bne_iff_ne.2 (by omega)
       have cK:Hid (¬ ∀ i (h:i < ps.length),Bl.jF ps i h):=Lh fun z=>he (by
        have h:=(z k hkp).cnt;rw [HP.out,HQ.out,gV.out] at h;exact h)
       clear he;go_wp2_with fail;go_ret;exact ⟨.inr ⟨cK.out,rfl⟩,aj HW.out HB3.out⟩
    ·
     have cU:∀ i os,JK 78 #[Pd.val r,.slice (some ⟨b,off,none⟩) k cap] (Pd.box wr r) i os (.bool false):=fun i os=>Calls.regrown_of ((pI r p (ps.take k) (rs.take k) (some ⟨b,off,none⟩) k cap _ _ ah (HI.out.below (aj dz.out (below_regrown (Pd.box wr r) i os))) bT.out Ab.out (RI.out.below (aj dz.out (below_regrown (Pd.box wr r) i os))) ((HE.out.take k).below (aj dz.out (below_regrown (Pd.box wr r) i os))) ZG.out).mono fun e v h=>⟨h.1.elim (fun z=>absurd z.1 hu) (fun z=>z.2),h.2⟩)
     unfold Pd.val at cU
     have cK:Hid (¬ ∀ i (h:i < ps.length),Bl.jF ps i h):=Lh fun z=>hu (by
      have h:=(z k hkp).of;rw [HP.out] at h;exact h ZH.out)
     clear hu;go_wp2_with (first | ((with_reducible apply Pd.aI hrow);rfl;rfl;rfl)|((with_reducible apply Pd.aQ (r:=r) (g:=wr.heap.size));rfl;rfl;rfl;rfl;rfl;rfl));refine wp_region_quiet_below (by kernel_rfl) (by kernel_rfl) ?_
     repeat (first | go_big_quiet_step (first | (go_at_call 78;exact cU _ _)) | quiet_step (first | (go_at_call 78;exact cU _ _)))
     refine wpQuiet_nil ?_;intro _ hw';obtain ⟨⟨dq,osq⟩,hw''⟩:=hw';subst hw'';have HB2:=Lh (aj dz.out (below_regrown (Pd.box wr r) dq osq));go_wp2_with fail;go_ret;exact ⟨.inr ⟨cK.out,rfl⟩,aj HW.out HB2.out⟩
  ·
   obtain rfl:k=n:=by omega
   have iM:Hid (∀ i (h:i < ps.length),Bl.jF ps i h):=Lh fun i h=>HT.out i h (by have:=HN.out;have:=HE.out.len;omega)
   go_wp2_with fail;go_ret;exact ⟨.inl ⟨iM.out,rfl⟩,aj HW.out HB.out⟩
end Go.Proofs.YtpfdnemaaeolcaaGreat
namespace Go.Proofs.YtpfdnemaaeolcaaGreat.Ba
open Go.RowKit
open Mem
open Go.Sort (grow)
theorem wS (xs ys:List T) (ao bo:Option Addr) (n m ca cb:Nat) (w0 w:World) (hw:Below w0.heap.size w0 w) (hA:Ls w ao n ca xs) (hB:Ls w bo m cb ys) :
  Calls Tryz.prog 82 #[.slice ao n ca,.slice bo m cb] w fun e w'=>e=.returned (.bool (aK xs ys))/\Below w0.heap.size w0 w':=by
 have HW:=Lh hw;have HA:=Lh hA;have HB:=Lh hB;have HN:=Lh hA.len;have HM:=Lh hB.len;have hca:=hA.reach;have hfa:=hA.fits;have hcb:=hB.reach;have OQ:=hB.fits;clear hw hA hB;by_cases hnm:n=m
 ·
  subst hnm;have hne:((n:Int) != (n:Int))=false:=bne_self_eq_false _;go_enter Tryz.func82,Tryz.ntmps82;go_wp2
  go_loopw [5,13] (fun _ i wr=>∃ k:Nat,k<=n/\i=.int .i64 k/\Hid (aK (xs.drop k) (ys.drop k)=aK xs ys)/\Hid (Below w.heap.size w wr)) (fun _ i _=>n - (intOf i).toNat)
  case atStart=>exact ⟨0,Nat.zero_le _,rfl,Lh rfl,Lh ah⟩
  case round =>
   obtain ⟨k,hk,rfl,HK,iT⟩:=hrel;by_cases hlt:k < n
   ·
    obtain ⟨a,oa,rfl⟩:=HA.out.at (by omega);obtain ⟨b,ob,rfl⟩:=HB.out.at (by omega);have hkr:k < xs.length:=HN.out▸hlt;have hks:k < ys.length:=HM.out▸hlt;have bX:=Lh (jV xs ys k hkr hks);obtain ⟨r,hr⟩:∃ r,xs[k]=r:=⟨_,rfl⟩;obtain ⟨s,hs⟩:∃ s,ys[k]=s:=⟨_,rfl⟩;have h1:=(HA.out.row k hkr).below iT.out;have h2:=(HB.out.row k hks).below iT.out;rw [hr] at h1 bX;rw [hs] at h2 bX;clear hr hs;obtain ⟨g0,g1⟩:=h1;obtain ⟨f0,f1⟩:=h2;have g0':=cell_regrown g0;have g1':=cell_regrown g1;have OT:=cell_regrown f0;have OU:=cell_regrown f1;clear g0 g1 f0 f1;by_cases e0:r.aF=s.aF
    ·
     have q0:(r.aF.toList==s.aF.toList)=true:=beq_iff_eq.2 (by rw [e0]);by_cases e1:r.dG=s.dG
     ·
      have q1:(r.dG==s.dG)=true:=beq_iff_eq.2 e1;have HE:Hid (kg r s=true):=Lh (decide_eq_true ⟨e0,e1⟩);clear e0 e1;go_wp2;refine wp_region_quiet_below (by kernel_rfl) (by kernel_rfl) ?_
      repeat (first | go_big_quiet_step (fail) | quiet_step (fail))
      refine wpQuiet_nil ?_;intro _ hw';obtain ⟨⟨dq,osq⟩,hw''⟩:=hw';subst hw'';have cO:=Lh (aj iT.out (below_regrown wr dq osq));go_wp2;go_roundw
      case rel=>exact ⟨k+1,by omega,by go_num,Lh (by rw [<- HK.out,bX.out,HE.out,Bool.true_and]),cO⟩
      case measure=>simp [intOf];omega
     ·
      have q1:(r.dG==s.dG)=false:=beq_eq_false_iff_ne.2 e1;have HE:Hid (kg r s=false):=Lh (decide_eq_false fun h=>e1 h.2);clear e0 e1;go_wp2;refine wp_region_quiet_below (by kernel_rfl) (by kernel_rfl) ?_
      repeat (first | go_big_quiet_step (fail) | quiet_step (fail))
      refine wpQuiet_nil ?_;intro _ hw';obtain ⟨⟨dq,osq⟩,hw''⟩:=hw';subst hw'';have cO:=Lh (aj iT.out (below_regrown wr dq osq));go_wp2;go_ret;exact ⟨ay (by rw [<- HK.out,bX.out,HE.out,Bool.false_and]),aj HW.out cO.out⟩
    ·
     have q0:(r.aF.toList==s.aF.toList)=false:=beq_eq_false_iff_ne.2 fun h=>e0 (oz (by rw [<- tl,<- tl];exact h))
     have HE:Hid (kg r s=false):=Lh (decide_eq_false fun h=>e0 h.1);clear e0;go_wp2;refine wp_region_quiet_below (by kernel_rfl) (by kernel_rfl) ?_
     repeat (first | go_big_quiet_step (fail) | quiet_step (fail))
     refine wpQuiet_nil ?_;intro _ hw';obtain ⟨⟨dq,osq⟩,hw''⟩:=hw';subst hw'';have cO:=Lh (aj iT.out (below_regrown wr dq osq));go_wp2;go_ret;exact ⟨ay (by rw [<- HK.out,bX.out,HE.out,Bool.false_and]),aj HW.out cO.out⟩
   ·
    obtain rfl:k=n:=by omega
    go_wp2;go_ret;refine ⟨ay ?_,HW.out.trans (iT.out.mono HW.out.size)⟩;rw [<- HK.out,List.drop_eq_nil_of_le (Nat.le_of_eq HN.out.symm),List.drop_eq_nil_of_le (Nat.le_of_eq HM.out.symm)];rfl
 ·
  have HE:=Lh (fU (l:=xs) (m:=ys) (by rw [<- HN.out,<- HM.out];exact hnm));have hne:((n:Int) != (m:Int))=true:=bne_iff_ne.2 (by omega);go_enter Tryz.func82,Tryz.ntmps82;go_wp2;go_ret;exact ⟨ay HE.out.symm,HW.out⟩
end Go.Proofs.YtpfdnemaaeolcaaGreat.Ba
namespace Go.Proofs.YtpfdnemaaeolcaaGreat
open Go.RowKit
open Mem
open Go.Sort (grow)
variable {ps:List Bl.Ps}
theorem Bl.kH (h:k < ps.length):Bl.flat (ps.take (k+1))=Bl.flat (ps.take k)++Po.bE ps[k].tot.au ps[k].tot.parts:=by
 unfold Bl.flat;rw [List.take_succ_eq_append_getElem h,List.flatMap_append,List.flatMap_cons,List.flatMap_nil,List.append_nil]
theorem Bl.aB:∀ {ps:List Bl.Ps},Bl.mJ ps->(Bl.flat ps).length<=25*ps.length
 | [],_=>ac _
 | p::l,h=>by
  have h1:=Bl.aB (ps:=l) fun q hq=>h q (by simp [hq])
  have h2:=Po.kJ p.tot.au p.tot.parts;have h3:=(h p (by simp)).2.few;have e:Bl.flat (p::l)=Po.bE p.tot.au p.tot.parts++Bl.flat l:=rfl;rw [e,ag,List.length_cons];omega
theorem Bl.J3 (h:Bl.mJ ps) (k:Nat):Bl.mJ (ps.take k):=fun p hp=>h p (List.mem_of_mem_take hp)
theorem J4 (ps:List Bl.Ps) (bs:List Ba.T) (rs:List Pd.T) (ao bo:Option Addr) (n cap nb cb:Nat) (w0 w:World) (hw:Below w0.heap.size w0 w) (hL:Pd.Ls w ao n cap rs) (hE:Bl.Each w rs ps) (hB:Ba.Ls w bo nb cb bs) (hR:Bl.mJ ps) (hn:n<=40) :
  Calls Tryz.prog 34 #[.slice ao n cap,.slice bo nb cb] w (Bl.Bb w0 (Bl.zl ps bs)):=by
 have HW:=Lh hw;have HL:=Lh hL;have HN:=Lh hL.len;have HE:=Lh hE;have gV:=Lh hB;have HR:=Lh hR;have hcap:=hL.reach;have hfit:=hL.fits;have hcb:=hB.reach;have OQ:=hB.fits;clear hL hw hE hB hR;go_enter Tryz.func34,Tryz.ntmps34;go_wp2_with fail
 go_loopw [5,7,8,9,14] (fun t _ _ _ j wr=>∃ (k:Nat) (vo:Option Addr) (q vc:Nat),k<=n/\j=.int .i64 k/\t=.slice vo q vc/\Hid (∀ p∈ps.take k,Po.dR p.tot.parts=0)/\Hid (Below w.heap.size w wr)/\Hid (Ba.Own wr w.heap.size (.slice vo q vc) (Bl.flat (ps.take k)))/\Hid (∀ r∈Bl.flat (ps.take k),Ba.Short r)) (fun _ _ _ _ j _=>n - (intOf j).toNat)
 case atStart=>exact ⟨0,none,0,0,by omega,rfl,rfl,Lh (fun _ h=>by cases h),Lh ah,Lh (Ba.aN w _),Lh (fun _ h=>by cases h)⟩
 case round =>
  obtain ⟨k,vo,q,vc,hk,rfl,rfl,HT,HB,HO,JO⟩:=hrel;by_cases hlt:k < n
  ·
   obtain ⟨b,off,rfl⟩:=HL.out.at (by omega);have hkl:k < rs.length:=HN.out▸hlt;have hkp:k < ps.length:=HE.out.len▸hkl;have hrow:=(HL.out.row k hkl).below HB.out;have bT:=Lh (HL.out.short _ (ae hkl));have hI:=HE.out.each k hkl;have vK:=Lh (ae hkp);have HS:=Lh (List.take_succ_eq_append_getElem hkp);have HF:=Lh (Bl.kH hkp);have Eh:=Lh (HR.out _ (ae hkp)).2
   have HFl:Hid ((Bl.flat (ps.take k)).length<=1000):=Lh (by
    have h1:=Bl.aB (Bl.J3 HR.out k);rw [List.length_take] at h1;omega)
   obtain ⟨r,hr⟩:∃ r,rs[k]=r:=⟨_,rfl⟩;obtain ⟨p,hp⟩:∃ p,ps[k]=p:=⟨_,rfl⟩;rw [hr] at hrow hI bT;rw [hp] at hI HS vK HF Eh;clear hr hp;have hA:=Pd.dO wr r;have hbW:=Pd.aC wr r;have dz:=Lh (aj HB.out hbW);have HOW:=Lh (Ba.own_below HO.out hbW);have HI:=Lh (hI.below (aj HB.out hbW));unfold Pd.C at hA;obtain ⟨a0,a1,a2,a3,a4,a5,a6,a7,a8,a9,uh,qb⟩:=hA;have HG:Hid (Fit p.tot.au):=Lh (HI.out.au▸bT.out.2.2.2.2.2.2.2.1)
   have AZ:Hid (Calls Tryz.prog 80 #[.agg #[.int .i64 r.net,.int .i64 r.aP,.int .i64 r.au,.slice r.parts.ao r.parts.n r.parts.cap]] (Pd.box wr r) (RJ (Pd.box wr r) p.tot.au p.tot.parts)):=Lh (by
    rw [HI.out.net,HI.out.aP,HI.out.au];exact pz p.tot.net p.tot.aP p.tot.au p.tot.parts r.parts.ao r.parts.n r.parts.cap (Pd.box wr r) HI.out.parts HG.out (by have h1:=HI.out.parts.len;have h2:=Eh.out.few;omega) Eh.out.small)
   have yB:=Lh (Po.nu HG.out HI.out.parts.short Eh.out.small)
   have ZI:Hid ((Po.bE p.tot.au p.tot.parts).length<=25):=Lh (by
    have h1:=Po.kJ p.tot.au p.tot.parts;have h2:=Eh.out.few;omega)
   clear hI hbW HO;go_wp2_with (first | ((with_reducible apply Pd.aI hrow);rfl;rfl;rfl)|((with_reducible apply Pd.aQ (r:=r) (g:=wr.heap.size));rfl;rfl;rfl;rfl;rfl;rfl));refine AZ.out.mono ?_;rintro e w1 ⟨v,rfl,o1,b1⟩;have HB1:=Lh (aj dz.out b1);have lY:=Lh (Ba.own_below HOW.out b1);clear b1 a0 a1 a2 a3 a4 a5 a6 a7 a8 a9 uh qb hrow AZ;by_cases h0:Po.dR p.tot.parts=0
   ·
    have hRR:Po.qG p.tot.au p.tot.parts=Po.bE p.tot.au p.tot.parts:=ab h0;have Jq:=Lh h0;rw [hRR] at o1 yB;rw [h0];clear hRR h0;obtain ⟨L,hL⟩:∃ L,Po.bE p.tot.au p.tot.parts=L:=⟨_,rfl⟩;rw [hL] at o1 yB ZI HF;clear hL;obtain ⟨lo,lc,rfl,l1,_⟩:=Ba.aX o1 yB.out;have lK:=Lh l1;have lC:=Lh l1.len;obtain ⟨m,hm⟩:∃ m,L.length=m:=⟨_,rfl⟩;rw [hm] at lK lC ZI ⊢;have HM:=Lh hm;clear hm o1 l1;go_wp2_with (at_builtin;go_must (refine Ba.aG _ rfl (.tmp 26) (.tmp 27) rfl w.heap.size (.slice vo q vc) (Bl.flat (ps.take k)) rfl lY.out lo m lc L rfl HM.out.symm lK.out.nil lK.out.seg (by have:=HFl.out;have:=ZI.out;omega) HB1.out.size ?_));intro v2 w2 o2 tu _;have HB2:Hid (Below w.heap.size w w2):=Lh (HB1.out.grown tu HB1.out.size (Ba.bK lY.out));obtain ⟨va,q2,vc2,hv⟩:=jK o2;subst hv;have lX:=Lh o2;clear tu o2;go_wp2_with fail;go_roundw
    case rel =>
     refine ⟨k+1,va,q2,vc2,by omega,by go_num,rfl,Lh ?_,HB2,Lh ?_,Lh ?_⟩
     ·
      rw [HS.out];intro y hy;rcases List.mem_append.1 hy with h | h
      · exact HT.out y h
      ·
       rw [List.mem_singleton.1 h];exact Jq.out
     ·
      rw [HF.out];exact lX.out
     ·
      rw [HF.out];intro y hy;rcases List.mem_append.1 hy with h | h
      · exact JO.out y h
      · exact yB.out y h
    case measure=>simp [intOf];omega
   ·
    have hq:(Po.dR p.tot.parts==0)=false:=beq_eq_false_iff_ne.2 h0;have cK:Hid (¬ Bl.zl ps bs):=Lh fun z=>h0 (z.UK p vK.out)
    obtain ⟨E,hE⟩:∃ E,Po.dR p.tot.parts=E:=⟨_,rfl⟩;rw [hE] at hq ⊢;clear hE h0 o1;go_wp2_with fail;go_ret;exact ⟨.inr ⟨cK.out,rfl⟩,aj HW.out HB1.out⟩
  ·
   obtain rfl:k=n:=by omega
   have e0:ps.take k=ps:=List.take_of_length_le (by rw [HN.out,HE.out.len];exact ac _);rw [e0] at HT HO JO
   have HFl:Hid ((Bl.flat ps).length<=1000):=Lh (by
    have h1:=Bl.aB HR.out;have h2:=HN.out;have h3:=HE.out.len;omega)
   clear e0;obtain ⟨L,hL⟩:∃ L,Bl.flat ps=L:=⟨_,rfl⟩;have HFL:=Lh hL;rw [hL] at HO JO HFl;clear hL;obtain ⟨lo,lc,e,l1,_⟩:=Ba.aX HO.out JO.out;simp only [Value.slice.injEq] at e;obtain ⟨e1,e2,e3⟩:=e;subst e1 e3;rw [<- e2] at l1;have lK:=Lh l1;have HQ:Hid (q<=1000):=Lh (by have:=HFl.out;omega);clear l1 e2;go_wp2_with fail;refine (uE [] L none vo 0 0 q vc wr (Ba.dL _) lK.out (by omega) HQ.out).mono ?_;rintro e w1 ⟨v,rfl,o1,b1⟩;have HB1:=Lh (aj HB.out b1);have HSB:=Lh (Po.uF (fun r (h:r∈([]:List Ba.T))=>by cases h) JO.out);clear b1;by_cases h0:Po.jw [] L=0
   ·
    have hLL:Po.vk [] L=Po.iR L []:=ab h0;have Jq:=Lh h0;rw [h0];rw [hLL] at o1 HSB;clear h0 hLL;obtain ⟨C,hC⟩:∃ C,Po.iR L []=C:=⟨_,rfl⟩;rw [hC] at o1 HSB;have HC:=Lh hC;clear hC;obtain ⟨co,cc,rfl,l2,_⟩:=Ba.aX o1 HSB.out;have HL2:=Lh l2;obtain ⟨m,hm⟩:∃ m,C.length=m:=⟨_,rfl⟩;rw [hm] at HL2 ⊢;clear hm o1 l2;go_wp2_with fail;refine (Ba.wS C bs co bo m nb cc cb w1 w1 ah HL2.out (gV.out.below HB1.out)).mono ?_;rintro e w2 ⟨rfl,b2⟩;have HB2:=Lh (aj HB1.out b2);clear b2;cases hs:Ba.aK C bs
    ·
     have cK:Hid (¬ Bl.zl ps bs):=Lh fun z=>by
      have h:=z.book;rw [HFL.out,HC.out] at h;rw [h,Ba.eO] at hs;cases hs
     clear hs;go_wp2_with fail;go_ret;exact ⟨.inr ⟨cK.out,rfl⟩,aj HW.out HB2.out⟩
    ·
     have iM:Hid (Bl.zl ps bs):=Lh ⟨HT.out,by rw [HFL.out];exact Jq.out,by rw [HFL.out,HC.out];exact (Ba.bM _ _).1 hs⟩;clear hs;go_wp2_with fail;go_ret;exact ⟨.inl ⟨iM.out,rfl⟩,aj HW.out HB2.out⟩
   ·
    have hq:(Po.jw [] L==0)=false:=beq_eq_false_iff_ne.2 h0;have cK:Hid (¬ Bl.zl ps bs):=Lh fun z=>h0 (by have h:=z.jw;rw [HFL.out] at h;exact h)
    obtain ⟨E,hE⟩:∃ E,Po.jw [] L=E:=⟨_,rfl⟩;rw [hE] at hq ⊢;clear hE h0 o1;go_wp2_with fail;go_ret;exact ⟨.inr ⟨cK.out,rfl⟩,aj HW.out HB1.out⟩
open Mem Pk Cm
theorem Bl.Bc (h:k < ps.length) {M:List Ba.T} (hM:Bl.aT (ps.take k) []=some M):Bl.aT (ps.take (k+1)) []=if Po.dR ps[k].tot.parts=0/\Po.jw M (Po.bE ps[k].tot.au ps[k].tot.parts)=0 then some (Po.iR (Po.bE ps[k].tot.au ps[k].tot.parts) M) else none:=by
 rw [List.take_succ_eq_append_getElem h,Bl.lT,hM];show Bl.aT [ps[k]] M=_;rw [Bl.aT];rfl
theorem Bl.tJ (h:Bl.aT (ps.take k) []=none):Bl.aT ps []=none:=by
 conv=>lhs;rw [<- List.take_append_drop k ps]
 rw [Bl.lT,h];rfl
theorem Td (ps:List Bl.Ps) (rs:List Pd.T) (ao:Option Addr) (n cap:Nat) (w:World) (hL:Pd.Ls w ao n cap rs) (hE:Bl.Each w rs ps) (hn:n<=40) (hp:∀ p∈ps,p.tot.parts.length<=12/\∀ x∈p.tot.parts,x.cat.size<=140737488351232) :
  Calls Tryz.prog 59 #[.slice ao n cap] w fun e w'=>((∃ v b,e=.returned (.tuple #[v,.bool true])/\Bl.aT ps []=some b/\Ba.Own w' w.heap.size v b/\∀ r∈b,Ba.Short r)\/(e=.returned (.tuple #[.slice none 0 0,.bool false])/\Bl.aT ps []=none))/\Below w.heap.size w w':=by
 have HL:=Lh hL;have HN:=Lh hL.len;have HE:=Lh hE;have HP:=Lh hp;have hcap:=hL.reach;have hfit:=hL.fits;clear hL hE hp;go_enter Tryz.func59,Tryz.ntmps59;go_wp2_with fail
 go_loopw [4,6,7,8,11] (fun t _ _ _ j wr=>∃ (k:Nat) (vo:Option Addr) (q vc:Nat) (M:List Ba.T),k<=n/\j=.int .i64 k/\t=.slice vo q vc/\Hid (Bl.aT (ps.take k) []=some M)/\Hid (Below w.heap.size w wr)/\Hid (Ba.Own wr w.heap.size (.slice vo q vc) M)/\Hid (∀ r∈M,Ba.Short r)) (fun _ _ _ _ j _=>n - (intOf j).toNat)
 case atStart=>exact ⟨0,none,0,0,[],by omega,rfl,rfl,Lh rfl,Lh ah,Lh (Ba.aN w _),Lh (fun _ h=>by cases h)⟩
 case round =>
  rename World=>wr
  obtain ⟨k,vo,q,vc,M,hk,rfl,rfl,HT,HB,HO,JO⟩:=hrel;by_cases hlt:k < n
  ·
   obtain ⟨b,off,rfl⟩:=HL.out.at (by omega);have hkl:k < rs.length:=HN.out▸hlt;have hkp:k < ps.length:=HE.out.len▸hkl;have hrow:=(HL.out.row k hkl).below HB.out;have bT:=Lh (HL.out.short _ (ae hkl));have hI:=HE.out.each k hkl;have p9:=Lh (Bl.Bc hkp HT.out);have Eh:=Lh (HP.out _ (ae hkp))
   have HMl:Hid (M.length<=1000):=Lh (by
    have h1:=Bl.pG HT.out fun p hp=>(HP.out p (List.mem_of_mem_take hp)).1
    rw [List.length_nil,List.length_take] at h1;omega)
   obtain ⟨r,hr⟩:∃ r,rs[k]=r:=⟨_,rfl⟩;obtain ⟨p,hp⟩:∃ p,ps[k]=p:=⟨_,rfl⟩;rw [hr] at hrow hI bT;rw [hp] at hI p9 Eh;clear hr hp;have hA:=Pd.dO wr r;have hbW:=Pd.aC wr r;have dz:=Lh (aj HB.out hbW);have HOW:=Lh (Ba.own_below HO.out hbW);have HI:=Lh (hI.below (aj HB.out hbW));unfold Pd.C at hA;obtain ⟨a0,a1,a2,a3,a4,a5,a6,a7,a8,a9,uh,qb⟩:=hA;have HG:Hid (Fit p.tot.au):=Lh (HI.out.au▸bT.out.2.2.2.2.2.2.2.1)
   have AZ:Hid (Calls Tryz.prog 80 #[.agg #[.int .i64 r.net,.int .i64 r.aP,.int .i64 r.au,.slice r.parts.ao r.parts.n r.parts.cap]] (Pd.box wr r) (RJ (Pd.box wr r) p.tot.au p.tot.parts)):=Lh (by
    rw [HI.out.net,HI.out.aP,HI.out.au];exact pz p.tot.net p.tot.aP p.tot.au p.tot.parts r.parts.ao r.parts.n r.parts.cap (Pd.box wr r) HI.out.parts HG.out (by have h1:=HI.out.parts.len;have h2:=Eh.out.1;omega) Eh.out.2)
   have yB:=Lh (Po.nu HG.out HI.out.parts.short Eh.out.2)
   have ZI:Hid ((Po.bE p.tot.au p.tot.parts).length<=25):=Lh (by
    have h1:=Po.kJ p.tot.au p.tot.parts;have h2:=Eh.out.1;omega)
   clear hI hbW HO;go_wp2_with (first | ((with_reducible apply Pd.aI hrow);rfl;rfl;rfl)|((with_reducible apply Pd.aQ (r:=r) (g:=wr.heap.size));rfl;rfl;rfl;rfl;rfl;rfl));refine AZ.out.mono ?_;rintro e w1 ⟨v,rfl,o1,b1⟩;have HB1:=Lh (aj dz.out b1);have lY:=Lh (Ba.own_below HOW.out b1);clear b1 a0 a1 a2 a3 a4 a5 a6 a7 a8 a9 uh qb hrow AZ;by_cases h0:Po.dR p.tot.parts=0
   ·
    have hRR:Po.qG p.tot.au p.tot.parts=Po.bE p.tot.au p.tot.parts:=ab h0;have Jq:=Lh h0;rw [hRR] at o1 yB;rw [h0];clear hRR h0;obtain ⟨L,hL⟩:∃ L,Po.bE p.tot.au p.tot.parts=L:=⟨_,rfl⟩;rw [hL] at o1 yB ZI p9;clear hL;obtain ⟨lo,lc,rfl,l1,_⟩:=Ba.aX o1 yB.out;have lK:=Lh l1;obtain ⟨ml,hml⟩:∃ m,L.length=m:=⟨_,rfl⟩;rw [hml] at lK ZI ⊢;obtain ⟨mo,mc,hme,m1,_⟩:=Ba.aX lY.out JO.out;simp only [Value.slice.injEq] at hme;obtain ⟨rfl,hq,rfl⟩:=hme;rw [<- hq] at m1;have HM1:=Lh m1;have HQ:Hid (q<=1000):=Lh (by have:=HMl.out;omega);have nS:=Lh (Po.uF JO.out yB.out);clear hml o1 l1 m1 hq lY;go_wp2_with fail;refine (uE M L vo lo q vc ml lc w1 HM1.out lK.out HQ.out (by have:=ZI.out;omega)).mono ?_;rintro e w2 ⟨v2,rfl,o2,b2⟩;have HB2:=Lh (aj HB1.out b2);clear b2;by_cases h1:Po.jw M L=0
    ·
     have hRR:Po.vk M L=Po.iR L M:=ab h1;have HTs:Hid (Bl.aT (ps.take (k+1)) []=some (Po.iR L M)):=Lh (by rw [p9.out,ab ⟨Jq.out,h1⟩]);rw [hRR] at o2 nS;rw [h1];clear hRR h1;obtain ⟨va,YH,hv⟩:=kG o2;subst hv;have lX:=Lh (Ba.bD o2 HB1.out.size);clear o2;go_wp2_with fail;go_roundw
     case rel=>exact ⟨k+1,_,_,_,_,by omega,by go_num,rfl,HTs,HB2,lX,nS⟩
     case measure=>simp [intOf];omega
    ·
     have qe:(Po.jw M L != 0)=true:=bne_iff_ne.2 h1;have cK:Hid (Bl.aT ps []=none):=Lh (Bl.tJ (k:=k+1) (by rw [p9.out,aa (fun z=>h1 z.2)]));clear h1 o2;go_wp2_with fail;go_ret2;exact ⟨.inr ⟨rfl,cK.out⟩,HB2.out⟩
   ·
    have qe:(Po.dR p.tot.parts != 0)=true:=bne_iff_ne.2 h0;have cK:Hid (Bl.aT ps []=none):=Lh (Bl.tJ (k:=k+1) (by rw [p9.out,aa (fun z=>h0 z.1)]));clear h0 o1;go_wp2_with fail;go_ret2;exact ⟨.inr ⟨rfl,cK.out⟩,HB1.out⟩
  ·
   obtain rfl:k=n:=by omega
   have HF:Hid (Bl.aT ps []=some M):=Lh (by
    rw [<- HT.out,List.take_of_length_le (by rw [<- HE.out.len,HN.out];exact ac _)])
   go_wp2_with fail;go_ret2;exact ⟨.inl ⟨_,M,rfl,HF.out,HO.out,JO.out⟩,HB.out⟩
end Go.Proofs.YtpfdnemaaeolcaaGreat
