import Derived.Maps.AppendAt
import Derived.Laws.AppendOwnNone
import Derived.Laws.Rows
import Derived.Laws.CopyOwn
import Derived.Laws.MakeOwn
import Derived.Lib.QuietBelow
import Derived.RegionTactic
import Derived.Test.YtpfdnemaaeolcaaGreatZIb1
import Derived.Test.YtpfdnemaaeolcaaGreatZIb2
import Derived.Test.YtpfdnemaaeolcaaGreatZIb3
variable {w u X w0:Go.World} {B b g n cap off:Nat} {v:Go.Value} {o:Go.Oper} {a:Go.Act} {Q:Go.Exit->Go.Act->Go.World->Prop} {K:Go.Act->Go.World->Prop} {ops:Array Go.Oper} {rest:List Go.Oper}
set_option maxHeartbeats 8000000
namespace Go.Proofs.YtpfdnemaaeolcaaGreat.Pd
open Go.RowKit
open Mem
structure At (u:World) (b o:Nat) (r:T):Prop where
 c0:u.cell? ⟨b,o,none⟩=some (.string r.av)
 c1:u.cell? ⟨b,o+1,none⟩=some (.int .i64 r.num)
 c2:u.cell? ⟨b,o+2,none⟩=some (.int .i64 r.y)
 c3:u.cell? ⟨b,o+3,none⟩=some (.int .i64 r.m)
 c4:u.cell? ⟨b,o+4,none⟩=some (.int .i64 r.d)
 c5:u.cell? ⟨b,o+5,none⟩=some (.int .i64 r.net)
 c6:u.cell? ⟨b,o+6,none⟩=some (.int .i64 r.aP)
 c7:u.cell? ⟨b,o+7,none⟩=some (.int .i64 r.au)
 c8:u.cell? ⟨b,o+8,none⟩=some (.slice r.parts.ao r.parts.n r.parts.cap)
 c9:u.cell? ⟨b,o+9,none⟩=some (.string r.bf)
 c10:u.cell? ⟨b,o+10,none⟩=some (.int .i64 r.aY)
 c11:u.cell? ⟨b,o+11,none⟩=some (.bool r.back)
theorem At.below {v:World} {o:Nat} {r:T} (h:At u b o r) (k:Below u.heap.size u v):At v b o r:=by
 have hl:=aH h.c0;exact ⟨by rw [(aD k).1 _ _ hl];exact h.c0,by rw [(aD k).1 _ _ hl];exact h.c1,by rw [(aD k).1 _ _ hl];exact h.c2,by rw [(aD k).1 _ _ hl];exact h.c3,by rw [(aD k).1 _ _ hl];exact h.c4,by rw [(aD k).1 _ _ hl];exact h.c5,by rw [(aD k).1 _ _ hl];exact h.c6,by rw [(aD k).1 _ _ hl];exact h.c7,by rw [(aD k).1 _ _ hl];exact h.c8,by rw [(aD k).1 _ _ hl];exact h.c9,by rw [(aD k).1 _ _ hl];exact h.c10,by rw [(aD k).1 _ _ hl];exact h.c11⟩
def Seg (w:World) (ao:Option Addr) (rs:List T):Prop:=rs=[]\/∃ b off,ao=some ⟨b,off,none⟩/\∀ (k:Nat) (hk:k < rs.length),At w b (off+k*12) rs[k]
theorem Seg.below {w v:World} {ao:Option Addr} {rs:List T} (h:Seg w ao rs) (k:Below w.heap.size w v):Seg v ao rs:=by
 rcases h with h | ⟨b,off,e,h⟩
 · exact .inl h
 · exact .inr ⟨b,off,e,fun i hi=>(h i hi).below k⟩
structure Ls (w:World) (ao:Option Addr) (n cap:Nat) (rs:List T):Prop where
 len:n=rs.length
 fits:n<=cap
 reach:cap<=9223372036854775807
 nil:ao=none->cap=0
 seg:Seg w ao rs
 short:∀ r∈rs,Short r
theorem Ls.below {w v:World} {ao:Option Addr} {n cap:Nat} {rs:List T} (h:Ls w ao n cap rs) (k:Below w.heap.size w v):Ls v ao n cap rs :=
 ⟨h.len,h.fits,h.reach,h.nil,h.seg.below k,h.short⟩
theorem Ls.at {w:World} {ao:Option Addr} {n cap:Nat} {rs:List T} (h:Ls w ao n cap rs) (hn:0 < n):∃ b off,ao=some ⟨b,off,none⟩:=by
 rcases h.seg with e | ⟨b,off,e,_⟩
 ·
  have:=h.len;rw [e] at this;simp at this;omega
 · exact ⟨b,off,e⟩
variable {rs:List T}
theorem Ls.row (h:Ls w (some ⟨b,off,none⟩) n cap rs) (k:Nat) (hk:k < rs.length):At w b (off+k*12) rs[k]:=by
 rcases h.seg with e | ⟨b',off',e,hs⟩
 ·
  subst e;simp at hk
 ·
  cases e
  exact hs k hk
theorem dL (w:World):Ls w none 0 0 []:=⟨rfl,Nat.le_refl _,by omega,fun _=>rfl,.inl rfl,by simp⟩
theorem und:Tryz.prog.underlying 26=some (.slice (Tryz.prog.elem 26)):=by kernel_rfl
theorem size (u:World):(sizeOf (Tryz.prog.elem 26)).run Tryz.prog u=.ok 12 u:=by
 have h:(Tryz.prog.info? (Tryz.prog.elem 26)).map (·.size)=some 12:=by kernel_rfl
 obtain ⟨i,hi,hs⟩:=Option.map_eq_some_iff.1 h;simp [sizeOf,typeInfo,hi,hs]
theorem Ls.to {ao:Option Addr} (h:Ls w ao n cap rs) (k:Nat) (hk:k<=n) :
  (∀ u,(Instr.slice 26 (.slice ao n cap) none (some (.int .i64 (k:Int))) none).run Tryz.prog u=.ok (.slice ao k cap) u)/\Ls w ao k cap (rs.take k):=by
 have hl:=h.len;have hf:=h.fits;refine ⟨fun u=>?_,⟨by rw [List.length_take];omega,by omega,h.reach,h.nil,?_,fun r hr=>h.short r (List.mem_of_mem_take hr)⟩⟩
 ·
  rw [run_slice_h u 26 ao n cap und .i64 k (by omega) (by omega),size];have e:Option.map (fun x:Addr=>x.add 0) ao=ao:=by cases ao <;> simp [Addr.add]
  simp [Result.andThen,sliced,e]
 ·
  rcases h.seg with e | ⟨b,off,e,hc⟩
  · exact .inl (by rw [e];simp)
  ·
   refine .inr ⟨b,off,e,fun j hj=>?_⟩;rw [List.length_take] at hj;rw [List.getElem_take];exact hc j (by omega)
theorem Ls.from {ao:Option Addr} (h:Ls w ao n cap rs) (k:Nat) (hk:k<=n) :
  ∃ mO cap2,(∀ u,(Instr.slice 26 (.slice ao n cap) (some (.int .i64 (k:Int))) none none).run Tryz.prog u=.ok (.slice mO (n - k) cap2) u)/\Ls w mO (n - k) cap2 (rs.drop k):=by
 have hl:=h.len;have hf:=h.fits;refine ⟨if cap=k then ao else ao.map (·.add (k*12)),cap - k,fun u=>?_,⟨by rw [List.length_drop];omega,by omega,by have:=h.reach;omega,?_,?_,fun r hr=>h.short r (List.mem_of_mem_drop hr)⟩⟩
 ·
  rw [run_slice_l u 26 ao n cap und .i64 k (by omega) (by omega),size];simp [Result.andThen,sliced]
 ·
  by_cases e:cap=k
  · omega
  ·
   rw [if_neg e];cases ao with
   | none=>have:=h.nil rfl;omega
   | some a=>exact fun k=>by cases k
 ·
  by_cases hkn:k=n
  · exact .inl (List.drop_eq_nil_of_le (by omega))
  ·
   rcases h.seg with e | ⟨b,off,rfl,hc⟩
   · exact .inl (by rw [e];simp)
   ·
    refine .inr ⟨b,off+k*12,?_,fun j hj=>?_⟩
    ·
     rw [if_neg (by omega)];unfold Addr.add;simp only [Option.map_some,Option.some.injEq];split
     ·
      rename_i e;rw [e];rfl
     · rfl
    ·
     rw [List.length_drop] at hj;rw [List.getElem_drop,show off+k*12+j*12=off+(k+j)*12 by omega];exact hc (k+j) (by omega)
def rv (r:T):List Value:=[.string r.av,.int .i64 r.num,.int .i64 r.y,.int .i64 r.m,.int .i64 r.d,.int .i64 r.net,.int .i64 r.aP,.int .i64 r.au,.slice r.parts.ao r.parts.n r.parts.cap,.string r.bf,.int .i64 r.aY,.bool r.back]
theorem aM (r:T):(rv r).length=12:=rfl
theorem aB:∀ rs:List T,(rs.flatMap rv).length=rs.length*12
 | []=>rfl
 | r::l=>by
  rw [List.flatMap_cons,List.length_append,aM,aB l,List.length_cons];omega
theorem aS:∀ (rs:List T) (k p:Nat) (hk:k < rs.length),p < 12->(rs.flatMap rv)[k*12+p]? =(rv rs[k])[p]?
 | r::l,0,p,_,hp=>by
  rw [List.flatMap_cons,List.getElem?_append_left (by rw [aM];omega),Nat.zero_mul,Nat.zero_add];rfl
 | r::l,k+1,p,hk,hp=>by
  rw [List.flatMap_cons,List.getElem?_append_right (by rw [aM];omega),aM,show (k+1)*12+p - 12=k*12+p by omega];exact aS l k p (by simpa using hk) hp
theorem one_cell (rs:List T):∀ v∈rs.flatMap rv,v.oneCell'=true:=by
 intro v hv;obtain ⟨r,_,h⟩:=List.mem_flatMap.1 hv;unfold rv at h;simp only [List.mem_cons,List.not_mem_nil,or_false] at h;rcases h with rfl | rfl | rfl | rfl | rfl | rfl | rfl | rfl | rfl | rfl | rfl | rfl <;> rfl
theorem dA (h:∀ (k:Nat) (hk:k < rs.length),At w b (off+k*12) rs[k]) (j:Nat) (u:Value) (hu:(rs.flatMap rv)[j]? =some u):w.cell? ((⟨b,off,none⟩:Addr).add j)=some u:=by
 have hj:j < (rs.flatMap rv).length:=by
  obtain ⟨hj,_⟩:=List.getElem?_eq_some_iff.1 hu;exact hj
 rw [aB] at hj;obtain ⟨k,p,rfl,hp⟩:∃ k p,j=k*12+p/\p < 12:=⟨j / 12,j % 12,by omega,by omega⟩;have hk:k < rs.length:=by omega
 rw [aS rs k p hk hp] at hu
 have ha:(⟨b,off,none⟩:Addr).add (k*12+p)=⟨b,off+k*12+p,none⟩:=by
  unfold Addr.add;split
  ·
   rename_i e;simp only [Addr.mk.injEq,true_and,and_true];omega
  ·
   simp only [Addr.mk.injEq,true_and,and_true];omega
 rw [ha];obtain ⟨c0,c1,c2,c3,c4,c5,c6,c7,c8,c9,c10,c11⟩:=h k hk;have hp':p=0\/p=1\/p=2\/p=3\/p=4\/p=5\/p=6\/p=7\/p=8\/p=9\/p=10\/p=11:=by omega
 unfold rv at hu;rcases hp' with rfl | rfl | rfl | rfl | rfl | rfl | rfl | rfl | rfl | rfl | rfl | rfl
 all_goals simp at hu
 all_goals subst hu
 · exact c0
 · exact c1
 · exact c2
 · exact c3
 · exact c4
 · exact c5
 · exact c6
 · exact c7
 · exact c8
 · exact c9
 · exact c10
 · exact c11
def Own (w:World) (B:Nat) (v:Value) (xs:List T):Prop:=w.ownsRow B 104 12 v xs.length (xs.flatMap rv)
theorem aN (w:World) (B:Nat):Own w B (.slice none 0 0) []:=⟨rfl,.inl ⟨rfl,rfl⟩⟩
variable {xs:List T}
theorem aX (h:Own w B v xs) (hs:∀ r∈xs,Short r):∃ ao cap,v=.slice ao xs.length cap/\Ls w ao xs.length cap xs/\(∀ ad,ao=some ad->∃ g,ad=⟨g,0,none⟩/\B<=g):=by
 rcases h.2 with ⟨h',h2⟩ | ⟨g,cap,cur,h',hb,hg,hnc,hcm,hcs,htake⟩
 ·
  have e:xs=[]:=List.length_eq_zero_iff.1 h2;subst e;exact ⟨none,0,h',⟨rfl,Nat.le_refl _,by omega,fun _=>rfl,.inl rfl,hs⟩,fun ad k=>by cases k⟩
 ·
  refine ⟨some ⟨g,0,none⟩,cap,h',⟨rfl,hnc,hcm,fun k=>(by cases k),.inr ⟨g,0,rfl,fun k hk=>?_⟩,hs⟩,fun ad k=>by cases k;exact ⟨g,rfl,hb⟩⟩
  have hcell:∀ p,p < 12->w.cell? ⟨g,0+k*12+p,none⟩=(rv xs[k])[p]? :=by
   intro p hp;rw [Nat.zero_add,cell_of_row w g _ _ _ _ hg,<- aS xs k p hk hp,<- htake,List.getElem?_take_of_lt (by omega)]
   simp
  exact ⟨hcell 0 (by omega),hcell 1 (by omega),hcell 2 (by omega),hcell 3 (by omega),hcell 4 (by omega),hcell 5 (by omega),hcell 6 (by omega),hcell 7 (by omega),hcell 8 (by omega),hcell 9 (by omega),hcell 10 (by omega),hcell 11 (by omega)⟩
def zero:T:=⟨.empty,0,0,0,0,0,0,0,⟨none,0,0⟩,.empty,0,false⟩
def zeroV:Value:=.agg #[.string .empty,.int .i64 0,.int .i64 0,.int .i64 0,.int .i64 0,.int .i64 0,.int .i64 0,.int .i64 0,.slice none 0 0,.string .empty,.int .i64 0,.bool false]
theorem info:(Tryz.prog.info? 104).map (fun i=>(i.zero,i.size,i.bytes))=some (some zeroV,12,128):=by kernel_rfl
theorem eG (w:World) (s x:Operand)
  (ho:o.op=.call { callee:=.builtin .append,args:=#[s,x],argTypes:=#[26,26] })
  (B:Nat) (v:Value) (xs:List T) (hs:a.eval s=v) (hown:Own w B v xs)
  (ao:Option Addr) (n cap:Nat) (zs:List T) (hx:a.eval x=.slice ao n cap) (hn:n=zs.length) (hnil:ao=none->cap=0) (hsrc:Seg w ao zs) (hl:(xs.length+n)*128<=140737488355328) (hb:B<=w.heap.size)
  (h:∀ v' w1,Own w1 B v' (xs++zs)->w.grownBy w1 v.ownBlock->(v'.ownBlock=v.ownBlock\/v'.ownBlock=some w.heap.size)->K (a.put o.dst v') w1):o.wp Tryz.prog a w K Q:=by
 have hzs:zeroV.cells.size=12:=rfl;obtain ⟨i0,hi,hz0,hz1,hz2⟩:=info_parts info;have hmx:maxLen=9223372036854775807:=rfl
 have empty:zs=[]->n=0->Own w B v (xs++zs):=by
  intro e _;rw [e,List.append_nil];exact hown
 cases ao with
 | none =>
  obtain rfl:cap=0:=hnil rfl;rcases hsrc with e | ⟨b,off,e,_⟩
  ·
   obtain rfl:n=0:=by rw [hn,e];rfl
   have hrun:=run_append_owned_none (P:=Tryz.prog) (w:=w) B 26 o.type 104 i0 12 Tryz.underlying26 hi v _ _ hown;unfold Oper.wp;simp [execOp,ho,resolve,invoke,builtin,hs,hx,hrun,Result.andThen];exact h v w (empty e rfl) ⟨rfl,rfl,rfl,Nat.le_refl _,fun _ _ _=>rfl⟩ (.inl rfl)
  · cases e
 | some ad =>
  obtain ⟨v',w',hr,h2,h3,_,h5⟩:=run_append_own_at (P:=Tryz.prog) w B 26 o.type 104 i0 zeroV 12 128 Tryz.underlying26 hi hz0 hz1 hz2 hzs (by omega) v xs.length (xs.flatMap rv) hown ad n cap (zs.flatMap rv) (by rw [aB,hn]) (by
   rcases hsrc with e | ⟨b,off,e,hc⟩
   ·
    rw [e];intro j u hu;simp at hu
   ·
    cases e
    exact fun j u hu=>dA hc j u hu) (one_cell zs) (by omega) hl hb
  unfold Oper.wp execOp;simp only [ho,resolve,invoke,builtin,Sem.run_bind,Sem.run_pure,Result.andThen_ok,List.map_toArray,List.map_cons,List.map_nil,hs,hx,hr];refine h v' w' ?_ h3 h5;unfold Own;rw [List.flatMap_append,List.length_append,<- hn];exact h2
theorem aG (w:World) (hgd:o.guard=none) (s x:Operand)
  (ho:o.op=.call { callee:=.builtin .append,args:=#[s,x],argTypes:=#[26,26] })
  (B:Nat) (v:Value) (xs:List T) (hs:a.eval s=v) (hown:Own w B v xs)
  (ao:Option Addr) (n cap:Nat) (zs:List T) (hx:a.eval x=.slice ao n cap) (hn:n=zs.length) (hnil:ao=none->cap=0) (hsrc:Seg w ao zs) (hl:(xs.length+n)*128<=140737488355328) (hb:B<=w.heap.size)
  (h:∀ v' w1,Own w1 B v' (xs++zs)->w.grownBy w1 v.ownBlock->(v'.ownBlock=v.ownBlock\/v'.ownBlock=some w.heap.size)->wpList Tryz.prog ops Q rest (a.put o.dst v') w1):wpList Tryz.prog ops Q (o::rest) a w :=
 wpList_plain hgd fun _ hK=>eG w s x ho B v xs hs hown ao n cap zs hx hn hnil hsrc hl hb fun v' w1 h1 h2 h3=>hK _ _ (h v' w1 h1 h2 h3)
theorem bK (h:Own w B v xs):∀ k,v.ownBlock=some k->B<=k:=by
 intro k hk;rcases h.2 with ⟨h',_⟩ | ⟨g,cap,cur,h',hb,_⟩
 ·
  rw [h'] at hk;cases hk
 ·
  rw [h'] at hk;simp only [Value.ownBlock,Option.some.injEq] at hk;omega
theorem bD {C:Nat} (h:Own w B v xs) (hc:C<=B):Own w C v xs:=by
 obtain ⟨h1,h2⟩:=h;refine ⟨h1,?_⟩;rcases h2 with h2 | ⟨g,cap,cur,h',hb,h3⟩
 · exact .inl h2
 · exact .inr ⟨g,cap,cur,h',by omega,h3⟩
theorem bA (h:Own w B v xs) (o:Obj):Own (w.alloc o) B v xs:=World.ownsRow.alloc h o
theorem own_below (h:Own w B v xs) (k:Below w.heap.size w u):Own u B v xs:=by
 obtain ⟨h1,h2⟩:=h;refine ⟨h1,?_⟩;rcases h2 with h2 | ⟨g,cap,cur,h',hb,hg,h3⟩
 · exact .inl h2
 ·
  refine .inr ⟨g,cap,cur,h',hb,?_,h3⟩
  have hl:g < w.heap.size:=by
   obtain ⟨hl,_⟩:=Array.getElem?_eq_some_iff.1 hg;exact hl
  rw [k.block g hl];exact hg
def block (r:T):Obj:=.cells #[.string r.av,.int .i64 r.num,.int .i64 r.y,.int .i64 r.m,.int .i64 r.d,.int .i64 r.net,.int .i64 r.aP,.int .i64 r.au,.slice r.parts.ao r.parts.n r.parts.cap,.string r.bf,.int .i64 r.aY,.bool r.back] 104 (0,0)
theorem bB {r:T} (h:X.heap[g]? =some (block r)):Seg X (some ⟨g,0,none⟩) [r]:=by
 refine .inr ⟨g,0,rfl,fun k hk=>?_⟩;obtain rfl:k=0:=by simpa using hk
 unfold block at h;refine ⟨?_,?_,?_,?_,?_,?_,?_,?_,?_,?_,?_,?_⟩
 all_goals rw [cell_of_row X g _ _ _ _ h]
 all_goals rfl
end Go.Proofs.YtpfdnemaaeolcaaGreat.Pd
namespace Go.Proofs.YtpfdnemaaeolcaaGreat.Ca
open Go.RowKit
open Mem
structure T where
 ak:Int
 seq:Int
 kind:Int
 av:ByteArray
 lim:Int
 cat:ByteArray
 ry:Int
 rm:Int
 rd:Int
 bp:Int
 y:Int
 m:Int
 d:Int
 lines:Sl
 bf:ByteArray
 aY:Int
 fF:Int
def val (r:T):Value:=.agg #[.int .i64 r.ak,.int .i64 r.seq,.int .i64 r.kind,.string r.av,.int .i64 r.lim,.string r.cat,.int .i64 r.ry,.int .i64 r.rm,.int .i64 r.rd,.int .i64 r.bp,.int .i64 r.y,.int .i64 r.m,.int .i64 r.d,.slice r.lines.ao r.lines.n r.lines.cap,.string r.bf,.int .i64 r.aY,.int .i64 r.fF]
def Short (r:T):Prop:=Fit r.ak/\Fit r.seq/\Fit r.kind/\r.av.size<=140737488355328/\Fit r.lim/\r.cat.size<=140737488355328/\Fit r.ry/\Fit r.rm/\Fit r.rd/\Fit r.bp/\Fit r.y/\Fit r.m/\Fit r.d/\r.bf.size<=140737488355328/\Fit r.aY/\Fit r.fF
def box (w:World) (r:T):World:=w.alloc (.cells #[.int .i64 r.ak,.int .i64 r.seq,.int .i64 r.kind,.string r.av,.int .i64 r.lim,.string r.cat,.int .i64 r.ry,.int .i64 r.rm,.int .i64 r.rd,.int .i64 r.bp,.int .i64 r.y,.int .i64 r.m,.int .i64 r.d,.slice r.lines.ao r.lines.n r.lines.cap,.string r.bf,.int .i64 r.aY,.int .i64 r.fF] 59)
def C (u:World) (b:Nat) (r:T):Prop :=
 u.cell? ⟨b,0,none⟩=some (.int .i64 r.ak)/\u.cell? ⟨b,1,none⟩=some (.int .i64 r.seq)/\u.cell? ⟨b,2,none⟩=some (.int .i64 r.kind)/\u.cell? ⟨b,3,none⟩=some (.string r.av)/\u.cell? ⟨b,4,none⟩=some (.int .i64 r.lim)/\u.cell? ⟨b,5,none⟩=some (.string r.cat)/\u.cell? ⟨b,6,none⟩=some (.int .i64 r.ry)/\u.cell? ⟨b,7,none⟩=some (.int .i64 r.rm)/\u.cell? ⟨b,8,none⟩=some (.int .i64 r.rd)/\u.cell? ⟨b,9,none⟩=some (.int .i64 r.bp)/\u.cell? ⟨b,10,none⟩=some (.int .i64 r.y)/\u.cell? ⟨b,11,none⟩=some (.int .i64 r.m)/\u.cell? ⟨b,12,none⟩=some (.int .i64 r.d)/\u.cell? ⟨b,13,none⟩=some (.slice r.lines.ao r.lines.n r.lines.cap)/\u.cell? ⟨b,14,none⟩=some (.string r.bf)/\u.cell? ⟨b,15,none⟩=some (.int .i64 r.aY)/\u.cell? ⟨b,16,none⟩=some (.int .i64 r.fF)
theorem dO (w:World) (r:T):C (box w r) w.heap.size r:=by
 unfold box C;simp [go_sem]
theorem aC (w:World) (r:T):Below w.heap.size w (box w r):=(Below.refl _ _).alloc (Nat.le_refl _) _
structure At (u:World) (b o:Nat) (r:T):Prop where
 c0:u.cell? ⟨b,o,none⟩=some (.int .i64 r.ak)
 c1:u.cell? ⟨b,o+1,none⟩=some (.int .i64 r.seq)
 c2:u.cell? ⟨b,o+2,none⟩=some (.int .i64 r.kind)
 c3:u.cell? ⟨b,o+3,none⟩=some (.string r.av)
 c4:u.cell? ⟨b,o+4,none⟩=some (.int .i64 r.lim)
 c5:u.cell? ⟨b,o+5,none⟩=some (.string r.cat)
 c6:u.cell? ⟨b,o+6,none⟩=some (.int .i64 r.ry)
 c7:u.cell? ⟨b,o+7,none⟩=some (.int .i64 r.rm)
 c8:u.cell? ⟨b,o+8,none⟩=some (.int .i64 r.rd)
 c9:u.cell? ⟨b,o+9,none⟩=some (.int .i64 r.bp)
 c10:u.cell? ⟨b,o+10,none⟩=some (.int .i64 r.y)
 c11:u.cell? ⟨b,o+11,none⟩=some (.int .i64 r.m)
 c12:u.cell? ⟨b,o+12,none⟩=some (.int .i64 r.d)
 c13:u.cell? ⟨b,o+13,none⟩=some (.slice r.lines.ao r.lines.n r.lines.cap)
 c14:u.cell? ⟨b,o+14,none⟩=some (.string r.bf)
 c15:u.cell? ⟨b,o+15,none⟩=some (.int .i64 r.aY)
 c16:u.cell? ⟨b,o+16,none⟩=some (.int .i64 r.fF)
theorem At.below {v:World} {o:Nat} {r:T} (h:At u b o r) (k:Below u.heap.size u v):At v b o r:=by
 have hl:=aH h.c0;exact ⟨by rw [(aD k).1 _ _ hl];exact h.c0,by rw [(aD k).1 _ _ hl];exact h.c1,by rw [(aD k).1 _ _ hl];exact h.c2,by rw [(aD k).1 _ _ hl];exact h.c3,by rw [(aD k).1 _ _ hl];exact h.c4,by rw [(aD k).1 _ _ hl];exact h.c5,by rw [(aD k).1 _ _ hl];exact h.c6,by rw [(aD k).1 _ _ hl];exact h.c7,by rw [(aD k).1 _ _ hl];exact h.c8,by rw [(aD k).1 _ _ hl];exact h.c9,by rw [(aD k).1 _ _ hl];exact h.c10,by rw [(aD k).1 _ _ hl];exact h.c11,by rw [(aD k).1 _ _ hl];exact h.c12,by rw [(aD k).1 _ _ hl];exact h.c13,by rw [(aD k).1 _ _ hl];exact h.c14,by rw [(aD k).1 _ _ hl];exact h.c15,by rw [(aD k).1 _ _ hl];exact h.c16⟩
def Seg (w:World) (ao:Option Addr) (rs:List T):Prop:=rs=[]\/∃ b off,ao=some ⟨b,off,none⟩/\∀ (k:Nat) (hk:k < rs.length),At w b (off+k*17) rs[k]
theorem Seg.below {w v:World} {ao:Option Addr} {rs:List T} (h:Seg w ao rs) (k:Below w.heap.size w v):Seg v ao rs:=by
 rcases h with h | ⟨b,off,e,h⟩
 · exact .inl h
 · exact .inr ⟨b,off,e,fun i hi=>(h i hi).below k⟩
structure Ls (w:World) (ao:Option Addr) (n cap:Nat) (rs:List T):Prop where
 len:n=rs.length
 fits:n<=cap
 reach:cap<=9223372036854775807
 nil:ao=none->cap=0
 seg:Seg w ao rs
 short:∀ r∈rs,Short r
theorem Ls.below {w v:World} {ao:Option Addr} {n cap:Nat} {rs:List T} (h:Ls w ao n cap rs) (k:Below w.heap.size w v):Ls v ao n cap rs :=
 ⟨h.len,h.fits,h.reach,h.nil,h.seg.below k,h.short⟩
theorem Ls.at {w:World} {ao:Option Addr} {n cap:Nat} {rs:List T} (h:Ls w ao n cap rs) (hn:0 < n):∃ b off,ao=some ⟨b,off,none⟩:=by
 rcases h.seg with e | ⟨b,off,e,_⟩
 ·
  have:=h.len;rw [e] at this;simp at this;omega
 · exact ⟨b,off,e⟩
theorem Ls.row {rs:List T} (h:Ls w (some ⟨b,off,none⟩) n cap rs) (k:Nat) (hk:k < rs.length):At w b (off+k*17) rs[k]:=by
 rcases h.seg with e | ⟨b',off',e,hs⟩
 ·
  subst e;simp at hk
 ·
  cases e
  exact hs k hk
theorem dL (w:World):Ls w none 0 0 []:=⟨rfl,Nat.le_refl _,by omega,fun _=>rfl,.inl rfl,by simp⟩
def rv (r:T):List Value:=[.int .i64 r.ak,.int .i64 r.seq,.int .i64 r.kind,.string r.av,.int .i64 r.lim,.string r.cat,.int .i64 r.ry,.int .i64 r.rm,.int .i64 r.rd,.int .i64 r.bp,.int .i64 r.y,.int .i64 r.m,.int .i64 r.d,.slice r.lines.ao r.lines.n r.lines.cap,.string r.bf,.int .i64 r.aY,.int .i64 r.fF]
theorem aM (r:T):(rv r).length=17:=rfl
theorem aB:∀ rs:List T,(rs.flatMap rv).length=rs.length*17
 | []=>rfl
 | r::l=>by
  rw [List.flatMap_cons,List.length_append,aM,aB l,List.length_cons];omega
theorem aS:∀ (rs:List T) (k p:Nat) (hk:k < rs.length),p < 17->(rs.flatMap rv)[k*17+p]? =(rv rs[k])[p]?
 | r::l,0,p,_,hp=>by
  rw [List.flatMap_cons,List.getElem?_append_left (by rw [aM];omega),Nat.zero_mul,Nat.zero_add];rfl
 | r::l,k+1,p,hk,hp=>by
  rw [List.flatMap_cons,List.getElem?_append_right (by rw [aM];omega),aM,show (k+1)*17+p - 17=k*17+p by omega];exact aS l k p (by simpa using hk) hp
theorem one_cell (rs:List T):∀ v∈rs.flatMap rv,v.oneCell'=true:=by
 intro v hv;obtain ⟨r,_,h⟩:=List.mem_flatMap.1 hv;unfold rv at h;simp only [List.mem_cons,List.not_mem_nil,or_false] at h;rcases h with rfl | rfl | rfl | rfl | rfl | rfl | rfl | rfl | rfl | rfl | rfl | rfl | rfl | rfl | rfl | rfl | rfl <;> rfl
theorem dA {rs:List T} (h:∀ (k:Nat) (hk:k < rs.length),At w b (off+k*17) rs[k]) (j:Nat) (u:Value) (hu:(rs.flatMap rv)[j]? =some u):w.cell? ((⟨b,off,none⟩:Addr).add j)=some u:=by
 have hj:j < (rs.flatMap rv).length:=by
  obtain ⟨hj,_⟩:=List.getElem?_eq_some_iff.1 hu;exact hj
 rw [aB] at hj;obtain ⟨k,p,rfl,hp⟩:∃ k p,j=k*17+p/\p < 17:=⟨j / 17,j % 17,by omega,by omega⟩;have hk:k < rs.length:=by omega
 rw [aS rs k p hk hp] at hu
 have ha:(⟨b,off,none⟩:Addr).add (k*17+p)=⟨b,off+k*17+p,none⟩:=by
  unfold Addr.add;split
  ·
   rename_i e;simp only [Addr.mk.injEq,true_and,and_true];omega
  ·
   simp only [Addr.mk.injEq,true_and,and_true];omega
 rw [ha];obtain ⟨c0,c1,c2,c3,c4,c5,c6,c7,c8,c9,c10,c11,c12,c13,c14,c15,c16⟩:=h k hk;have hp':p=0\/p=1\/p=2\/p=3\/p=4\/p=5\/p=6\/p=7\/p=8\/p=9\/p=10\/p=11\/p=12\/p=13\/p=14\/p=15\/p=16:=by omega
 unfold rv at hu;rcases hp' with rfl | rfl | rfl | rfl | rfl | rfl | rfl | rfl | rfl | rfl | rfl | rfl | rfl | rfl | rfl | rfl | rfl
 all_goals simp at hu
 all_goals subst hu
 · exact c0
 · exact c1
 · exact c2
 · exact c3
 · exact c4
 · exact c5
 · exact c6
 · exact c7
 · exact c8
 · exact c9
 · exact c10
 · exact c11
 · exact c12
 · exact c13
 · exact c14
 · exact c15
 · exact c16
def Own (w:World) (B:Nat) (v:Value) (xs:List T):Prop:=w.ownsRow B 59 17 v xs.length (xs.flatMap rv)
theorem aN (w:World) (B:Nat):Own w B (.slice none 0 0) []:=⟨rfl,.inl ⟨rfl,rfl⟩⟩
variable {xs:List T}
theorem aX (h:Own w B v xs) (hs:∀ r∈xs,Short r):∃ ao cap,v=.slice ao xs.length cap/\Ls w ao xs.length cap xs/\(∀ ad,ao=some ad->∃ g,ad=⟨g,0,none⟩/\B<=g):=by
 rcases h.2 with ⟨h',h2⟩ | ⟨g,cap,cur,h',hb,hg,hnc,hcm,hcs,htake⟩
 ·
  have e:xs=[]:=List.length_eq_zero_iff.1 h2;subst e;exact ⟨none,0,h',⟨rfl,Nat.le_refl _,by omega,fun _=>rfl,.inl rfl,hs⟩,fun ad k=>by cases k⟩
 ·
  refine ⟨some ⟨g,0,none⟩,cap,h',⟨rfl,hnc,hcm,fun k=>(by cases k),.inr ⟨g,0,rfl,fun k hk=>?_⟩,hs⟩,fun ad k=>by cases k;exact ⟨g,rfl,hb⟩⟩
  have hcell:∀ p,p < 17->w.cell? ⟨g,0+k*17+p,none⟩=(rv xs[k])[p]? :=by
   intro p hp;rw [Nat.zero_add,cell_of_row w g _ _ _ _ hg,<- aS xs k p hk hp,<- htake,List.getElem?_take_of_lt (by omega)]
   simp
  exact ⟨hcell 0 (by omega),hcell 1 (by omega),hcell 2 (by omega),hcell 3 (by omega),hcell 4 (by omega),hcell 5 (by omega),hcell 6 (by omega),hcell 7 (by omega),hcell 8 (by omega),hcell 9 (by omega),hcell 10 (by omega),hcell 11 (by omega),hcell 12 (by omega),hcell 13 (by omega),hcell 14 (by omega),hcell 15 (by omega),hcell 16 (by omega)⟩
def zero:T:=⟨0,0,0,.empty,0,.empty,0,0,0,0,0,0,0,⟨none,0,0⟩,.empty,0,0⟩
def zeroV:Value:=.agg #[.int .i64 0,.int .i64 0,.int .i64 0,.string .empty,.int .i64 0,.string .empty,.int .i64 0,.int .i64 0,.int .i64 0,.int .i64 0,.int .i64 0,.int .i64 0,.int .i64 0,.slice none 0 0,.string .empty,.int .i64 0,.int .i64 0]
theorem info:(Tryz.prog.info? 59).map (fun i=>(i.zero,i.size,i.bytes))=some (some zeroV,17,176):=by kernel_rfl
theorem eG (w:World) (s x:Operand)
  (ho:o.op=.call { callee:=.builtin .append,args:=#[s,x],argTypes:=#[22,22] })
  (B:Nat) (v:Value) (xs:List T) (hs:a.eval s=v) (hown:Own w B v xs)
  (ao:Option Addr) (n cap:Nat) (zs:List T) (hx:a.eval x=.slice ao n cap) (hn:n=zs.length) (hnil:ao=none->cap=0) (hsrc:Seg w ao zs) (hl:(xs.length+n)*176<=140737488355328) (hb:B<=w.heap.size)
  (h:∀ v' w1,Own w1 B v' (xs++zs)->w.grownBy w1 v.ownBlock->(v'.ownBlock=v.ownBlock\/v'.ownBlock=some w.heap.size)->K (a.put o.dst v') w1):o.wp Tryz.prog a w K Q:=by
 have hzs:zeroV.cells.size=17:=rfl;obtain ⟨i0,hi,hz0,hz1,hz2⟩:=info_parts info;have hmx:maxLen=9223372036854775807:=rfl
 have empty:zs=[]->n=0->Own w B v (xs++zs):=by
  intro e _;rw [e,List.append_nil];exact hown
 cases ao with
 | none =>
  obtain rfl:cap=0:=hnil rfl;rcases hsrc with e | ⟨b,off,e,_⟩
  ·
   obtain rfl:n=0:=by rw [hn,e];rfl
   have hrun:=run_append_owned_none (P:=Tryz.prog) (w:=w) B 22 o.type 59 i0 17 Tryz.underlying22 hi v _ _ hown;unfold Oper.wp;simp [execOp,ho,resolve,invoke,builtin,hs,hx,hrun,Result.andThen];exact h v w (empty e rfl) ⟨rfl,rfl,rfl,Nat.le_refl _,fun _ _ _=>rfl⟩ (.inl rfl)
  · cases e
 | some ad =>
  obtain ⟨v',w',hr,h2,h3,_,h5⟩:=run_append_own_at (P:=Tryz.prog) w B 22 o.type 59 i0 zeroV 17 176 Tryz.underlying22 hi hz0 hz1 hz2 hzs (by omega) v xs.length (xs.flatMap rv) hown ad n cap (zs.flatMap rv) (by rw [aB,hn]) (by
   rcases hsrc with e | ⟨b,off,e,hc⟩
   ·
    rw [e];intro j u hu;simp at hu
   ·
    cases e
    exact fun j u hu=>dA hc j u hu) (one_cell zs) (by omega) hl hb
  unfold Oper.wp execOp;simp only [ho,resolve,invoke,builtin,Sem.run_bind,Sem.run_pure,Result.andThen_ok,List.map_toArray,List.map_cons,List.map_nil,hs,hx,hr];refine h v' w' ?_ h3 h5;unfold Own;rw [List.flatMap_append,List.length_append,<- hn];exact h2
theorem aG (w:World) (hgd:o.guard=none) (s x:Operand)
  (ho:o.op=.call { callee:=.builtin .append,args:=#[s,x],argTypes:=#[22,22] })
  (B:Nat) (v:Value) (xs:List T) (hs:a.eval s=v) (hown:Own w B v xs)
  (ao:Option Addr) (n cap:Nat) (zs:List T) (hx:a.eval x=.slice ao n cap) (hn:n=zs.length) (hnil:ao=none->cap=0) (hsrc:Seg w ao zs) (hl:(xs.length+n)*176<=140737488355328) (hb:B<=w.heap.size)
  (h:∀ v' w1,Own w1 B v' (xs++zs)->w.grownBy w1 v.ownBlock->(v'.ownBlock=v.ownBlock\/v'.ownBlock=some w.heap.size)->wpList Tryz.prog ops Q rest (a.put o.dst v') w1):wpList Tryz.prog ops Q (o::rest) a w :=
 wpList_plain hgd fun _ hK=>eG w s x ho B v xs hs hown ao n cap zs hx hn hnil hsrc hl hb fun v' w1 h1 h2 h3=>hK _ _ (h v' w1 h1 h2 h3)
theorem bK (h:Own w B v xs):∀ k,v.ownBlock=some k->B<=k:=by
 intro k hk;rcases h.2 with ⟨h',_⟩ | ⟨g,cap,cur,h',hb,_⟩
 ·
  rw [h'] at hk;cases hk
 ·
  rw [h'] at hk;simp only [Value.ownBlock,Option.some.injEq] at hk;omega
theorem bA (h:Own w B v xs) (o:Obj):Own (w.alloc o) B v xs:=World.ownsRow.alloc h o
theorem own_below (h:Own w B v xs) (k:Below w.heap.size w u):Own u B v xs:=by
 obtain ⟨h1,h2⟩:=h;refine ⟨h1,?_⟩;rcases h2 with h2 | ⟨g,cap,cur,h',hb,hg,h3⟩
 · exact .inl h2
 ·
  refine .inr ⟨g,cap,cur,h',hb,?_,h3⟩
  have hl:g < w.heap.size:=by
   obtain ⟨hl,_⟩:=Array.getElem?_eq_some_iff.1 hg;exact hl
  rw [k.block g hl];exact hg
def block (r:T):Obj:=.cells #[.int .i64 r.ak,.int .i64 r.seq,.int .i64 r.kind,.string r.av,.int .i64 r.lim,.string r.cat,.int .i64 r.ry,.int .i64 r.rm,.int .i64 r.rd,.int .i64 r.bp,.int .i64 r.y,.int .i64 r.m,.int .i64 r.d,.slice r.lines.ao r.lines.n r.lines.cap,.string r.bf,.int .i64 r.aY,.int .i64 r.fF] 59 (0,0)
theorem bB {r:T} (h:X.heap[g]? =some (block r)):Seg X (some ⟨g,0,none⟩) [r]:=by
 refine .inr ⟨g,0,rfl,fun k hk=>?_⟩;obtain rfl:k=0:=by simpa using hk
 unfold block at h;refine ⟨?_,?_,?_,?_,?_,?_,?_,?_,?_,?_,?_,?_,?_,?_,?_,?_,?_⟩
 all_goals rw [cell_of_row X g _ _ _ _ h]
 all_goals rfl
end Go.Proofs.YtpfdnemaaeolcaaGreat.Ca
namespace Go.Proofs.YtpfdnemaaeolcaaGreat
open Go.RowKit
def nG (y m d:Int):Value:=.agg #[.int .i64 y,.int .i64 m,.int .i64 d]
theorem aL (h:Below w0.heap.size w0 w) (o:Obj):Below w0.heap.size w0 (w.alloc o):=h.alloc h.size o
theorem aD {W w1:World} (hb:Below W.heap.size W w1):(∀ b o,b < W.heap.size->w1.cell? ⟨b,o,none⟩=W.cell? ⟨b,o,none⟩)/\(∀ b o,b < W.heap.size->w1.frozen? ⟨b,o,none⟩=W.frozen? ⟨b,o,none⟩) :=
 ⟨fun b o h=>hb.cell (p:=⟨b,o,none⟩) h,fun b o h=>hb.frozen (p:=⟨b,o,none⟩) h⟩
open Vt (Rt)
def oP (r:Rt):Value:=.agg #[.string r.cat,.int .i64 r.y,.int .i64 r.m,.int .i64 r.d,.int .i64 r.bp]
def Short (r:Rt):Prop:=r.cat.size<=140737488355328/\Fit r.y/\Fit r.m/\Fit r.d/\Fit r.bp
def IW (w:World) (r:Rt):World:=w.alloc (.cells #[.string r.cat,.int .i64 r.y,.int .i64 r.m,.int .i64 r.d,.int .i64 r.bp] 52)
theorem aH {o:Nat} (h:u.cell? ⟨b,o,none⟩=some v):b < u.heap.size:=by
 by_cases k:b < u.heap.size
 · exact k
 ·
  exfalso;simp [World.cell?,Array.getElem?_eq_none (Nat.le_of_not_lt k)] at h
def lV (u:World) (b:Nat) (r:Rt):Prop :=
 u.cell? ⟨b,0,none⟩=some (.string r.cat)/\u.cell? ⟨b,1,none⟩=some (.int .i64 r.y)/\u.cell? ⟨b,2,none⟩=some (.int .i64 r.m)/\u.cell? ⟨b,3,none⟩=some (.int .i64 r.d)/\u.cell? ⟨b,4,none⟩=some (.int .i64 r.bp)
theorem lV.below {v:World} {r:Rt} (h:lV u b r) (k:Below u.heap.size u v):lV v b r:=by
 obtain ⟨h0,h1,h2,h3,h4⟩:=h;have hl:=aH h0;unfold lV;rw [(aD k).1 _ _ hl,(aD k).1 _ _ hl,(aD k).1 _ _ hl,(aD k).1 _ _ hl,(aD k).1 _ _ hl];exact ⟨h0,h1,h2,h3,h4⟩
theorem l9 (w:World) (r:Rt):lV (IW w r) w.heap.size r:=by
 unfold IW lV;simp [go_sem]
theorem MN (w:World) (r:Rt):(IW w r).heap.size=w.heap.size+1:=by
 unfold IW
 simp
theorem jy (w:World) (r:Rt):Below w.heap.size w (IW w r):=(Below.refl _ _).alloc (Nat.le_refl _) _
theorem bZ (w:World) (a:Rt):∃ W,w.alloc (.cells #[.string a.cat,.int .i64 a.y,.int .i64 a.m,.int .i64 a.d,.int .i64 a.bp] 52)=W/\Below w.heap.size w W/\lV W w.heap.size a :=
 ⟨_,rfl,jy w a,l9 w a⟩
theorem Yx (w:World) (a b:Rt):∃ W,(w.alloc (.cells #[.string a.cat,.int .i64 a.y,.int .i64 a.m,.int .i64 a.d,.int .i64 a.bp] 52)).alloc (.cells #[.string b.cat,.int .i64 b.y,.int .i64 b.m,.int .i64 b.d,.int .i64 b.bp] 52)=W /\
  Below w.heap.size w W/\lV W w.heap.size a/\lV W (w.heap.size+1) b:=by
 refine ⟨_,rfl,((jy w a).trans ((jy (IW w a) b).mono (jy w a).size)),(l9 w a).below (jy _ b),?_⟩;have h:=l9 (IW w a) b;rw [MN] at h;exact h
def qQ (u:World) (b:Nat) (y m d:Int):Prop :=
 u.cell? ⟨b,0,none⟩=some (.int .i64 y)/\u.cell? ⟨b,1,none⟩=some (.int .i64 m)/\u.cell? ⟨b,2,none⟩=some (.int .i64 d)
theorem qQ.below {v:World} {y m d:Int} (h:qQ u b y m d) (k:Below u.heap.size u v):qQ v b y m d:=by
 obtain ⟨h0,h1,h2⟩:=h;have hl:=aH h0;unfold qQ;rw [(aD k).1 _ _ hl,(aD k).1 _ _ hl,(aD k).1 _ _ hl];exact ⟨h0,h1,h2⟩
theorem EZ (w:World) (y m d:Int):qQ (w.alloc (.cells #[.int .i64 y,.int .i64 m,.int .i64 d] 50)) w.heap.size y m d:=by
 unfold qQ;simp [go_sem]
theorem aj {v:World} (h:Below w0.heap.size w0 u) (k:Below u.heap.size u v):Below w0.heap.size w0 v:=h.trans (k.mono h.size)
structure zq (u:World) (b o:Nat) (r:Rt):Prop where
 c0:u.cell? ⟨b,o,none⟩=some (.string r.cat)
 c1:u.cell? ⟨b,o+1,none⟩=some (.int .i64 r.y)
 c2:u.cell? ⟨b,o+2,none⟩=some (.int .i64 r.m)
 c3:u.cell? ⟨b,o+3,none⟩=some (.int .i64 r.d)
 c4:u.cell? ⟨b,o+4,none⟩=some (.int .i64 r.bp)
theorem zq.below {v:World} {o:Nat} {r:Rt} (h:zq u b o r) (k:Below u.heap.size u v):zq v b o r:=by
 have hl:=aH h.c0;exact ⟨by rw [(aD k).1 _ _ hl];exact h.c0,by rw [(aD k).1 _ _ hl];exact h.c1,by rw [(aD k).1 _ _ hl];exact h.c2,by rw [(aD k).1 _ _ hl];exact h.c3,by rw [(aD k).1 _ _ hl];exact h.c4⟩
def E5 (w:World) (ao:Option Addr) (rs:List Rt):Prop:=rs=[]\/∃ b off,ao=some ⟨b,off,none⟩/\∀ (k:Nat) (hk:k < rs.length),zq w b (off+k*5) rs[k]
theorem E5.below {w v:World} {ao:Option Addr} {rs:List Rt} (h:E5 w ao rs) (k:Below w.heap.size w v):E5 v ao rs:=by
 rcases h with h | ⟨b,off,e,h⟩
 · exact .inl h
 · exact .inr ⟨b,off,e,fun i hi=>(h i hi).below k⟩
structure om (w:World) (ao:Option Addr) (n cap:Nat) (rs:List Rt):Prop where
 len:n=rs.length
 fits:n<=cap
 reach:cap<=9223372036854775807
 nil:ao=none->cap=0
 seg:E5 w ao rs
 short:∀ r∈rs,Short r
theorem om.below {w v:World} {ao:Option Addr} {n cap:Nat} {rs:List Rt} (h:om w ao n cap rs) (k:Below w.heap.size w v):om v ao n cap rs :=
 ⟨h.len,h.fits,h.reach,h.nil,h.seg.below k,h.short⟩
theorem om.at {w:World} {ao:Option Addr} {n cap:Nat} {rs:List Rt} (h:om w ao n cap rs) (hn:0 < n):∃ b off,ao=some ⟨b,off,none⟩:=by
 rcases h.seg with e | ⟨b,off,e,_⟩
 ·
  have:=h.len;rw [e] at this;simp at this;omega
 · exact ⟨b,off,e⟩
theorem om.row {rs:List Rt} (h:om w (some ⟨b,off,none⟩) n cap rs) (k:Nat) (hk:k < rs.length):zq w b (off+k*5) rs[k]:=by
 rcases h.seg with e | ⟨b',off',e,hs⟩
 ·
  subst e;simp at hk
 ·
  cases e
  exact hs k hk
end Go.Proofs.YtpfdnemaaeolcaaGreat
set_option linter.unusedVariables false
namespace Go.Proofs.YtpfdnemaaeolcaaGreat.Bl
open Go.RowKit
open Mem
open Vt (Rt)
structure AV (w:World) (r:Pd.T) (p:Ps):Prop where
 av:r.av=p.av
 num:r.num=p.num
 y:r.y=p.y
 m:r.m=p.m
 d:r.d=p.d
 net:r.net=p.tot.net
 aP:r.aP=p.tot.aP
 au:r.au=p.tot.au
 parts:Pt.Ls w r.parts.ao r.parts.n r.parts.cap p.tot.parts
 bf:r.bf=p.bf
 aY:r.aY=p.aY
 back:r.back=p.back
theorem AV.below {w v:World} {r:Pd.T} {p:Ps} (h:AV w r p) (k:Below w.heap.size w v):AV v r p :=
 ⟨h.av,h.num,h.y,h.m,h.d,h.net,h.aP,h.au,h.parts.below k,h.bf,h.aY,h.back⟩
structure Each (w:World) (rs:List Pd.T) (ps:List Ps):Prop where
 len:rs.length=ps.length
 each : ∀ i (h : i < rs.length),AV w rs[i] (ps[i]'(len ▸ h))
theorem Each.below {w v:World} {rs:List Pd.T} {ps:List Ps} (h:Each w rs ps) (k:Below w.heap.size w v):Each v rs ps :=
 ⟨h.len,fun i q=>(h.each i q).below k⟩
theorem qR (w:World):Each w [] []:=⟨rfl,fun i h=>absurd h (Nat.not_lt_zero _)⟩
theorem Each.add {rs:List Pd.T} {ps:List Ps} (h:Each w rs ps) {r:Pd.T} {p:Ps} (k:AV w r p):Each w (rs++[r]) (ps++[p]):=by
 have hl:(rs++[r]).length=(ps++[p]).length:=by rw [List.length_append,List.length_append,h.len];rfl
 refine ⟨hl,fun i hi=>?_⟩;rw [List.length_append] at hi;have hi':i < rs.length+1:=hi;rcases Nat.lt_or_ge i rs.length with q | q
 ·
  rw [List.getElem_append_left q,List.getElem_append_left (h.len▸q)];exact h.each i q
 ·
  obtain rfl:i=rs.length:=by omega
  have e1:(rs++[r])[rs.length]=r:=by
   rw [List.getElem_append_right (Nat.le_refl _)]
   simp
  have e2 : (ps ++ [p])[rs.length]'(by rw [List.length_append,h.len]; exact Nat.lt_succ_self _) = p := Qj h.len.symm _;rw [e1,e2];exact k
structure Sv where
 tab:Sl
 av:Sl
 post:Sl
 book:Sl
 ak:Sl
 next:Int
def sl (s:Sl):Value:=.slice s.ao s.n s.cap
def Sv.val (h:Sv):Value:=.agg #[sl h.tab,sl h.av,sl h.post,sl h.book,sl h.ak,.int .i64 h.next]
structure kW (w:World) (h:Sv) (s:St):Prop where
 tab:om w h.tab.ao h.tab.n h.tab.cap s.tab
 av:Sr.Ls w h.av.ao h.av.n h.av.cap s.av
 post:∃ rs,Pd.Ls w h.post.ao h.post.n h.post.cap rs/\Each w rs s.post
 book:Ba.Ls w h.book.ao h.book.n h.book.cap s.book
 ak:Sn.Ls w h.ak.ao h.ak.n h.ak.cap s.ak
 next:h.next=s.next
 fit:Fit s.next
theorem kW.below {w v:World} {h:Sv} {s:St} (l:kW w h s) (k:Below w.heap.size w v):kW v h s:=by
 obtain ⟨rs,h1,h2⟩:=l.post;exact ⟨l.tab.below k,l.av.below k,⟨rs,h1.below k,h2.below k⟩,l.book.below k,l.ak.below k,l.next,l.fit⟩
theorem zu (w:World):kW w ⟨⟨none,0,0⟩,⟨none,0,0⟩,⟨none,0,0⟩,⟨none,0,0⟩,⟨none,0,0⟩,1⟩ new :=
 ⟨⟨rfl,Nat.le_refl _,by show (0:Nat)<=_;omega,fun _=>rfl,.inl rfl,by intro r hr;cases hr⟩,Sr.dL w,⟨[],Pd.dL w,qR w⟩,Ba.dL w,Sn.dL w,rfl,by show Fit 1;unfold Fit;omega⟩
structure Qk (w:World) (r:Ca.T) (c:Cl):Prop where
 ak:r.ak=c.ak
 seq:r.seq=c.seq
 kind:r.kind=c.cmd.kind
 av:r.av=c.cmd.av
 lim:r.lim=c.cmd.lim
 row:(⟨r.cat,r.ry,r.rm,r.rd,r.bp⟩:Rt)=c.cmd.row
 y:r.y=c.cmd.y
 m:r.m=c.cmd.m
 d:r.d=c.cmd.d
 lines:Ln.Ls w r.lines.ao r.lines.n r.lines.cap c.cmd.lines
 bf:r.bf=c.cmd.bf
 aY:r.aY=c.cmd.aY
 fF:r.fF=c.cmd.ak
theorem Qk.below {w v:World} {r:Ca.T} {c:Cl} (h:Qk w r c) (k:Below w.heap.size w v):Qk v r c :=
 ⟨h.ak,h.seq,h.kind,h.av,h.lim,h.row,h.y,h.m,h.d,h.lines.below k,h.bf,h.aY,h.fF⟩
end Go.Proofs.YtpfdnemaaeolcaaGreat.Bl
namespace Go.Proofs.YtpfdnemaaeolcaaGreat.Pt
open Go.RowKit
open Mem
def rv (r:T):List Value:=[.string r.cat,.int .i64 r.bp,.int .i64 r.net,.int .i64 r.aP]
theorem aM (r:T):(rv r).length=4:=rfl
theorem aB:∀ rs:List T,(rs.flatMap rv).length=rs.length*4
 | []=>rfl
 | r::l=>by
  rw [List.flatMap_cons,List.length_append,aM,aB l,List.length_cons];omega
theorem aS:∀ (rs:List T) (k p:Nat) (hk:k < rs.length),p < 4->(rs.flatMap rv)[k*4+p]? =(rv rs[k])[p]?
 | r::l,0,p,_,hp=>by
  rw [List.flatMap_cons,List.getElem?_append_left (by rw [aM];omega),Nat.zero_mul,Nat.zero_add];rfl
 | r::l,k+1,p,hk,hp=>by
  rw [List.flatMap_cons,List.getElem?_append_right (by rw [aM];omega),aM,show (k+1)*4+p - 4=k*4+p by omega];exact aS l k p (by simpa using hk) hp
theorem one_cell (rs:List T):∀ v∈rs.flatMap rv,v.oneCell'=true:=by
 intro v hv;obtain ⟨r,_,h⟩:=List.mem_flatMap.1 hv;unfold rv at h;simp only [List.mem_cons,List.not_mem_nil,or_false] at h;rcases h with rfl | rfl | rfl | rfl <;> rfl
theorem dA {rs:List T} (h:∀ (k:Nat) (hk:k < rs.length),At w b (off+k*4) rs[k]) (j:Nat) (u:Value) (hu:(rs.flatMap rv)[j]? =some u):w.cell? ((⟨b,off,none⟩:Addr).add j)=some u:=by
 have hj:j < (rs.flatMap rv).length:=by
  obtain ⟨hj,_⟩:=List.getElem?_eq_some_iff.1 hu;exact hj
 rw [aB] at hj;obtain ⟨k,p,rfl,hp⟩:∃ k p,j=k*4+p/\p < 4:=⟨j / 4,j % 4,by omega,by omega⟩;have hk:k < rs.length:=by omega
 rw [aS rs k p hk hp] at hu
 have ha:(⟨b,off,none⟩:Addr).add (k*4+p)=⟨b,off+k*4+p,none⟩:=by
  unfold Addr.add;split
  ·
   rename_i e;simp only [Addr.mk.injEq,true_and,and_true];omega
  ·
   simp only [Addr.mk.injEq,true_and,and_true];omega
 rw [ha];obtain ⟨c0,c1,c2,c3⟩:=h k hk;have hp':p=0\/p=1\/p=2\/p=3:=by omega
 unfold rv at hu;rcases hp' with rfl | rfl | rfl | rfl
 all_goals simp at hu
 all_goals subst hu
 · exact c0
 · exact c1
 · exact c2
 · exact c3
def Own (w:World) (B:Nat) (v:Value) (xs:List T):Prop:=w.ownsRow B 108 4 v xs.length (xs.flatMap rv)
theorem aN (w:World) (B:Nat):Own w B (.slice none 0 0) []:=⟨rfl,.inl ⟨rfl,rfl⟩⟩
variable {xs:List T}
theorem aX (h:Own w B v xs) (hs:∀ r∈xs,Short r):∃ ao cap,v=.slice ao xs.length cap/\Ls w ao xs.length cap xs/\(∀ ad,ao=some ad->∃ g,ad=⟨g,0,none⟩/\B<=g):=by
 rcases h.2 with ⟨h',h2⟩ | ⟨g,cap,cur,h',hb,hg,hnc,hcm,hcs,htake⟩
 ·
  have e:xs=[]:=List.length_eq_zero_iff.1 h2;subst e;exact ⟨none,0,h',⟨rfl,Nat.le_refl _,by omega,fun _=>rfl,.inl rfl,hs⟩,fun ad k=>by cases k⟩
 ·
  refine ⟨some ⟨g,0,none⟩,cap,h',⟨rfl,hnc,hcm,fun k=>(by cases k),.inr ⟨g,0,rfl,fun k hk=>?_⟩,hs⟩,fun ad k=>by cases k;exact ⟨g,rfl,hb⟩⟩
  have hcell:∀ p,p < 4->w.cell? ⟨g,0+k*4+p,none⟩=(rv xs[k])[p]? :=by
   intro p hp;rw [Nat.zero_add,cell_of_row w g _ _ _ _ hg,<- aS xs k p hk hp,<- htake,List.getElem?_take_of_lt (by omega)]
   simp
  exact ⟨hcell 0 (by omega),hcell 1 (by omega),hcell 2 (by omega),hcell 3 (by omega)⟩
def zero:T:=⟨.empty,0,0,0⟩
def zeroV:Value:=.agg #[.string .empty,.int .i64 0,.int .i64 0,.int .i64 0]
theorem info:(Tryz.prog.info? 108).map (fun i=>(i.zero,i.size,i.bytes))=some (some zeroV,4,40):=by kernel_rfl
theorem eG (w:World) (s x:Operand)
  (ho:o.op=.call { callee:=.builtin .append,args:=#[s,x],argTypes:=#[100,100] })
  (B:Nat) (v:Value) (xs:List T) (hs:a.eval s=v) (hown:Own w B v xs)
  (ao:Option Addr) (n cap:Nat) (zs:List T) (hx:a.eval x=.slice ao n cap) (hn:n=zs.length) (hnil:ao=none->cap=0) (hsrc:Seg w ao zs) (hl:(xs.length+n)*40<=140737488355328) (hb:B<=w.heap.size)
  (h:∀ v' w1,Own w1 B v' (xs++zs)->w.grownBy w1 v.ownBlock->(v'.ownBlock=v.ownBlock\/v'.ownBlock=some w.heap.size)->K (a.put o.dst v') w1):o.wp Tryz.prog a w K Q:=by
 have hzs:zeroV.cells.size=4:=rfl;obtain ⟨i0,hi,hz0,hz1,hz2⟩:=info_parts info;have hmx:maxLen=9223372036854775807:=rfl
 have empty:zs=[]->n=0->Own w B v (xs++zs):=by
  intro e _;rw [e,List.append_nil];exact hown
 cases ao with
 | none =>
  obtain rfl:cap=0:=hnil rfl;rcases hsrc with e | ⟨b,off,e,_⟩
  ·
   obtain rfl:n=0:=by rw [hn,e];rfl
   have hrun:=run_append_owned_none (P:=Tryz.prog) (w:=w) B 100 o.type 108 i0 4 Tryz.underlying100 hi v _ _ hown;unfold Oper.wp;simp [execOp,ho,resolve,invoke,builtin,hs,hx,hrun,Result.andThen];exact h v w (empty e rfl) ⟨rfl,rfl,rfl,Nat.le_refl _,fun _ _ _=>rfl⟩ (.inl rfl)
  · cases e
 | some ad =>
  obtain ⟨v',w',hr,h2,h3,_,h5⟩:=run_append_own_at (P:=Tryz.prog) w B 100 o.type 108 i0 zeroV 4 40 Tryz.underlying100 hi hz0 hz1 hz2 hzs (by omega) v xs.length (xs.flatMap rv) hown ad n cap (zs.flatMap rv) (by rw [aB,hn]) (by
   rcases hsrc with e | ⟨b,off,e,hc⟩
   ·
    rw [e];intro j u hu;simp at hu
   ·
    cases e
    exact fun j u hu=>dA hc j u hu) (one_cell zs) (by omega) hl hb
  unfold Oper.wp execOp;simp only [ho,resolve,invoke,builtin,Sem.run_bind,Sem.run_pure,Result.andThen_ok,List.map_toArray,List.map_cons,List.map_nil,hs,hx,hr];refine h v' w' ?_ h3 h5;unfold Own;rw [List.flatMap_append,List.length_append,<- hn];exact h2
theorem aG (w:World) (hgd:o.guard=none) (s x:Operand)
  (ho:o.op=.call { callee:=.builtin .append,args:=#[s,x],argTypes:=#[100,100] })
  (B:Nat) (v:Value) (xs:List T) (hs:a.eval s=v) (hown:Own w B v xs)
  (ao:Option Addr) (n cap:Nat) (zs:List T) (hx:a.eval x=.slice ao n cap) (hn:n=zs.length) (hnil:ao=none->cap=0) (hsrc:Seg w ao zs) (hl:(xs.length+n)*40<=140737488355328) (hb:B<=w.heap.size)
  (h:∀ v' w1,Own w1 B v' (xs++zs)->w.grownBy w1 v.ownBlock->(v'.ownBlock=v.ownBlock\/v'.ownBlock=some w.heap.size)->wpList Tryz.prog ops Q rest (a.put o.dst v') w1):wpList Tryz.prog ops Q (o::rest) a w :=
 wpList_plain hgd fun _ hK=>eG w s x ho B v xs hs hown ao n cap zs hx hn hnil hsrc hl hb fun v' w1 h1 h2 h3=>hK _ _ (h v' w1 h1 h2 h3)
theorem bD {C:Nat} (h:Own w B v xs) (hc:C<=B):Own w C v xs:=by
 obtain ⟨h1,h2⟩:=h;refine ⟨h1,?_⟩;rcases h2 with h2 | ⟨g,cap,cur,h',hb,h3⟩
 · exact .inl h2
 · exact .inr ⟨g,cap,cur,h',by omega,h3⟩
theorem bA (h:Own w B v xs) (o:Obj):Own (w.alloc o) B v xs:=World.ownsRow.alloc h o
theorem own_below (h:Own w B v xs) (k:Below w.heap.size w u):Own u B v xs:=by
 obtain ⟨h1,h2⟩:=h;refine ⟨h1,?_⟩;rcases h2 with h2 | ⟨g,cap,cur,h',hb,hg,h3⟩
 · exact .inl h2
 ·
  refine .inr ⟨g,cap,cur,h',hb,?_,h3⟩
  have hl:g < w.heap.size:=by
   obtain ⟨hl,_⟩:=Array.getElem?_eq_some_iff.1 hg;exact hl
  rw [k.block g hl];exact hg
def block (r:T):Obj:=.cells #[.string r.cat,.int .i64 r.bp,.int .i64 r.net,.int .i64 r.aP] 108 (0,0)
theorem bB {r:T} (h:X.heap[g]? =some (block r)):Seg X (some ⟨g,0,none⟩) [r]:=by
 refine .inr ⟨g,0,rfl,fun k hk=>?_⟩;obtain rfl:k=0:=by simpa using hk
 unfold block at h;refine ⟨?_,?_,?_,?_⟩
 all_goals rw [cell_of_row X g _ _ _ _ h]
 all_goals rfl
def Block (w:World) (g:Nat) (ts:List T):Prop:=w.heap[g]? =some (.cells (ts.flatMap rv).toArray 108 (0,0))
variable {ts:List T}
theorem Block.lt (h:Block w g ts):g < w.heap.size:=by
 obtain ⟨hg,_⟩:=Array.getElem?_eq_some_iff.1 h;exact hg
theorem Block.below (h:Block w g ts) (k:Below w.heap.size w u):Block u g ts:=(k.block g h.lt).trans h
theorem Block.row (h:Block w g ts) (k:Nat) (hk:k < ts.length):At w g (k*4) ts[k]:=by
 have hcell:∀ p,p < 4->w.cell? ⟨g,k*4+p,none⟩=(rv ts[k])[p]? :=by
  intro p hp;rw [cell_of_row w g _ _ _ _ h,<- aS ts k p hk hp]
  simp
 exact ⟨hcell 0 (by omega),hcell 1 (by omega),hcell 2 (by omega),hcell 3 (by omega)⟩
theorem Block.frozen {w:World} {g:Nat} {ts:List T} (h:Block w g ts) (k:Nat):w.frozen? ⟨g,k,none⟩=false:=frozen_of_row w g k _ _ h
theorem Block.ls {zs:List T} (h:Block w g (ts++zs)) (n cap:Nat) (hn:n=ts.length) (hc:n<=cap) (hm:cap<=9223372036854775807) (hs:∀ r∈ts,Short r):Ls w (some ⟨g,0,none⟩) n cap ts:=by
 refine ⟨hn,hc,hm,(fun k=>by cases k),.inr ⟨g,0,rfl,fun k hk=>?_⟩,hs⟩;have hr:=h.row k (by rw [List.length_append];omega);rw [List.getElem_append_left hk] at hr;rw [Nat.zero_add];exact hr
def zeros (n:Nat):Array Value:=((List.replicate n zero).flatMap rv).toArray
theorem lH:(Tryz.prog.info? 108).map (·.size)=some 4:=by kernel_rfl
theorem made (n:Nat):madeCells zeroV.cells (n*4)=zeros n:=by
 apply Array.ext_getElem?;intro j;by_cases hj:j < n*4
 ·
  obtain ⟨k,p,rfl,hp⟩:∃ k p,j=k*4+p/\p < 4:=⟨j / 4,j % 4,by omega,by omega⟩;have hk:k < n:=by omega
  have hz:(zeros n)[k*4+p]? =(rv zero)[p]? :=by
   unfold zeros;rw [List.getElem?_toArray,aS (List.replicate n zero) k p (by simpa using hk) hp,List.getElem_replicate]
  rw [hz];have e:(k*4+p) % 4=p:=by omega
  have hp':p=0\/p=1\/p=2\/p=3:=by omega
  unfold madeCells;rw [Array.getElem?_map,Array.getElem?_range,if_pos hj];simp only [Option.map_some];rw [show zeroV.cells.size=4 from rfl,e];rcases hp' with rfl | rfl | rfl | rfl <;> rfl
 ·
  rw [Array.getElem?_eq_none (by rw [size_madeCells];omega),Array.getElem?_eq_none];unfold zeros;rw [List.size_toArray,aB,List.length_replicate];omega
theorem make (n:Nat) (hn:n<=100000) (u:World):(Instr.makeSlice 100 (.int .i64 (n:Int)) (.int .i64 (n:Int))).run Tryz.prog u =
  .ok (.slice (some ⟨u.heap.size,0,none⟩) n n) (u.alloc (.cells (zeros n) 108)):=by
 obtain ⟨i0,hi,hz0,hz1,hz2⟩:=info_parts info;have h:=run_make (P:=Tryz.prog) u 100 108 i0 zeroV Tryz.underlying100 hi hz0 .i64 .i64 (n:Int) (n:Int) (by omega) (Int.le_refl _) (by rw [hz2];omega) (by omega);rw [hz1,Int.toNat_natCast,made] at h;exact h
theorem aZ (u:World) (n:Nat):Block (u.alloc (.cells (zeros n) 108)) u.heap.size (List.replicate n zero):=heap_alloc_new u _
theorem copy (u:World) (g:Nat) (ts:List T) (dCap:Nat) (ao:Option Addr) (n cap:Nat) (rs:List T) (hb:Block u g (List.replicate n zero++ts)) (hn:n=rs.length) (hs:Seg u ao rs) :
  ∃ u',(Builtin.copy_ #[100,100] 3 #[.slice (some ⟨g,0,none⟩) (n+ts.length) dCap,.slice ao n cap]).run Tryz.prog u=.ok (goInt n) u'/\Block u' g (rs++ts)/\(∀ B w0,Below B w0 u->B<=g->Below B w0 u')/\u'.heap.size=u.heap.size:=by
 obtain ⟨i0,hi,hiK⟩:=Option.map_eq_some_iff.1 lH;have hmin:Nat.min n (n+ts.length)=n:=Nat.min_eq_left (by omega);rcases hs with e | ⟨b,off,rfl,hc⟩
 ·
  subst e;obtain rfl:n=0:=hn;refine ⟨u,?_,by simpa using hb,fun _ _ h _=>h,rfl⟩;have hl:∀ (x:Addr),(loadCells x 0).run Tryz.prog u=.ok #[] u:=fun x=>by simpa using run_loadCells_list (P:=Tryz.prog) u x [] (by simp)
  cases ao <;> simp [Builtin.copy_,run_underlying Tryz.underlying100,Builtin.lenOf,Builtin.firstCells,sizeOf,typeInfo,hi,storeCells,hl]
 ·
  have hl:=run_loadCells_list (P:=Tryz.prog) u ⟨b,off,none⟩ (rs.flatMap rv) (fun j v hv=>dA hc j v hv);have hst:=run_storeCells_at Tryz.prog g 0 108 (rs.flatMap rv) 0 _ u hb (by rw [List.size_toArray,aB,aB,List.length_append,List.length_replicate];omega) (one_cell rs);have hlen:(rs.flatMap rv).length=n*4:=by rw [aB,hn]
  have e:(((List.replicate n zero++ts).flatMap rv).toArray.toList.take (0+0)++rs.flatMap rv++((List.replicate n zero++ts).flatMap rv).toArray.toList.drop (0+0+(rs.flatMap rv).length))=(rs++ts).flatMap rv:=by
   rw [List.toList_toArray,List.take_zero,List.nil_append,Nat.zero_add,hlen,List.flatMap_append,List.flatMap_append,List.drop_left' (by rw [aB,List.length_replicate])]
  rw [e] at hst;refine ⟨u.setRow g ((rs++ts).flatMap rv).toArray,?_,setRow_heap u g _ _ 108 _ hb,fun B w0 h hB=>below_setRow h hB _,by simp [World.setRow]⟩;rw [hlen] at hl;simp [Builtin.copy_,run_underlying Tryz.underlying100,Builtin.lenOf,Builtin.firstCells,sizeOf,typeInfo,hi,hiK,hmin,hl,hst]
theorem set_right {a:T} (X:List Value) (k p:Nat) (v:Value):(rv a++X).set ((k+1)*4+p) v=rv a++X.set (k*4+p) v:=by
 rw [List.set_append_right _ _ (by rw [aM];omega),aM,show (k+1)*4+p - 4=k*4+p by omega]
theorem je:∀ (ts:List T) (k:Nat) (r:T),k < ts.length->(ts.set k r).flatMap rv=(((((ts.flatMap rv).set (k*4) (.string r.cat)).set (k*4+1) (.int .i64 r.bp)).set (k*4+2) (.int .i64 r.net)).set (k*4+3) (.int .i64 r.aP))
 | a::l,0,r,_=>rfl
 | a::l,k+1,r,h=>by
  have ih:=je l k r (by simpa using h);have e0:=fun (X:List Value) (v:Value)=>set_right (a:=a) X k 0 v
  simp only [Nat.add_zero] at e0;rw [List.set_cons_succ,List.flatMap_cons,ih,List.flatMap_cons,e0,set_right,set_right,set_right]
theorem Block.store (h:Block w g ts) (k:Nat) (hk:k < ts.length) (r:T) :
  Block ((((w.setCell ⟨g,k*4,none⟩ (.string r.cat)).setCell ⟨g,k*4+1,none⟩ (.int .i64 r.bp)).setCell ⟨g,k*4+2,none⟩ (.int .i64 r.net)).setCell ⟨g,k*4+3,none⟩ (.int .i64 r.aP)) g (ts.set k r):=by
 have h1:=heap_setCell_same _ g (k*4) _ _ (.string r.cat) h;have h2:=heap_setCell_same _ g (k*4+1) _ _ (.int .i64 r.bp) h1;have h3:=heap_setCell_same _ g (k*4+2) _ _ (.int .i64 r.net) h2;have h4:=heap_setCell_same _ g (k*4+3) _ _ (.int .i64 r.aP) h3;unfold Block;rw [h4,je ts k r hk];simp only [List.setIfInBounds_toArray]
theorem gL (h:Below B w0 w) (hg:B<=g) (k:Nat) (x0 x1 x2 x3:Value) :
  Below B w0 ((((w.setCell ⟨g,k*4,none⟩ x0).setCell ⟨g,k*4+1,none⟩ x1).setCell ⟨g,k*4+2,none⟩ x2).setCell ⟨g,k*4+3,none⟩ x3) :=
 ((((h.setCell hg x0).setCell hg x1).setCell hg x2).setCell hg x3)
theorem dH {M:List T} (h:Own w B (.slice (some ⟨g,0,none⟩) n cap) M) (k:Nat) (hk:k < M.length):At w g (k*4) M[k]/\(∀ o,w.frozen? ⟨g,o,none⟩=false)/\B<=g:=by
 rcases h.2 with ⟨h',_⟩ | ⟨g',cap',cur,h',hb,hg,hnc,hcm,hcs,htake⟩
 · cases h'
 ·
  simp only [Value.slice.injEq,Option.some.injEq,Addr.mk.injEq,and_true] at h';obtain ⟨e1,e2,e3⟩:=h';subst e1 e3
  have hcell:∀ p,p < 4->w.cell? ⟨g,k*4+p,none⟩=(rv M[k])[p]? :=by
   intro p hp;rw [cell_of_row w g _ _ _ _ hg,<- aS M k p hk hp,<- htake,List.getElem?_take_of_lt (by omega)]
   simp
  exact ⟨⟨hcell 0 (by omega),hcell 1 (by omega),hcell 2 (by omega),hcell 3 (by omega)⟩,fun o=>frozen_of_row w g o _ _ hg,hb⟩
theorem jU (r:T) (p:Nat) (x:Value) (hp:p < 4):∀ (M:List T) (k:Nat) (hk:k < M.length),rv r=(rv M[k]).set p x->(M.set k r).flatMap rv=(M.flatMap rv).set (k*4+p) x
 | a::l,0,_,h=>by
  have h':rv r=(rv a).set p x:=h;rw [List.set_cons_zero,List.flatMap_cons,List.flatMap_cons,Nat.zero_mul,Nat.zero_add,List.set_append_left _ _ (by rw [aM];exact hp),h']
 | a::l,k+1,hk,h=>by
  have ih:=jU r p x hp l k (by simpa using hk) (by simpa using h);rw [List.set_cons_succ,List.flatMap_cons,List.flatMap_cons,List.set_append_right _ _ (by rw [aM];omega),aM,show (k+1)*4+p - 4=k*4+p by omega,ih]
theorem jo {M:List T} (h:Own w B (.slice (some ⟨g,0,none⟩) n cap) M) (k p:Nat) (hk:k < M.length) (hp:p < 4) (x:Value) (r:T) (hr:rv r=(rv M[k]).set p x) :
  Own (w.setCell ⟨g,k*4+p,none⟩ x) B (.slice (some ⟨g,0,none⟩) n cap) (M.set k r):=by
 rcases h.2 with ⟨h',_⟩ | ⟨g',cap',cur,h',hb,hg,hnc,hcm,hcs,htake⟩
 · cases h'
 ·
  simp only [Value.slice.injEq,Option.some.injEq,Addr.mk.injEq,and_true] at h';obtain ⟨e1,e2,e3⟩:=h';subst e1 e3;have h1:=heap_setCell_same _ g (k*4+p) _ _ x hg;refine ⟨by rw [aB],.inr ⟨g,cap,_,by rw [List.length_set,e2],hb,h1,by rw [List.length_set];exact hnc,hcm,by simpa using hcs,?_⟩⟩;rw [List.length_set,jU r p x hp M k hk hr];simp only [Array.toList_setIfInBounds];rw [<- htake];simp only [List.take_set]
theorem fG {M:List T} (h:Block w g M) (hB:B<=g) (hn:n=M.length) (hm:n<=100000):Own w B (.slice (some ⟨g,0,none⟩) n n) M:=by
 subst hn;exact ⟨by rw [aB],.inr ⟨g,M.length,_,rfl,hB,h,Nat.le_refl _,by have:maxLen=9223372036854775807:=rfl;omega,by rw [List.size_toArray,aB],List.take_of_length_le (by show (M.flatMap rv).length<=_;rw [aB];exact Nat.le_refl _)⟩⟩
theorem rW {M:List T} (h:Own w B v M) {b:Nat} (hne:b < B) (o:Nat) (x:Value):Own (w.setCell ⟨b,o,none⟩ x) B v M:=by
 obtain ⟨h1,h2⟩:=h;refine ⟨h1,?_⟩;rcases h2 with h2 | ⟨g,cap,cur,h',hb,hg,h3⟩
 · exact .inl h2
 · exact .inr ⟨g,cap,cur,h',hb,by rw [heap_setCell_other w ⟨b,o,none⟩ g x (by show g≠b;omega)];exact hg,h3⟩
end Go.Proofs.YtpfdnemaaeolcaaGreat.Pt
namespace Go.Proofs.YtpfdnemaaeolcaaGreat.Tt
open Go.RowKit
open Mem
def val (n t s:Int) (v:Value):Value:=.agg #[.int .i64 n,.int .i64 t,.int .i64 s,v]
def At (u:World) (g:Nat) (n t s:Int) (v:Value):Prop:=u.heap[g]? =some (.cells #[.int .i64 n,.int .i64 t,.int .i64 s,v] 102 (0,0))
def box (w:World) (n t s:Int) (v:Value):World:=w.alloc (.cells #[.int .i64 n,.int .i64 t,.int .i64 s,v] 102)
theorem dY (w:World) (n t s:Int) (v:Value):At (box w n t s v) w.heap.size n t s v:=heap_alloc_new w _
theorem dh (w:World) (n t s:Int) (v:Value):(box w n t s v).heap.size=w.heap.size+1:=by
 unfold box
 simp
theorem aC (w:World) (n t s:Int) (v:Value):Below w.heap.size w (box w n t s v):=(Below.refl _ _).alloc (Nat.le_refl _) _
section
variable {u u':World} {g:Nat} {n t s:Int} {v:Value}
theorem At.lt (h:At u g n t s v):g < u.heap.size:=by
 obtain ⟨hl,_⟩:=Array.getElem?_eq_some_iff.1 h;exact hl
theorem At.below (h:At u g n t s v) (b:Below u.heap.size u u'):At u' g n t s v:=(b.block g h.lt).trans h
theorem At.cells (h:At u g n t s v):u.cell? ⟨g,0,none⟩=some (.int .i64 n)/\u.cell? ⟨g,1,none⟩=some (.int .i64 t)/\u.cell? ⟨g,2,none⟩=some (.int .i64 s)/\u.cell? ⟨g,3,none⟩=some v:=by
 refine ⟨?_,?_,?_,?_⟩
 all_goals
  rw [cell_of_row u g _ _ _ _ h];rfl
theorem At.frozen (h:At u g n t s v) (k:Nat):u.frozen? ⟨g,k,none⟩=false:=frozen_of_row u g k _ _ h
theorem At.far (h:At u g n t s v) {b:Nat} (hne:g≠b) (o:Nat) (x:Value):At (u.setCell ⟨b,o,none⟩ x) g n t s v:=by
 unfold At;rw [heap_setCell_other u ⟨b,o,none⟩ g x hne];exact h
theorem At.set0 (h:At u g n t s v) (x:Int):At (u.setCell ⟨g,0,none⟩ (.int .i64 x)) g x t s v:=(heap_setCell_same u g 0 _ _ _ h).trans rfl
theorem At.set1 (h:At u g n t s v) (x:Int):At (u.setCell ⟨g,1,none⟩ (.int .i64 x)) g n x s v:=(heap_setCell_same u g 1 _ _ _ h).trans rfl
theorem At.set2 (h:At u g n t s v) (x:Int):At (u.setCell ⟨g,2,none⟩ (.int .i64 x)) g n t x v:=(heap_setCell_same u g 2 _ _ _ h).trans rfl
theorem At.UR (h:At u g n t s v) (x:Value):At (u.setCell ⟨g,3,none⟩ x) g n t s x:=(heap_setCell_same u g 3 _ _ _ h).trans rfl
theorem At.E8 (h:At u g n t s v) (n' t' s':Int) (v':Value):At ((((u.setCell ⟨g,0,none⟩ (.int .i64 n')).setCell ⟨g,1,none⟩ (.int .i64 t')).setCell ⟨g,2,none⟩ (.int .i64 s')).setCell ⟨g,3,none⟩ v') g n' t' s' v':=(((h.set0 n').set1 t').set2 s').UR v'
end
def UU (w:World) (E:Int) (T:Iv.iD) (e:Ending) (w':World):Prop:=∃ v,e=.returned (.tuple #[val T.net T.aP T.au v,.int .i64 E])/\Pt.Own w' w.heap.size v T.parts/\Below w.heap.size w w'
end Go.Proofs.YtpfdnemaaeolcaaGreat.Tt
namespace Go.Proofs.YtpfdnemaaeolcaaGreat.Pt
open Go.RowKit
open Mem
open Go.Sort (grow)
def kg (a b:T):Bool:=decide (a.cat=b.cat/\a.bp=b.bp/\a.net=b.net/\a.aP=b.aP)
theorem kN (a b:T):kg a b=true↔a=b:=by
 unfold kg;rw [decide_eq_true_iff];cases a
 cases b
 simp
def aK:List T->List T->Bool
 | [],[]=>true
 | a::l,b::m=>kg a b&&aK l m
 | _,_=>false
theorem bM:∀ l m:List T,aK l m=true↔l=m
 | [],[]=>by simp [aK]
 | [],_::_=>by simp [aK]
 | _::_,[]=>by simp [aK]
 | a::l,b::m=>by
  rw [aK,Bool.and_eq_true,kN,bM l m,List.cons.injEq]
theorem eO (l:List T):aK l l=true:=(bM l l).2 rfl
theorem fU {l m:List T} (h:l.length≠m.length):aK l m=false:=by
 rw [Bool.eq_false_iff];intro k;exact h (congrArg List.length ((bM l m).1 k))
theorem jV (l m:List T) (k:Nat) (h:k < l.length) (h':k < m.length):aK (l.drop k) (m.drop k)=(kg l[k] m[k]&&aK (l.drop (k+1)) (m.drop (k+1))):=by
 rw [List.drop_eq_getElem_cons h,List.drop_eq_getElem_cons h',aK]
theorem iI (xs ys:List T) (ao bo:Option Addr) (n m ca cb:Nat) (w0 w:World) (hw:Below w0.heap.size w0 w) (hA:Ls w ao n ca xs) (hB:Ls w bo m cb ys) :
  Calls Tryz.prog 111 #[.slice ao n ca,.slice bo m cb] w fun e w'=>e=.returned (.bool (aK xs ys))/\Below w0.heap.size w0 w':=by
 have HW:=Lh hw;have HA:=Lh hA;have HB:=Lh hB;have HN:=Lh hA.len;have HM:=Lh hB.len;have hca:=hA.reach;have hfa:=hA.fits;have hcb:=hB.reach;have OQ:=hB.fits;clear hw hA hB;by_cases hnm:n=m
 ·
  subst hnm;have hne:((n:Int) != (n:Int))=false:=bne_self_eq_false _;go_enter Tryz.func111,Tryz.ntmps111;go_wp2
  go_loopw [5] (fun i wr=>∃ k:Nat,k<=n/\i=.int .i64 k/\Hid (aK (xs.drop k) (ys.drop k)=aK xs ys)/\Hid (Below w.heap.size w wr)) (fun i _=>n - (intOf i).toNat)
  case atStart=>exact ⟨0,Nat.zero_le _,rfl,Lh rfl,Lh (Below.refl _ _)⟩
  case round =>
   obtain ⟨k,hk,rfl,HK,iT⟩:=hrel;by_cases hlt:k < n
   ·
    obtain ⟨a,oa,rfl⟩:=HA.out.at (by omega);obtain ⟨b,ob,rfl⟩:=HB.out.at (by omega);have hkr:k < xs.length:=HN.out▸hlt;have hks:k < ys.length:=HM.out▸hlt;have bX:=Lh (jV xs ys k hkr hks);obtain ⟨r,hr⟩:∃ r,xs[k]=r:=⟨_,rfl⟩;obtain ⟨s,hs⟩:∃ s,ys[k]=s:=⟨_,rfl⟩;have h1:=(HA.out.row k hkr).below iT.out;have h2:=(HB.out.row k hks).below iT.out;rw [hr] at h1 bX;rw [hs] at h2 bX;clear hr hs;obtain ⟨g0,g1,g2,g3⟩:=h1;obtain ⟨f0,f1,f2,f3⟩:=h2;have g0':=cell_regrown g0;have g1':=cell_regrown g1;have g2':=cell_regrown g2;have g3':=cell_regrown g3;have OT:=cell_regrown f0;have OU:=cell_regrown f1;have f2':=cell_regrown f2;have f3':=cell_regrown f3;clear g0 g1 g2 g3 f0 f1 f2 f3;by_cases e0:r.cat=s.cat
    ·
     have q0:(r.cat.toList==s.cat.toList)=true:=beq_iff_eq.2 (by rw [e0]);by_cases e1:r.bp=s.bp
     ·
      have q1:(r.bp==s.bp)=true:=beq_iff_eq.2 e1;by_cases e2:r.net=s.net
      ·
       have q2:(r.net==s.net)=true:=beq_iff_eq.2 e2;by_cases e3:r.aP=s.aP
       ·
        have q3:(r.aP==s.aP)=true:=beq_iff_eq.2 e3;have HE:Hid (kg r s=true):=Lh (decide_eq_true ⟨e0,e1,e2,e3⟩);clear e0 e1 e2 e3;go_wp2;refine wp_region_quiet_below (by kernel_rfl) (by kernel_rfl) ?_
        repeat (first | go_big_quiet_step (fail) | quiet_step (fail))
        refine wpQuiet_nil ?_;intro _ hw';obtain ⟨⟨dq,osq⟩,hw''⟩:=hw';subst hw'';have cO:=Lh (aj iT.out (below_regrown wr dq osq));go_wp2;go_roundw
        case rel=>exact ⟨k+1,by omega,by go_num,Lh (by rw [<- HK.out,bX.out,HE.out,Bool.true_and]),cO⟩
        case measure=>simp [intOf];omega
       ·
        have q3:(r.aP==s.aP)=false:=beq_eq_false_iff_ne.2 e3;have HE:Hid (kg r s=false):=Lh (decide_eq_false fun h=>e3 h.2.2.2);clear e0 e1 e2 e3;go_wp2;refine wp_region_quiet_below (by kernel_rfl) (by kernel_rfl) ?_
        repeat (first | go_big_quiet_step (fail) | quiet_step (fail))
        refine wpQuiet_nil ?_;intro _ hw';obtain ⟨⟨dq,osq⟩,hw''⟩:=hw';subst hw'';have cO:=Lh (aj iT.out (below_regrown wr dq osq));go_wp2;go_ret;exact ⟨ay (by rw [<- HK.out,bX.out,HE.out,Bool.false_and]),aj HW.out cO.out⟩
      ·
       have q2:(r.net==s.net)=false:=beq_eq_false_iff_ne.2 e2;have HE:Hid (kg r s=false):=Lh (decide_eq_false fun h=>e2 h.2.2.1);clear e0 e1 e2;go_wp2;refine wp_region_quiet_below (by kernel_rfl) (by kernel_rfl) ?_
       repeat (first | go_big_quiet_step (fail) | quiet_step (fail))
       refine wpQuiet_nil ?_;intro _ hw';obtain ⟨⟨dq,osq⟩,hw''⟩:=hw';subst hw'';have cO:=Lh (aj iT.out (below_regrown wr dq osq));go_wp2;go_ret;exact ⟨ay (by rw [<- HK.out,bX.out,HE.out,Bool.false_and]),aj HW.out cO.out⟩
     ·
      have q1:(r.bp==s.bp)=false:=beq_eq_false_iff_ne.2 e1;have HE:Hid (kg r s=false):=Lh (decide_eq_false fun h=>e1 h.2.1);clear e0 e1;go_wp2;refine wp_region_quiet_below (by kernel_rfl) (by kernel_rfl) ?_
      repeat (first | go_big_quiet_step (fail) | quiet_step (fail))
      refine wpQuiet_nil ?_;intro _ hw';obtain ⟨⟨dq,osq⟩,hw''⟩:=hw';subst hw'';have cO:=Lh (aj iT.out (below_regrown wr dq osq));go_wp2;go_ret;exact ⟨ay (by rw [<- HK.out,bX.out,HE.out,Bool.false_and]),aj HW.out cO.out⟩
    ·
     have q0:(r.cat.toList==s.cat.toList)=false:=beq_eq_false_iff_ne.2 fun h=>e0 (oz (by rw [<- tl,<- tl];exact h))
     have HE:Hid (kg r s=false):=Lh (decide_eq_false fun h=>e0 h.1);clear e0;go_wp2;refine wp_region_quiet_below (by kernel_rfl) (by kernel_rfl) ?_
     repeat (first | go_big_quiet_step (fail) | quiet_step (fail))
     refine wpQuiet_nil ?_;intro _ hw';obtain ⟨⟨dq,osq⟩,hw''⟩:=hw';subst hw'';have cO:=Lh (aj iT.out (below_regrown wr dq osq));go_wp2;go_ret;exact ⟨ay (by rw [<- HK.out,bX.out,HE.out,Bool.false_and]),aj HW.out cO.out⟩
   ·
    obtain rfl:k=n:=by omega
    go_wp2;go_ret;refine ⟨ay ?_,HW.out.trans (iT.out.mono HW.out.size)⟩;rw [<- HK.out,List.drop_eq_nil_of_le (Nat.le_of_eq HN.out.symm),List.drop_eq_nil_of_le (Nat.le_of_eq HM.out.symm)];rfl
 ·
  have HE:=Lh (fU (l:=xs) (m:=ys) (by rw [<- HN.out,<- HM.out];exact hnm));have hne:((n:Int) != (m:Int))=true:=bne_iff_ne.2 (by omega);go_enter Tryz.func111,Tryz.ntmps111;go_wp2;go_ret;exact ⟨ay HE.out.symm,HW.out⟩
theorem fV (xs:List T) (ao bo:Option Addr) (n ca cb:Nat) (w0 w:World) (hw:Below w0.heap.size w0 w) (hA:Ls w ao n ca xs) (hB:Ls w bo n cb xs) :
  Calls Tryz.prog 111 #[.slice ao n ca,.slice bo n cb] w fun e w'=>e=.returned (.bool true)/\Below w0.heap.size w0 w':=by
 have h:=iI xs xs ao bo n n ca cb w0 w hw hA hB;rw [eO] at h;exact h
end Go.Proofs.YtpfdnemaaeolcaaGreat.Pt
namespace Go.Proofs.YtpfdnemaaeolcaaGreat
open Go.RowKit
open Mem
theorem E9 (T:Iv.iD) (ao bo:Option Addr) (p ca cb:Nat) (w0 w:World) (hw:Below w0.heap.size w0 w) (hA:Pt.Ls w ao p ca T.parts) (hB:Pt.Ls w bo p cb T.parts) :
  Calls Tryz.prog 69 #[Tt.val T.net T.aP T.au (.slice ao p ca),Tt.val T.net T.aP T.au (.slice bo p cb)] w fun e w'=>e=.returned (.bool true)/\Below w0.heap.size w0 w':=by
 have HW:=Lh hw;have HA:=Lh hA;have HB:=Lh hB;clear hw hA hB;obtain ⟨n,t,s,ps⟩:=T;dsimp only at HA HB ⊢;have hb1:=Tt.aC w n t s (.slice ao p ca);have hb2:=Tt.aC (Tt.box w n t s (.slice ao p ca)) n t s (.slice bo p cb);have h1:=(Tt.dY w n t s (.slice ao p ca)).below hb2;have h2:=Tt.dY (Tt.box w n t s (.slice ao p ca)) n t s (.slice bo p cb);rw [Tt.dh] at h2;have oh:=Lh (aj hb1 hb2);obtain ⟨a0,a1,a2,a3⟩:=h1.cells;obtain ⟨b0,b1,b2,b3⟩:=h2.cells;have q0:(n==n)=true:=beq_self_eq_true _;have q1:(t==t)=true:=beq_self_eq_true _;have q2:(s==s)=true:=beq_self_eq_true _;clear h1 h2 hb1 hb2;unfold Tt.val;go_enter Tryz.func69,Tryz.ntmps69;go_wp2_with fail;refine (Pt.fV ps ao bo p ca cb w0 _ (aj HW.out oh.out) (HA.out.below oh.out) (HB.out.below oh.out)).mono ?_;rintro e w1 ⟨rfl,b5⟩;have tZ:=Lh b5;clear b5;go_wp2_with fail;go_ret;exact ⟨rfl,tZ.out⟩
open Go
def UW (md:Region.Mode) (ops:Array Oper):Nat->List Oper->Bool
 | _,[]=>true
 | k,o::l=>(o.after.all fun e=> !Region.binds md e||decide (e.on < k))&&(l.all fun y=>y.after.any (fun e=>Region.binds md e&&e.on==k)||o.apart ops y)&&UW md ops (k+1) l
theorem zw {md:Region.Mode} {ops:Array Oper}:∀ (l:List Oper) (k:Nat) (listed:Array Bool),(∀ j,l[j]? =ops[k+j]?)->(∀ i d,i < ops.size->listed.getD i d=decide (i < k))->listed.size=ops.size->UW md ops k l=true->Region.lexFrom md ops l.length k listed=true
 | [],k,listed,hl,hd,hs,_=>by
  have hk:ops.size<=k:=by
   have:=hl 0;simp at this;exact this
  simp only [List.length_nil,Region.lexFrom,List.isEmpty_iff];rw [List.eq_nil_iff_forall_not_mem];intro j hj;obtain ⟨h1,o,ho,_⟩:=mem_ready.1 hj;have hlt:=(Array.getElem?_eq_some_iff.1 ho).1;rw [hd j true hlt] at h1;simp at h1;omega
 | o::l,k,listed,hl,hd,hs,h=>by
  have h0:ops[k]? =some o:=by simpa using (hl 0).symm
  have hlt:=(Array.getElem?_eq_some_iff.1 h0).1
  have hl':∀ j,l[j]? =ops[k+1+j]? :=fun j=>by
   have:=hl (j+1);rw [show k+1+j=k+(j+1) by omega];simpa using this
  rw [UW,Bool.and_eq_true,Bool.and_eq_true] at h;obtain ⟨⟨h1,h2⟩,h3⟩:=h;simp only [List.length_cons,Region.lexFrom,Bool.and_eq_true];refine ⟨⟨?_,?_⟩,?_⟩
  ·
   rw [List.contains_iff_mem,mem_ready];refine ⟨by rw [hd k true hlt];simp,o,h0,fun e he hb=>?_⟩;have:=Array.all_eq_true_iff_forall_mem.1 h1 e he;rw [hb] at this;simp at this;rw [hd _ _ (by omega)];simpa using this
  ·
   unfold Region.free;rw [h0];dsimp only;rw [List.all_eq_true];intro j hj;rw [List.mem_range] at hj;by_cases hjk:j=k
   · simp [hjk]
   ·
    by_cases hlj:j < k
    ·
     rw [hd j true hj];simp [hlj]
    ·
     have e:ops[j]? =l[j - k - 1]? :=by
      rw [hl',show k+1+(j - k - 1)=j by omega]
     obtain ⟨oj,hoj⟩:∃ oj,ops[j]? =some oj:=⟨_,Array.getElem?_eq_getElem hj⟩
     have hm:oj∈l:=by
      rw [hoj] at e;exact List.mem_of_getElem? e.symm
     have:=List.all_eq_true.1 h2 oj hm;rw [hoj];dsimp only;rw [this]
     simp
  ·
   refine zw l (k+1) _ hl' (fun i d hi=>?_) (by simpa using hs) h3;by_cases hik:k=i
   ·
    subst hik;simp [Array.getD,hs,hlt]
   ·
    rw [getD_set_ne d hik,hd i d hi]
    congr 1
    apply propext;omega
theorem UY {md:Region.Mode} {l:List Oper} (hs:Region.noSelect l.toArray=true) (h:UW md l.toArray 0 l=true):Region.lexB md l.toArray=true:=by
 unfold Region.lexB;rw [hs,Bool.true_and]
 have:=zw (md:=md) (ops:=l.toArray) l 0 (Array.replicate l.toArray.size false) (fun j=>by simp) (fun i d hi=>by
  simp [Array.getD];intro h;simp at hi;omega) (by simp) h
 simpa using this
open Go.Sort (grow)
def AnsK (f:FuncId) (args:Array Value) (u:World) (i:Nat) (os:Array Obj) (v:Value):Prop :=
 Calls Tryz.prog f args (grow (redrawn u i) os) fun e w''=>e=.returned v/\∃ p:Regrown,w''=grow (redrawn u p.d) p.os
theorem IX (t:Iv.iD) (ao bo:Option Addr) (p ca cb:Nat) (u:World) (hA:Pt.Ls u ao p ca t.parts) (hB:Pt.Ls u bo p cb t.parts) (i:Nat) (os:Array Obj):AnsK 69 #[.agg #[.int .i64 t.net,.int .i64 t.aP,.int .i64 t.au,.slice ao p ca],.agg #[.int .i64 t.net,.int .i64 t.aP,.int .i64 t.au,.slice bo p cb]] u i os (.bool true) :=
 Calls.regrown_of (E9 t ao bo p ca cb _ _ (Below.refl _ _) (hA.below (below_regrown u i os)) (hB.below (below_regrown u i os)))
theorem Fa (ps:List Bl.Ps) (rs qs:List Pd.T) (ao bo:Option Addr) (n ca cb:Nat) (w0 w:World) (hw:Below w0.heap.size w0 w) (hA:Pd.Ls w ao n ca rs) (hB:Pd.Ls w bo n cb qs) (hr:Bl.Each w rs ps) (hq:Bl.Each w qs ps) :
  Calls Tryz.prog 25 #[.slice ao n ca,.slice bo n cb] w fun e w'=>e=.returned (.bool true)/\Below w0.heap.size w0 w':=by
 have HW:=Lh hw;have HA:=Lh hA;have HB:=Lh hB;have HR:=Lh hr;have HQ:=Lh hq;have HN:=Lh hA.len;have HM:=Lh hB.len;have hcap:=hA.reach;have hfit:=hA.fits;have hcap2:=hB.reach;have hfit2:=hB.fits;clear hA hB hw hr hq;go_enter Tryz.func25,Tryz.ntmps25;go_wp2_with fail
 go_loopw [5] (fun j wr=>∃ k:Nat,k<=n/\j=.int .i64 k/\Hid (Below w.heap.size w wr)) (fun j _=>n - (intOf j).toNat)
 case atStart=>exact ⟨0,by omega,rfl,Lh (Below.refl _ _)⟩
 case round =>
  obtain ⟨k,hk,rfl,oh⟩:=hrel;by_cases hlt:k < n
  ·
   obtain ⟨b,off,rfl⟩ := HA.out.at (by omega);obtain ⟨b2,off2,rfl⟩ := HB.out.at (by omega);have hkr : k < rs.length := HN.out ▸ hlt;have hkq : k < qs.length := HM.out ▸ hlt;have hrow := (HA.out.row k hkr).below oh.out;have hrow2 := (HB.out.row k hkq).below oh.out;have hp := (HR.out.each k hkr).below oh.out;have hp2 := (HQ.out.each k hkq).below oh.out;generalize ps[k]'(HR.out.len ▸ hkr) = p at hp hp2;generalize rs[k] = r at hrow hp;generalize qs[k] = q at hrow2 hp2;obtain ⟨r0,r1,r2,r3,r4,r5,r6,r7,⟨ra,rn,rc⟩,r9,r10,r11⟩ := r;obtain ⟨q0,q1,q2,q3,q4,q5,q6,q7,⟨qa,qn,qc⟩,q9,q10,q11⟩ := q;obtain ⟨x0,x1,x2,x3,x4,⟨x5,x6,x7,x8⟩,x9,x10,x11⟩ := p;obtain ⟨e0,e1,e2,e3,e4,e5,e6,e7,hL,e9,e10,e11⟩ := hp;obtain ⟨d0,d1,d2,d3,d4,d5,d6,d7,hL2,d9,Z6,d11⟩ := hp2;simp only at e0 e1 e2 e3 e4 e5 e6 e7 e9 e10 e11 d0 d1 d2 d3 d4 d5 d6 d7 d9 Z6 d11 hL hL2;subst e0 e1 e2 e3 e4 e5 e6 e7 e9 e10 e11 d0 d1 d2 d3 d4 d5 d6 d7 d9 Z6 d11;obtain rfl : rn = qn := hL.len.trans hL2.len.symm;have c1 := IX ⟨q5,q6,q7,x8⟩ ra qa rn rc qc wr hL hL2;simp only at c1;obtain ⟨g0,g1,g2,g3,g4,g5,g6,g7,g8,g9,g10,g11⟩ := hrow;obtain ⟨h0,h1,h2,h3,h4,h5,h6,h7,h8,h9,h10,h11⟩ := hrow2;simp only at g0 g1 g2 g3 g4 g5 g6 g7 g8 g9 g10 g11 h0 h1 h2 h3 h4 h5 h6 h7 h8 h9 h10 h11;have k0 := cell_regrown g0;have m0 := cell_regrown h0;have k1 := cell_regrown g1;have m1 := cell_regrown h1;have k2 := cell_regrown g2;have m2 := cell_regrown h2;have k3 := cell_regrown g3;have m3 := cell_regrown h3;have k4 := cell_regrown g4;have m4 := cell_regrown h4;have k5 := cell_regrown g5;have m5 := cell_regrown h5;have k6 := cell_regrown g6;have m6 := cell_regrown h6;have k7 := cell_regrown g7;have m7 := cell_regrown h7;have k8 := cell_regrown g8;have m8 := cell_regrown h8;have k9 := cell_regrown g9;have m9 := cell_regrown h9;have k10 := cell_regrown g10;have m10 := cell_regrown h10;have k11 := cell_regrown g11;have m11 := cell_regrown h11;have t0 : (q0.toList == q0.toList) = true := beq_self_eq_true _;have t1 : (q1 == q1) = true := beq_self_eq_true _;have t2 : (q2 == q2) = true := beq_self_eq_true _;have t3 : (q3 == q3) = true := beq_self_eq_true _;have t4 : (q4 == q4) = true := beq_self_eq_true _;have t9 : (q9.toList == q9.toList) = true := beq_self_eq_true _;have t10 : (q10 == q10) = true := beq_self_eq_true _;have t11 : (q11 == q11) = true := beq_self_eq_true _;clear hL hL2;go_wp2_with fail;refine wp_region_quiet_below (by kernel_rfl) (UY (by kernel_rfl) (by kernel_rfl)) ?_
   repeat (first | go_big_quiet_step (first | (go_at_call 69;exact c1 _ _)) | quiet_step (first | (go_at_call 69;exact c1 _ _)))
   refine wpQuiet_nil ?_;intro _ hw';obtain ⟨⟨dq,osq⟩,hw''⟩:=hw';subst hw'';have cO:=Lh (aj oh.out (below_regrown wr dq osq));go_wp2_with fail;go_roundw
   case rel=>exact ⟨k+1,by omega,by go_num,cO⟩
   case measure=>simp [intOf];omega
  ·
   obtain rfl:k=n:=by omega
   go_wp2_with fail;go_ret;exact ⟨rfl,aj HW.out oh.out⟩
end Go.Proofs.YtpfdnemaaeolcaaGreat
namespace Go.Proofs.YtpfdnemaaeolcaaGreat.Sr
open Go.RowKit
open Mem
open Go.Sort (grow)
def kg (a b:T):Bool:=decide (a.name=b.name/\a.next=b.next/\a.limit=b.limit/\a.shut=b.shut)
theorem kN (a b:T):kg a b=true↔a=b:=by
 unfold kg;rw [decide_eq_true_iff];cases a
 cases b
 simp
def aK:List T->List T->Bool
 | [],[]=>true
 | a::l,b::m=>kg a b&&aK l m
 | _,_=>false
theorem bM:∀ l m:List T,aK l m=true↔l=m
 | [],[]=>by simp [aK]
 | [],_::_=>by simp [aK]
 | _::_,[]=>by simp [aK]
 | a::l,b::m=>by
  rw [aK,Bool.and_eq_true,kN,bM l m,List.cons.injEq]
theorem eO (l:List T):aK l l=true:=(bM l l).2 rfl
theorem fU {l m:List T} (h:l.length≠m.length):aK l m=false:=by
 rw [Bool.eq_false_iff];intro k;exact h (congrArg List.length ((bM l m).1 k))
theorem jV (l m:List T) (k:Nat) (h:k < l.length) (h':k < m.length):aK (l.drop k) (m.drop k)=(kg l[k] m[k]&&aK (l.drop (k+1)) (m.drop (k+1))):=by
 rw [List.drop_eq_getElem_cons h,List.drop_eq_getElem_cons h',aK]
theorem iI (xs ys:List T) (ao bo:Option Addr) (n m ca cb:Nat) (w0 w:World) (hw:Below w0.heap.size w0 w) (hA:Ls w ao n ca xs) (hB:Ls w bo m cb ys) :
  Calls Tryz.prog 24 #[.slice ao n ca,.slice bo m cb] w fun e w'=>e=.returned (.bool (aK xs ys))/\Below w0.heap.size w0 w':=by
 have HW:=Lh hw;have HA:=Lh hA;have HB:=Lh hB;have HN:=Lh hA.len;have HM:=Lh hB.len;have hca:=hA.reach;have hfa:=hA.fits;have hcb:=hB.reach;have OQ:=hB.fits;clear hw hA hB;by_cases hnm:n=m
 ·
  subst hnm;have hne:((n:Int) != (n:Int))=false:=bne_self_eq_false _;go_enter Tryz.func24,Tryz.ntmps24;go_wp2
  go_loopw [5] (fun i wr=>∃ k:Nat,k<=n/\i=.int .i64 k/\Hid (aK (xs.drop k) (ys.drop k)=aK xs ys)/\Hid (Below w.heap.size w wr)) (fun i _=>n - (intOf i).toNat)
  case atStart=>exact ⟨0,Nat.zero_le _,rfl,Lh rfl,Lh (Below.refl _ _)⟩
  case round =>
   obtain ⟨k,hk,rfl,HK,iT⟩:=hrel;by_cases hlt:k < n
   ·
    obtain ⟨a,oa,rfl⟩:=HA.out.at (by omega);obtain ⟨b,ob,rfl⟩:=HB.out.at (by omega);have hkr:k < xs.length:=HN.out▸hlt;have hks:k < ys.length:=HM.out▸hlt;have bX:=Lh (jV xs ys k hkr hks);obtain ⟨r,hr⟩:∃ r,xs[k]=r:=⟨_,rfl⟩;obtain ⟨s,hs⟩:∃ s,ys[k]=s:=⟨_,rfl⟩;have h1:=(HA.out.row k hkr).below iT.out;have h2:=(HB.out.row k hks).below iT.out;rw [hr] at h1 bX;rw [hs] at h2 bX;clear hr hs;obtain ⟨g0,g1,g2,g3⟩:=h1;obtain ⟨f0,f1,f2,f3⟩:=h2;have g0':=cell_regrown g0;have g1':=cell_regrown g1;have g2':=cell_regrown g2;have g3':=cell_regrown g3;have OT:=cell_regrown f0;have OU:=cell_regrown f1;have f2':=cell_regrown f2;have f3':=cell_regrown f3;clear g0 g1 g2 g3 f0 f1 f2 f3;by_cases e0:r.name=s.name
    ·
     have q0:(r.name.toList==s.name.toList)=true:=beq_iff_eq.2 (by rw [e0]);by_cases e1:r.next=s.next
     ·
      have q1:(r.next==s.next)=true:=beq_iff_eq.2 e1;by_cases e2:r.limit=s.limit
      ·
       have q2:(r.limit==s.limit)=true:=beq_iff_eq.2 e2;by_cases e3:r.shut=s.shut
       ·
        have q3:(r.shut==s.shut)=true:=beq_iff_eq.2 e3;have HE:Hid (kg r s=true):=Lh (decide_eq_true ⟨e0,e1,e2,e3⟩);clear e0 e1 e2 e3;go_wp2;refine wp_region_quiet_below (by kernel_rfl) (by kernel_rfl) ?_
        repeat (first | go_big_quiet_step (fail) | quiet_step (fail))
        refine wpQuiet_nil ?_;intro _ hw';obtain ⟨⟨dq,osq⟩,hw''⟩:=hw';subst hw'';have cO:=Lh (aj iT.out (below_regrown wr dq osq));go_wp2;go_roundw
        case rel=>exact ⟨k+1,by omega,by go_num,Lh (by rw [<- HK.out,bX.out,HE.out,Bool.true_and]),cO⟩
        case measure=>simp [intOf];omega
       ·
        have q3:(r.shut==s.shut)=false:=beq_eq_false_iff_ne.2 e3;have HE:Hid (kg r s=false):=Lh (decide_eq_false fun h=>e3 h.2.2.2);clear e0 e1 e2 e3;go_wp2;refine wp_region_quiet_below (by kernel_rfl) (by kernel_rfl) ?_
        repeat (first | go_big_quiet_step (fail) | quiet_step (fail))
        refine wpQuiet_nil ?_;intro _ hw';obtain ⟨⟨dq,osq⟩,hw''⟩:=hw';subst hw'';have cO:=Lh (aj iT.out (below_regrown wr dq osq));go_wp2;go_ret;exact ⟨ay (by rw [<- HK.out,bX.out,HE.out,Bool.false_and]),aj HW.out cO.out⟩
      ·
       have q2:(r.limit==s.limit)=false:=beq_eq_false_iff_ne.2 e2;have HE:Hid (kg r s=false):=Lh (decide_eq_false fun h=>e2 h.2.2.1);clear e0 e1 e2;go_wp2;refine wp_region_quiet_below (by kernel_rfl) (by kernel_rfl) ?_
       repeat (first | go_big_quiet_step (fail) | quiet_step (fail))
       refine wpQuiet_nil ?_;intro _ hw';obtain ⟨⟨dq,osq⟩,hw''⟩:=hw';subst hw'';have cO:=Lh (aj iT.out (below_regrown wr dq osq));go_wp2;go_ret;exact ⟨ay (by rw [<- HK.out,bX.out,HE.out,Bool.false_and]),aj HW.out cO.out⟩
     ·
      have q1:(r.next==s.next)=false:=beq_eq_false_iff_ne.2 e1;have HE:Hid (kg r s=false):=Lh (decide_eq_false fun h=>e1 h.2.1);clear e0 e1;go_wp2;refine wp_region_quiet_below (by kernel_rfl) (by kernel_rfl) ?_
      repeat (first | go_big_quiet_step (fail) | quiet_step (fail))
      refine wpQuiet_nil ?_;intro _ hw';obtain ⟨⟨dq,osq⟩,hw''⟩:=hw';subst hw'';have cO:=Lh (aj iT.out (below_regrown wr dq osq));go_wp2;go_ret;exact ⟨ay (by rw [<- HK.out,bX.out,HE.out,Bool.false_and]),aj HW.out cO.out⟩
    ·
     have q0:(r.name.toList==s.name.toList)=false:=beq_eq_false_iff_ne.2 fun h=>e0 (oz (by rw [<- tl,<- tl];exact h))
     have HE:Hid (kg r s=false):=Lh (decide_eq_false fun h=>e0 h.1);clear e0;go_wp2;refine wp_region_quiet_below (by kernel_rfl) (by kernel_rfl) ?_
     repeat (first | go_big_quiet_step (fail) | quiet_step (fail))
     refine wpQuiet_nil ?_;intro _ hw';obtain ⟨⟨dq,osq⟩,hw''⟩:=hw';subst hw'';have cO:=Lh (aj iT.out (below_regrown wr dq osq));go_wp2;go_ret;exact ⟨ay (by rw [<- HK.out,bX.out,HE.out,Bool.false_and]),aj HW.out cO.out⟩
   ·
    obtain rfl:k=n:=by omega
    go_wp2;go_ret;refine ⟨ay ?_,HW.out.trans (iT.out.mono HW.out.size)⟩;rw [<- HK.out,List.drop_eq_nil_of_le (Nat.le_of_eq HN.out.symm),List.drop_eq_nil_of_le (Nat.le_of_eq HM.out.symm)];rfl
 ·
  have HE:=Lh (fU (l:=xs) (m:=ys) (by rw [<- HN.out,<- HM.out];exact hnm));have hne:((n:Int) != (m:Int))=true:=bne_iff_ne.2 (by omega);go_enter Tryz.func24,Tryz.ntmps24;go_wp2;go_ret;exact ⟨ay HE.out.symm,HW.out⟩
theorem fV (xs:List T) (ao bo:Option Addr) (n ca cb:Nat) (w0 w:World) (hw:Below w0.heap.size w0 w) (hA:Ls w ao n ca xs) (hB:Ls w bo n cb xs) :
  Calls Tryz.prog 24 #[.slice ao n ca,.slice bo n cb] w fun e w'=>e=.returned (.bool true)/\Below w0.heap.size w0 w':=by
 have h:=iI xs xs ao bo n n ca cb w0 w hw hA hB;rw [eO] at h;exact h
end Go.Proofs.YtpfdnemaaeolcaaGreat.Sr
namespace Go.Proofs.YtpfdnemaaeolcaaGreat.Ba
open Go.RowKit
open Mem
open Go.Sort (grow)
def kg (a b:T):Bool:=decide (a.aF=b.aF/\a.dG=b.dG)
theorem kN (a b:T):kg a b=true↔a=b:=by
 unfold kg;rw [decide_eq_true_iff];cases a
 cases b
 simp
def aK:List T->List T->Bool
 | [],[]=>true
 | a::l,b::m=>kg a b&&aK l m
 | _,_=>false
theorem bM:∀ l m:List T,aK l m=true↔l=m
 | [],[]=>by simp [aK]
 | [],_::_=>by simp [aK]
 | _::_,[]=>by simp [aK]
 | a::l,b::m=>by
  rw [aK,Bool.and_eq_true,kN,bM l m,List.cons.injEq]
theorem eO (l:List T):aK l l=true:=(bM l l).2 rfl
theorem fU {l m:List T} (h:l.length≠m.length):aK l m=false:=by
 rw [Bool.eq_false_iff];intro k;exact h (congrArg List.length ((bM l m).1 k))
theorem jV (l m:List T) (k:Nat) (h:k < l.length) (h':k < m.length):aK (l.drop k) (m.drop k)=(kg l[k] m[k]&&aK (l.drop (k+1)) (m.drop (k+1))):=by
 rw [List.drop_eq_getElem_cons h,List.drop_eq_getElem_cons h',aK]
theorem iI (xs ys:List T) (ao bo:Option Addr) (n m ca cb:Nat) (w0 w:World) (hw:Below w0.heap.size w0 w) (hA:Ls w ao n ca xs) (hB:Ls w bo m cb ys) :
  Calls Tryz.prog 26 #[.slice ao n ca,.slice bo m cb] w fun e w'=>e=.returned (.bool (aK xs ys))/\Below w0.heap.size w0 w':=by
 have HW:=Lh hw;have HA:=Lh hA;have HB:=Lh hB;have HN:=Lh hA.len;have HM:=Lh hB.len;have hca:=hA.reach;have hfa:=hA.fits;have hcb:=hB.reach;have OQ:=hB.fits;clear hw hA hB;by_cases hnm:n=m
 ·
  subst hnm;have hne:((n:Int) != (n:Int))=false:=bne_self_eq_false _;go_enter Tryz.func26,Tryz.ntmps26;go_wp2
  go_loopw [5] (fun i wr=>∃ k:Nat,k<=n/\i=.int .i64 k/\Hid (aK (xs.drop k) (ys.drop k)=aK xs ys)/\Hid (Below w.heap.size w wr)) (fun i _=>n - (intOf i).toNat)
  case atStart=>exact ⟨0,Nat.zero_le _,rfl,Lh rfl,Lh (Below.refl _ _)⟩
  case round =>
   obtain ⟨k,hk,rfl,HK,iT⟩:=hrel;by_cases hlt:k < n
   ·
    obtain ⟨a,oa,rfl⟩:=HA.out.at (by omega);obtain ⟨b,ob,rfl⟩:=HB.out.at (by omega);have hkr:k < xs.length:=HN.out▸hlt;have hks:k < ys.length:=HM.out▸hlt;have bX:=Lh (jV xs ys k hkr hks);obtain ⟨r,hr⟩:∃ r,xs[k]=r:=⟨_,rfl⟩;obtain ⟨s,hs⟩:∃ s,ys[k]=s:=⟨_,rfl⟩;have h1:=(HA.out.row k hkr).below iT.out;have h2:=(HB.out.row k hks).below iT.out;rw [hr] at h1 bX;rw [hs] at h2 bX;clear hr hs;obtain ⟨g0,g1⟩:=h1;obtain ⟨f0,f1⟩:=h2;have g0':=cell_regrown g0;have g1':=cell_regrown g1;have OT:=cell_regrown f0;have OU:=cell_regrown f1;clear g0 g1 f0 f1;by_cases e0:r.aF=s.aF
    ·
     have q0:(r.aF.toList==s.aF.toList)=true:=beq_iff_eq.2 (by rw [e0]);by_cases e1:r.dG=s.dG
     ·
      have q1:(r.dG==s.dG)=true:=beq_iff_eq.2 e1;have HE:Hid (kg r s=true):=Lh (decide_eq_true ⟨e0,e1⟩);clear e0 e1;go_wp2;refine wp_region_quiet_below (by kernel_rfl) (by kernel_rfl) ?_
      repeat (first | go_big_quiet_step (fail) | quiet_step (fail))
      refine wpQuiet_nil ?_;intro _ hw';obtain ⟨⟨dq,osq⟩,hw''⟩:=hw';subst hw'';have cO:=Lh (aj iT.out (below_regrown wr dq osq));go_wp2;go_roundw
      case rel=>exact ⟨k+1,by omega,by go_num,Lh (by rw [<- HK.out,bX.out,HE.out,Bool.true_and]),cO⟩
      case measure=>simp [intOf];omega
     ·
      have q1:(r.dG==s.dG)=false:=beq_eq_false_iff_ne.2 e1;have HE:Hid (kg r s=false):=Lh (decide_eq_false fun h=>e1 h.2);clear e0 e1;go_wp2;refine wp_region_quiet_below (by kernel_rfl) (by kernel_rfl) ?_
      repeat (first | go_big_quiet_step (fail) | quiet_step (fail))
      refine wpQuiet_nil ?_;intro _ hw';obtain ⟨⟨dq,osq⟩,hw''⟩:=hw';subst hw'';have cO:=Lh (aj iT.out (below_regrown wr dq osq));go_wp2;go_ret;exact ⟨ay (by rw [<- HK.out,bX.out,HE.out,Bool.false_and]),aj HW.out cO.out⟩
    ·
     have q0:(r.aF.toList==s.aF.toList)=false:=beq_eq_false_iff_ne.2 fun h=>e0 (oz (by rw [<- tl,<- tl];exact h))
     have HE:Hid (kg r s=false):=Lh (decide_eq_false fun h=>e0 h.1);clear e0;go_wp2;refine wp_region_quiet_below (by kernel_rfl) (by kernel_rfl) ?_
     repeat (first | go_big_quiet_step (fail) | quiet_step (fail))
     refine wpQuiet_nil ?_;intro _ hw';obtain ⟨⟨dq,osq⟩,hw''⟩:=hw';subst hw'';have cO:=Lh (aj iT.out (below_regrown wr dq osq));go_wp2;go_ret;exact ⟨ay (by rw [<- HK.out,bX.out,HE.out,Bool.false_and]),aj HW.out cO.out⟩
   ·
    obtain rfl:k=n:=by omega
    go_wp2;go_ret;refine ⟨ay ?_,HW.out.trans (iT.out.mono HW.out.size)⟩;rw [<- HK.out,List.drop_eq_nil_of_le (Nat.le_of_eq HN.out.symm),List.drop_eq_nil_of_le (Nat.le_of_eq HM.out.symm)];rfl
 ·
  have HE:=Lh (fU (l:=xs) (m:=ys) (by rw [<- HN.out,<- HM.out];exact hnm));have hne:((n:Int) != (m:Int))=true:=bne_iff_ne.2 (by omega);go_enter Tryz.func26,Tryz.ntmps26;go_wp2;go_ret;exact ⟨ay HE.out.symm,HW.out⟩
theorem fV (xs:List T) (ao bo:Option Addr) (n ca cb:Nat) (w0 w:World) (hw:Below w0.heap.size w0 w) (hA:Ls w ao n ca xs) (hB:Ls w bo n cb xs) :
  Calls Tryz.prog 26 #[.slice ao n ca,.slice bo n cb] w fun e w'=>e=.returned (.bool true)/\Below w0.heap.size w0 w':=by
 have h:=iI xs xs ao bo n n ca cb w0 w hw hA hB;rw [eO] at h;exact h
end Go.Proofs.YtpfdnemaaeolcaaGreat.Ba
namespace Go.Proofs.YtpfdnemaaeolcaaGreat.Sn
open Go.RowKit
open Mem
open Go.Sort (grow)
def kg (a b:T):Bool:=decide (a.id=b.id/\a.last=b.last/\a.why=b.why/\a.num=b.num/\a.au=b.au)
theorem kN (a b:T):kg a b=true↔a=b:=by
 unfold kg;rw [decide_eq_true_iff];cases a
 cases b
 simp
def aK:List T->List T->Bool
 | [],[]=>true
 | a::l,b::m=>kg a b&&aK l m
 | _,_=>false
theorem bM:∀ l m:List T,aK l m=true↔l=m
 | [],[]=>by simp [aK]
 | [],_::_=>by simp [aK]
 | _::_,[]=>by simp [aK]
 | a::l,b::m=>by
  rw [aK,Bool.and_eq_true,kN,bM l m,List.cons.injEq]
theorem eO (l:List T):aK l l=true:=(bM l l).2 rfl
theorem fU {l m:List T} (h:l.length≠m.length):aK l m=false:=by
 rw [Bool.eq_false_iff];intro k;exact h (congrArg List.length ((bM l m).1 k))
theorem jV (l m:List T) (k:Nat) (h:k < l.length) (h':k < m.length):aK (l.drop k) (m.drop k)=(kg l[k] m[k]&&aK (l.drop (k+1)) (m.drop (k+1))):=by
 rw [List.drop_eq_getElem_cons h,List.drop_eq_getElem_cons h',aK]
theorem iI (xs ys:List T) (ao bo:Option Addr) (n m ca cb:Nat) (w0 w:World) (hw:Below w0.heap.size w0 w) (hA:Ls w ao n ca xs) (hB:Ls w bo m cb ys) :
  Calls Tryz.prog 27 #[.slice ao n ca,.slice bo m cb] w fun e w'=>e=.returned (.bool (aK xs ys))/\Below w0.heap.size w0 w':=by
 have HW:=Lh hw;have HA:=Lh hA;have HB:=Lh hB;have HN:=Lh hA.len;have HM:=Lh hB.len;have hca:=hA.reach;have hfa:=hA.fits;have hcb:=hB.reach;have OQ:=hB.fits;clear hw hA hB;by_cases hnm:n=m
 ·
  subst hnm;have hne:((n:Int) != (n:Int))=false:=bne_self_eq_false _;go_enter Tryz.func27,Tryz.ntmps27;go_wp2
  go_loopw [5] (fun i wr=>∃ k:Nat,k<=n/\i=.int .i64 k/\Hid (aK (xs.drop k) (ys.drop k)=aK xs ys)/\Hid (Below w.heap.size w wr)) (fun i _=>n - (intOf i).toNat)
  case atStart=>exact ⟨0,Nat.zero_le _,rfl,Lh rfl,Lh (Below.refl _ _)⟩
  case round =>
   obtain ⟨k,hk,rfl,HK,iT⟩:=hrel;by_cases hlt:k < n
   ·
    obtain ⟨a,oa,rfl⟩:=HA.out.at (by omega);obtain ⟨b,ob,rfl⟩:=HB.out.at (by omega);have hkr:k < xs.length:=HN.out▸hlt;have hks:k < ys.length:=HM.out▸hlt;have bX:=Lh (jV xs ys k hkr hks);obtain ⟨r,hr⟩:∃ r,xs[k]=r:=⟨_,rfl⟩;obtain ⟨s,hs⟩:∃ s,ys[k]=s:=⟨_,rfl⟩;have h1:=(HA.out.row k hkr).below iT.out;have h2:=(HB.out.row k hks).below iT.out;rw [hr] at h1 bX;rw [hs] at h2 bX;clear hr hs;obtain ⟨g0,g1,g2,g3,g4⟩:=h1;obtain ⟨f0,f1,f2,f3,f4⟩:=h2;have g0':=cell_regrown g0;have g1':=cell_regrown g1;have g2':=cell_regrown g2;have g3':=cell_regrown g3;have g4':=cell_regrown g4;have OT:=cell_regrown f0;have OU:=cell_regrown f1;have f2':=cell_regrown f2;have f3':=cell_regrown f3;have f4':=cell_regrown f4;clear g0 g1 g2 g3 g4 f0 f1 f2 f3 f4;by_cases e0:r.id=s.id
    ·
     have q0:(r.id==s.id)=true:=beq_iff_eq.2 e0;by_cases e1:r.last=s.last
     ·
      have q1:(r.last==s.last)=true:=beq_iff_eq.2 e1;by_cases e2:r.why=s.why
      ·
       have q2:(r.why==s.why)=true:=beq_iff_eq.2 e2;by_cases e3:r.num=s.num
       ·
        have q3:(r.num==s.num)=true:=beq_iff_eq.2 e3;by_cases e4:r.au=s.au
        ·
         have q4:(r.au==s.au)=true:=beq_iff_eq.2 e4;have HE:Hid (kg r s=true):=Lh (decide_eq_true ⟨e0,e1,e2,e3,e4⟩);clear e0 e1 e2 e3 e4;go_wp2;refine wp_region_quiet_below (by kernel_rfl) (by kernel_rfl) ?_
         repeat (first | go_big_quiet_step (fail) | quiet_step (fail))
         refine wpQuiet_nil ?_;intro _ hw';obtain ⟨⟨dq,osq⟩,hw''⟩:=hw';subst hw'';have cO:=Lh (aj iT.out (below_regrown wr dq osq));go_wp2;go_roundw
         case rel=>exact ⟨k+1,by omega,by go_num,Lh (by rw [<- HK.out,bX.out,HE.out,Bool.true_and]),cO⟩
         case measure=>simp [intOf];omega
        ·
         have q4:(r.au==s.au)=false:=beq_eq_false_iff_ne.2 e4;have HE:Hid (kg r s=false):=Lh (decide_eq_false fun h=>e4 h.2.2.2.2);clear e0 e1 e2 e3 e4;go_wp2;refine wp_region_quiet_below (by kernel_rfl) (by kernel_rfl) ?_
         repeat (first | go_big_quiet_step (fail) | quiet_step (fail))
         refine wpQuiet_nil ?_;intro _ hw';obtain ⟨⟨dq,osq⟩,hw''⟩:=hw';subst hw'';have cO:=Lh (aj iT.out (below_regrown wr dq osq));go_wp2;go_ret;exact ⟨ay (by rw [<- HK.out,bX.out,HE.out,Bool.false_and]),aj HW.out cO.out⟩
       ·
        have q3:(r.num==s.num)=false:=beq_eq_false_iff_ne.2 e3;have HE:Hid (kg r s=false):=Lh (decide_eq_false fun h=>e3 h.2.2.2.1);clear e0 e1 e2 e3;go_wp2;refine wp_region_quiet_below (by kernel_rfl) (by kernel_rfl) ?_
        repeat (first | go_big_quiet_step (fail) | quiet_step (fail))
        refine wpQuiet_nil ?_;intro _ hw';obtain ⟨⟨dq,osq⟩,hw''⟩:=hw';subst hw'';have cO:=Lh (aj iT.out (below_regrown wr dq osq));go_wp2;go_ret;exact ⟨ay (by rw [<- HK.out,bX.out,HE.out,Bool.false_and]),aj HW.out cO.out⟩
      ·
       have q2:(r.why==s.why)=false:=beq_eq_false_iff_ne.2 e2;have HE:Hid (kg r s=false):=Lh (decide_eq_false fun h=>e2 h.2.2.1);clear e0 e1 e2;go_wp2;refine wp_region_quiet_below (by kernel_rfl) (by kernel_rfl) ?_
       repeat (first | go_big_quiet_step (fail) | quiet_step (fail))
       refine wpQuiet_nil ?_;intro _ hw';obtain ⟨⟨dq,osq⟩,hw''⟩:=hw';subst hw'';have cO:=Lh (aj iT.out (below_regrown wr dq osq));go_wp2;go_ret;exact ⟨ay (by rw [<- HK.out,bX.out,HE.out,Bool.false_and]),aj HW.out cO.out⟩
     ·
      have q1:(r.last==s.last)=false:=beq_eq_false_iff_ne.2 e1;have HE:Hid (kg r s=false):=Lh (decide_eq_false fun h=>e1 h.2.1);clear e0 e1;go_wp2;refine wp_region_quiet_below (by kernel_rfl) (by kernel_rfl) ?_
      repeat (first | go_big_quiet_step (fail) | quiet_step (fail))
      refine wpQuiet_nil ?_;intro _ hw';obtain ⟨⟨dq,osq⟩,hw''⟩:=hw';subst hw'';have cO:=Lh (aj iT.out (below_regrown wr dq osq));go_wp2;go_ret;exact ⟨ay (by rw [<- HK.out,bX.out,HE.out,Bool.false_and]),aj HW.out cO.out⟩
    ·
     have q0:(r.id==s.id)=false:=beq_eq_false_iff_ne.2 e0;have HE:Hid (kg r s=false):=Lh (decide_eq_false fun h=>e0 h.1);clear e0;go_wp2;refine wp_region_quiet_below (by kernel_rfl) (by kernel_rfl) ?_
     repeat (first | go_big_quiet_step (fail) | quiet_step (fail))
     refine wpQuiet_nil ?_;intro _ hw';obtain ⟨⟨dq,osq⟩,hw''⟩:=hw';subst hw'';have cO:=Lh (aj iT.out (below_regrown wr dq osq));go_wp2;go_ret;exact ⟨ay (by rw [<- HK.out,bX.out,HE.out,Bool.false_and]),aj HW.out cO.out⟩
   ·
    obtain rfl:k=n:=by omega
    go_wp2;go_ret;refine ⟨ay ?_,HW.out.trans (iT.out.mono HW.out.size)⟩;rw [<- HK.out,List.drop_eq_nil_of_le (Nat.le_of_eq HN.out.symm),List.drop_eq_nil_of_le (Nat.le_of_eq HM.out.symm)];rfl
 ·
  have HE:=Lh (fU (l:=xs) (m:=ys) (by rw [<- HN.out,<- HM.out];exact hnm));have hne:((n:Int) != (m:Int))=true:=bne_iff_ne.2 (by omega);go_enter Tryz.func27,Tryz.ntmps27;go_wp2;go_ret;exact ⟨ay HE.out.symm,HW.out⟩
theorem fV (xs:List T) (ao bo:Option Addr) (n ca cb:Nat) (w0 w:World) (hw:Below w0.heap.size w0 w) (hA:Ls w ao n ca xs) (hB:Ls w bo n cb xs) :
  Calls Tryz.prog 27 #[.slice ao n ca,.slice bo n cb] w fun e w'=>e=.returned (.bool true)/\Below w0.heap.size w0 w':=by
 have h:=iI xs xs ao bo n n ca cb w0 w hw hA hB;rw [eO] at h;exact h
end Go.Proofs.YtpfdnemaaeolcaaGreat.Sn
namespace Go.Proofs.YtpfdnemaaeolcaaGreat
open Go.RowKit
open Vt (Rt)
open Go.Sort (grow)
theorem fV (xs:List Rt) (ao bo:Option Addr) (n ca cb:Nat) (w0 w:World) (hw:Below w0.heap.size w0 w) (hA:om w ao n ca xs) (hB:om w bo n cb xs) :
  Calls Tryz.prog 23 #[.slice ao n ca,.slice bo n cb] w fun e w'=>e=.returned (.bool true)/\Below w0.heap.size w0 w':=by
 have HW:=Lh hw;have HA:=Lh hA;have HB:=Lh hB;have HN:=Lh hA.len;have hca:=hA.reach;have hfa:=hA.fits;have hcb:=hB.reach;have OQ:=hB.fits;clear hw hA hB;have hne:((n:Int) != (n:Int))=false:=bne_self_eq_false _;go_enter Tryz.func23,Tryz.ntmps23;go_wp2
 go_loopw [5] (fun i wr=>∃ k:Nat,k<=n/\i=.int .i64 k/\Hid (Below w.heap.size w wr)) (fun i _=>n - (intOf i).toNat)
 case atStart=>exact ⟨0,Nat.zero_le _,rfl,Lh (Below.refl _ _)⟩
 case round =>
  obtain ⟨k,hk,rfl,iT⟩:=hrel;by_cases hlt:k < n
  ·
   obtain ⟨a,oa,rfl⟩:=HA.out.at (by omega);obtain ⟨b,ob,rfl⟩:=HB.out.at (by omega);have hkr:k < xs.length:=HN.out▸hlt;obtain ⟨r,hr⟩:∃ r,xs[k]=r:=⟨_,rfl⟩;have h1:=(HA.out.row k hkr).below iT.out;have h2:=(HB.out.row k hkr).below iT.out;rw [hr] at h1 h2;clear hr;obtain ⟨g0,g1,g2,g3,g4⟩:=h1;obtain ⟨f0,f1,f2,f3,f4⟩:=h2;have g0':=cell_regrown g0;have g1':=cell_regrown g1;have g2':=cell_regrown g2;have g3':=cell_regrown g3;have g4':=cell_regrown g4;have OT:=cell_regrown f0;have OU:=cell_regrown f1;have f2':=cell_regrown f2;have f3':=cell_regrown f3;have f4':=cell_regrown f4;have q0:(r.cat.toList==r.cat.toList)=true:=beq_self_eq_true _;have q1:(r.y==r.y)=true:=beq_self_eq_true _;have q2:(r.m==r.m)=true:=beq_self_eq_true _;have q3:(r.d==r.d)=true:=beq_self_eq_true _;have q4:(r.bp==r.bp)=true:=beq_self_eq_true _;go_wp2;refine wp_region_quiet_below (by kernel_rfl) (by kernel_rfl) ?_
   repeat (first | go_big_quiet_step (fail) | quiet_step (fail))
   refine wpQuiet_nil ?_;intro _ hw';obtain ⟨⟨dq,osq⟩,hw''⟩:=hw';subst hw'';have cO:=Lh (aj iT.out (below_regrown wr dq osq));go_wp2;go_roundw
   case rel=>exact ⟨k+1,by omega,by go_num,cO⟩
   case measure=>simp [intOf];omega
  ·
   obtain rfl:k=n:=by omega
   go_wp2;go_ret;exact ⟨rfl,HW.out.trans (iT.out.mono HW.out.size)⟩
end Go.Proofs.YtpfdnemaaeolcaaGreat
