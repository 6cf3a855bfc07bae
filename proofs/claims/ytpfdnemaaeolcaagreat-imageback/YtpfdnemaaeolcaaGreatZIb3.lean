import Derived.Maps.AppendAt
import Derived.Laws.AppendOwnNone
import Derived.Laws.Rows
import Derived.RegionTactic
import Derived.Test.YtpfdnemaaeolcaaGreatZIb1
import Derived.Test.YtpfdnemaaeolcaaGreatZIb2
variable {s y m d a:Int} {w:Go.World} {B b:Nat} {v:Go.Value} {r:List UInt8} {c:ByteArray}
set_option maxHeartbeats 8000000
namespace Go.Proofs.YtpfdnemaaeolcaaGreat.Sn
open Go.RowKit
open Mem
def rv (r:T):List Value:=[.int .i64 r.id,.int .i64 r.last,.int .i64 r.why,.int .i64 r.num,.int .i64 r.au]
theorem aM (r:T):(rv r).length=5:=rfl
theorem aB:∀ rs:List T,(rs.flatMap rv).length=rs.length*5
 | []=>rfl
 | r::l=>by
  rw [List.flatMap_cons,List.length_append,aM,aB l,List.length_cons];omega
theorem aS:∀ (rs:List T) (k p:Nat) (hk:k < rs.length),p < 5->(rs.flatMap rv)[k*5+p]? =(rv rs[k])[p]?
 | r::l,0,p,_,hp=>by
  rw [List.flatMap_cons,List.getElem?_append_left (by rw [aM];omega),Nat.zero_mul,Nat.zero_add];rfl
 | r::l,k+1,p,hk,hp=>by
  rw [List.flatMap_cons,List.getElem?_append_right (by rw [aM];omega),aM,show (k+1)*5+p - 5=k*5+p by omega];exact aS l k p (by simpa using hk) hp
theorem one_cell (rs:List T):∀ v∈rs.flatMap rv,v.oneCell'=true:=by
 intro v hv;obtain ⟨r,_,h⟩:=List.mem_flatMap.1 hv;unfold rv at h;simp only [List.mem_cons,List.not_mem_nil,or_false] at h;rcases h with rfl | rfl | rfl | rfl | rfl <;> rfl
theorem dA {off:Nat} {rs:List T} (h:∀ (k:Nat) (hk:k < rs.length),At w b (off+k*5) rs[k]) (j:Nat) (u:Value) (hu:(rs.flatMap rv)[j]? =some u):w.cell? ((⟨b,off,none⟩:Addr).add j)=some u:=by
 have hj:j < (rs.flatMap rv).length:=by
  obtain ⟨hj,_⟩:=List.getElem?_eq_some_iff.1 hu;exact hj
 rw [aB] at hj;obtain ⟨k,p,rfl,hp⟩:∃ k p,j=k*5+p/\p < 5:=⟨j / 5,j % 5,by omega,by omega⟩;have hk:k < rs.length:=by omega
 rw [aS rs k p hk hp] at hu
 have ha:(⟨b,off,none⟩:Addr).add (k*5+p)=⟨b,off+k*5+p,none⟩:=by
  unfold Addr.add;split
  ·
   rename_i e;simp only [Addr.mk.injEq,true_and,and_true];omega
  ·
   simp only [Addr.mk.injEq,true_and,and_true];omega
 rw [ha];obtain ⟨c0,c1,c2,c3,c4⟩:=h k hk;have hp':p=0\/p=1\/p=2\/p=3\/p=4:=by omega
 unfold rv at hu;rcases hp' with rfl | rfl | rfl | rfl | rfl
 all_goals simp at hu
 all_goals subst hu
 · exact c0
 · exact c1
 · exact c2
 · exact c3
 · exact c4
def Own (w:World) (B:Nat) (v:Value) (xs:List T):Prop:=w.ownsRow B 84 5 v xs.length (xs.flatMap rv)
theorem aN (w:World) (B:Nat):Own w B (.slice none 0 0) []:=⟨rfl,.inl ⟨rfl,rfl⟩⟩
variable {xs:List T}
theorem aX (h:Own w B v xs) (hs:∀ r∈xs,Short r):∃ ao cap,v=.slice ao xs.length cap/\Ls w ao xs.length cap xs/\(∀ ad,ao=some ad->∃ g,ad=⟨g,0,none⟩/\B<=g):=by
 rcases h.2 with ⟨h',h2⟩ | ⟨g,cap,cur,h',hb,hg,hnc,hcm,hcs,htake⟩
 ·
  have e:xs=[]:=List.length_eq_zero_iff.1 h2;subst e;exact ⟨none,0,h',⟨rfl,Nat.le_refl _,by omega,fun _=>rfl,.inl rfl,hs⟩,fun ad k=>by cases k⟩
 ·
  refine ⟨some ⟨g,0,none⟩,cap,h',⟨rfl,hnc,hcm,fun k=>(by cases k),.inr ⟨g,0,rfl,fun k hk=>?_⟩,hs⟩,fun ad k=>by cases k;exact ⟨g,rfl,hb⟩⟩
  have hcell:∀ p,p < 5->w.cell? ⟨g,0+k*5+p,none⟩=(rv xs[k])[p]? :=by
   intro p hp;rw [Nat.zero_add,cell_of_row w g _ _ _ _ hg,<- aS xs k p hk hp,<- htake,List.getElem?_take_of_lt (by omega)]
   simp
  exact ⟨hcell 0 (by omega),hcell 1 (by omega),hcell 2 (by omega),hcell 3 (by omega),hcell 4 (by omega)⟩
def zero:T:=⟨0,0,0,0,0⟩
def zeroV:Value:=.agg #[.int .i64 0,.int .i64 0,.int .i64 0,.int .i64 0,.int .i64 0]
theorem info:(Tryz.prog.info? 84).map (fun i=>(i.zero,i.size,i.bytes))=some (some zeroV,5,40):=by kernel_rfl
theorem eG {o:Oper} {a:Act} {K:Act->World->Prop} {Q:Exit->Act->World->Prop} (w:World) (s x:Operand)
  (ho:o.op=.call { callee:=.builtin .append,args:=#[s,x],argTypes:=#[28,28] })
  (B:Nat) (v:Value) (xs:List T) (hs:a.eval s=v) (hown:Own w B v xs)
  (ao:Option Addr) (n cap:Nat) (zs:List T) (hx:a.eval x=.slice ao n cap) (hn:n=zs.length) (hnil:ao=none->cap=0) (hsrc:Seg w ao zs) (hl:(xs.length+n)*40<=140737488355328) (hb:B<=w.heap.size)
  (h:∀ v' w1,Own w1 B v' (xs++zs)->w.grownBy w1 v.ownBlock->(v'.ownBlock=v.ownBlock\/v'.ownBlock=some w.heap.size)->K (a.put o.dst v') w1):o.wp Tryz.prog a w K Q:=by
 have hzs:zeroV.cells.size=5:=rfl;obtain ⟨i0,hi,hz0,hz1,hz2⟩:=info_parts info;have hmx:maxLen=9223372036854775807:=rfl
 have empty:zs=[]->n=0->Own w B v (xs++zs):=by
  intro e _;rw [e,List.append_nil];exact hown
 cases ao with
 | none =>
  obtain rfl:cap=0:=hnil rfl;rcases hsrc with e | ⟨b,off,e,_⟩
  ·
   obtain rfl:n=0:=by rw [hn,e];rfl
   have hrun:=run_append_owned_none (P:=Tryz.prog) (w:=w) B 28 o.type 84 i0 5 Tryz.underlying28 hi v _ _ hown;unfold Oper.wp;simp [execOp,ho,resolve,invoke,builtin,hs,hx,hrun,Result.andThen];exact h v w (empty e rfl) ⟨rfl,rfl,rfl,Nat.le_refl _,fun _ _ _=>rfl⟩ (.inl rfl)
  · cases e
 | some ad =>
  obtain ⟨v',w',hr,h2,h3,_,h5⟩:=run_append_own_at (P:=Tryz.prog) w B 28 o.type 84 i0 zeroV 5 40 Tryz.underlying28 hi hz0 hz1 hz2 hzs (by omega) v xs.length (xs.flatMap rv) hown ad n cap (zs.flatMap rv) (by rw [aB,hn]) (by
   rcases hsrc with e | ⟨b,off,e,hc⟩
   ·
    rw [e];intro j u hu;simp at hu
   ·
    cases e
    exact fun j u hu=>dA hc j u hu) (one_cell zs) (by omega) hl hb
  unfold Oper.wp execOp;simp only [ho,resolve,invoke,builtin,Sem.run_bind,Sem.run_pure,Result.andThen_ok,List.map_toArray,List.map_cons,List.map_nil,hs,hx,hr];refine h v' w' ?_ h3 h5;unfold Own;rw [List.flatMap_append,List.length_append,<- hn];exact h2
theorem aG {ops:Array Oper} {rest:List Oper} {o:Oper} {a:Act} {Q:Exit->Act->World->Prop} (w:World) (hgd:o.guard=none) (s x:Operand)
  (ho:o.op=.call { callee:=.builtin .append,args:=#[s,x],argTypes:=#[28,28] })
  (B:Nat) (v:Value) (xs:List T) (hs:a.eval s=v) (hown:Own w B v xs)
  (ao:Option Addr) (n cap:Nat) (zs:List T) (hx:a.eval x=.slice ao n cap) (hn:n=zs.length) (hnil:ao=none->cap=0) (hsrc:Seg w ao zs) (hl:(xs.length+n)*40<=140737488355328) (hb:B<=w.heap.size)
  (h:∀ v' w1,Own w1 B v' (xs++zs)->w.grownBy w1 v.ownBlock->(v'.ownBlock=v.ownBlock\/v'.ownBlock=some w.heap.size)->wpList Tryz.prog ops Q rest (a.put o.dst v') w1):wpList Tryz.prog ops Q (o::rest) a w :=
 wpList_plain hgd fun _ hK=>eG w s x ho B v xs hs hown ao n cap zs hx hn hnil hsrc hl hb fun v' w1 h1 h2 h3=>hK _ _ (h v' w1 h1 h2 h3)
theorem bK (h:Own w B v xs):∀ k,v.ownBlock=some k->B<=k:=by
 intro k hk;rcases h.2 with ⟨h',_⟩ | ⟨g,cap,cur,h',hb,_⟩
 ·
  rw [h'] at hk;cases hk
 ·
  rw [h'] at hk;simp only [Value.ownBlock,Option.some.injEq] at hk;omega
theorem bD {C:Nat} (h:Own w B v xs) (hc:C<=B):Own w C v xs:=by
 obtain ⟨h1,h2⟩:=h;refine ⟨h1,?_⟩;rcases h2 with h2 | ⟨g,cap,cur,h',hb,h3⟩
 · exact .inl h2
 · exact .inr ⟨g,cap,cur,h',by omega,h3⟩
theorem bA (h:Own w B v xs) (o:Obj):Own (w.alloc o) B v xs:=World.ownsRow.alloc h o
def block (r:T):Obj:=.cells #[.int .i64 r.id,.int .i64 r.last,.int .i64 r.why,.int .i64 r.num,.int .i64 r.au] 84 (0,0)
theorem bB {X:World} {g:Nat} {r:T} (h:X.heap[g]? =some (block r)):Seg X (some ⟨g,0,none⟩) [r]:=by
 refine .inr ⟨g,0,rfl,fun k hk=>?_⟩;obtain rfl:k=0:=by simpa using hk
 unfold block at h;refine ⟨?_,?_,?_,?_,?_⟩
 all_goals rw [cell_of_row X g _ _ _ _ h]
 all_goals rfl
end Go.Proofs.YtpfdnemaaeolcaaGreat.Sn
set_option linter.unusedVariables false
namespace Go.Proofs.YtpfdnemaaeolcaaGreat.Sp
open Sn (T)
def lt (a b:Int):Bool:=decide (a < b)
theorem lt_iff {b:Int}:lt a b=true↔a < b:=decide_eq_true_iff
theorem lt_trans {b c:Int} (h:lt a b=true) (k:lt b c=true):lt a c=true:=lt_iff.2 (by have:=lt_iff.1 h;have:=lt_iff.1 k;omega)
theorem iF {b:Int} (h:lt a b=true):a≠b:=by
 have:=lt_iff.1 h;omega
def KD (r:T):Bool:=decide (r.why=0)&&(decide (r.num=0)&&decide (r.au=0))
theorem vv {r:T}:KD r=true↔r.why=0/\r.num=0/\r.au=0:=by
 unfold KD;rw [Bool.and_eq_true,Bool.and_eq_true,decide_eq_true_iff,decide_eq_true_iff,decide_eq_true_iff]
def qH (n:Int):Bool:=decide (1<=n)&&decide (n<=1099511627776)
theorem mX {n:Int}:qH n=true↔1<=n/\n<=1099511627776:=by
 unfold qH;rw [Bool.and_eq_true,decide_eq_true_iff,decide_eq_true_iff]
def sound (r:T):Bool:=decide (1<=r.id)&&(decide (0<=r.last)&&(decide (r.last<=1099511627776)&&(!(decide (r.last=0))||KD r)))
theorem bL {r:T}:sound r=true↔1<=r.id/\0<=r.last/\r.last<=1099511627776/\(r.last=0->r.why=0/\r.num=0/\r.au=0):=by
 unfold sound;rw [Bool.and_eq_true,Bool.and_eq_true,Bool.and_eq_true,Bool.or_eq_true,decide_eq_true_iff,decide_eq_true_iff,decide_eq_true_iff,vv,Bool.not_eq_true',decide_eq_false_iff_not];constructor
 ·
  rintro ⟨h1,h2,h3,h4⟩;exact ⟨h1,h2,h3,fun e=>h4.resolve_left fun k=>k e⟩
 ·
  rintro ⟨h1,h2,h3,h4⟩;refine ⟨h1,h2,h3,?_⟩;by_cases e:r.last=0
  · exact .inr (h4 e)
  · exact .inl e
def ok (p:Option T) (r:T):Bool:=sound r&&(match p with | none=>true | some q=>lt q.id r.id)
def dN:Option T->List T->Bool
 | _,[]=>true
 | p,r::l=>ok p r&&dN (some r) l
def aA (l:List T):Bool:=decide (l.length<=8)&&dN none l
def Sorted (l:List T):Prop:=l.Pairwise fun a b=>lt a.id b.id=true
theorem iP:∀ (l:List T) (p:Option T),dN p l=true↔(∀ r∈l,sound r=true)/\Sorted l/\(∀ q,p=some q->∀ r∈l,lt q.id r.id=true)
 | [],p=>by simp [dN,Sorted]
 | a::l,p=>by
  have ih:=iP l (some a);rw [dN,Bool.and_eq_true,ih];unfold ok Sorted;rw [Bool.and_eq_true,List.pairwise_cons];constructor
  ·
   rintro ⟨⟨h1,h2⟩,h3,h4,h5⟩;refine ⟨?_,⟨h5 a rfl,h4⟩,?_⟩
   ·
    intro r hr;rcases List.mem_cons.1 hr with rfl | hr
    · exact h1
    · exact h3 r hr
   ·
    rintro q rfl r hr;rcases List.mem_cons.1 hr with rfl | hr
    · exact h2
    · exact lt_trans h2 (h5 a rfl r hr)
  ·
   rintro ⟨h1,⟨h2,h3⟩,h4⟩;refine ⟨⟨h1 a (List.mem_cons_self ..),?_⟩,fun r hr=>h1 r (List.mem_cons_of_mem _ hr),h3,?_⟩
   ·
    cases p with
    | none=>rfl
    | some q=>exact h4 q rfl a (List.mem_cons_self ..)
   ·
    rintro q ⟨⟩ r hr;exact h2 r hr
theorem aJ (l:List T):aA l=true↔l.length<=8/\(∀ r∈l,sound r=true)/\Sorted l:=by
 unfold aA;rw [Bool.and_eq_true,decide_eq_true_iff,iP]
 simp
variable {l:List T}
theorem tO (h:8 < l.length):aA l=false:=by
 unfold aA;rw [decide_eq_false (by omega)];rfl
theorem qC (h:l.length<=8):aA l=dN none l:=by
 unfold aA;rw [decide_eq_true h];rfl
def bO (l:List T) (k:Nat):Option T:=if k=0 then none else l[k - 1]?
theorem qA (l:List T) (k:Nat) (h:k < l.length):dN (bO l k) (l.drop k)=(ok (bO l k) l[k]&&dN (bO l (k+1)) (l.drop (k+1))):=by
 rw [List.drop_eq_getElem_cons h,dN]
 congr 2
 unfold bO;rw [if_neg (by omega),Nat.add_sub_cancel,List.getElem?_eq_getElem h]
theorem CX {j:Nat} {q:T} (h:j < l.length) (hq:l[j]=q):bO l (j+1)=some q:=by
 unfold bO;rw [if_neg (by omega),Nat.add_sub_cancel,List.getElem?_eq_getElem h,hq]
def ix (s:Int):List T->Nat
 | []=>0
 | r::l=>if r.id=s then 0 else ix s l+1
theorem qD (s:Int):∀ l,ix s l<=l.length
 | []=>Nat.le_refl _
 | a::l=>by
  have:=qD s l;unfold ix;split <;> simp
  exact this
theorem uW {s:Int}:∀ {l:List T},(∀ r∈l,r.id≠s)->ix s l=l.length
 | [],_=>rfl
 | r::l,h=>by
  unfold ix;rw [if_neg (h r (by simp)),uW (fun x hx=>h x (by simp [hx]))];rfl
theorem EH {s:Int}:∀ {l:List T} {k:Nat} (hk:k < l.length),(∀ r∈l.take k,r.id≠s)->l[k].id=s->ix s l=k
 | [],_,hk,_,_=>absurd hk (Nat.not_lt_zero _)
 | r::l,0,_,_,h=>by
  unfold ix;exact if_pos h
 | r::l,k+1,hk,hn,h=>by
  have e:=EH (l:=l) (s:=s) (k:=k) (by simpa using hk) (fun x hx=>hn x (by simp [hx])) (by simpa using h);unfold ix;rw [if_neg (hn r (by simp)),e]
theorem Bp {s:Int}:∀ {l:List T} (h:ix s l < l.length),(l[ix s l]).id=s
 | [],h=>absurd h (Nat.not_lt_zero _)
 | r::l,h=>by
  by_cases e:r.id=s
  ·
   have h0:ix s (r::l)=0:=if_pos e;simp only [h0,List.getElem_cons_zero];exact e
  ·
   have h0:ix s (r::l)=ix s l+1:=if_neg e;have h1:ix s l < l.length:=by rw [h0] at h;simpa using h
   simp only [h0,List.getElem_cons_succ];exact Bp h1
theorem jR:ix s l < l.length↔∃ r∈l,r.id=s:=by
 constructor
 ·
  intro h;exact ⟨_,List.getElem_mem h,Bp h⟩
 ·
  rintro ⟨r,hr,rfl⟩;by_cases h:ix r.id l < l.length
  · exact h
  ·
   exfalso
   have:∀ (l:List T),r∈l->ix r.id l < l.length:=by
    intro l
    induction l with
    | nil=>intro h;cases h
    | cons a l ih =>
     intro h;unfold ix;split
     · simp
     ·
      rename_i e;rcases List.mem_cons.1 h with rfl | h
      · exact absurd rfl e
      ·
       have:=ih h
       simp
       exact this
   exact h (this l hr)
def own (l:List T) (s:Int):T:=(l[ix s l]?).getD Sn.zero
theorem dH (h:ix s l < l.length):own l s=l[ix s l]:=by
 unfold own;rw [List.getElem?_eq_getElem h];rfl
theorem nL (h: ¬ ix s l < l.length):own l s=Sn.zero:=by
 unfold own;rw [List.getElem?_eq_none (by omega)];rfl
theorem yV (h:ix s l < l.length):(own l s).id=s:=by
 rw [dH h];exact Bp h
theorem dP (h:ix s l < l.length):own l s∈l:=by
 rw [dH h];exact List.getElem_mem h
theorem tQ (hs:Sorted l) {a b:T} (ha:a∈l) (hb:b∈l) (h:a.id=b.id):a=b:=by
 induction l with
 | nil=>cases ha
 | cons c l ih =>
  unfold Sorted at hs;rw [List.pairwise_cons] at hs;rcases List.mem_cons.1 ha with e1 | ha
  ·
   rcases List.mem_cons.1 hb with e2 | hb
   · rw [e1,e2]
   ·
    have:=hs.1 b hb;rw [<- e1] at this;exact absurd h (iF this)
  ·
   rcases List.mem_cons.1 hb with e2 | hb
   ·
    have:=hs.1 a ha;rw [<- e2] at this;exact absurd h.symm (iF this)
   · exact ih hs.2 ha hb
theorem yO (hs:Sorted l) {r:T} (h:r∈l):ix r.id l < l.length/\own l r.id=r:=by
 have hi:ix r.id l < l.length:=jR.2 ⟨r,h,rfl⟩;exact ⟨hi,tQ hs (dP hi) h (yV hi)⟩
def spot (s:Int):List T->Nat
 | []=>0
 | a::l=>if lt a.id s=true then spot s l+1 else 0
theorem mU (s:Int) (l:List T) (k:Nat) (h:k < l.length):spot s (l.drop k)=if lt l[k].id s=true then spot s (l.drop (k+1))+1 else 0:=by
 rw [List.drop_eq_getElem_cons h];rfl
def dF (l:List T) (r:T):List T:=l.take (spot r.id l)++r::l.drop (spot r.id l)
theorem oJ {a:T} {r:T} (h:lt a.id r.id=true):dF (a::l) r=a::dF l r:=by
 have e:spot r.id (a::l)=spot r.id l+1:=if_pos h;unfold dF;rw [e];rfl
theorem oK {a:T} {r:T} (h:lt a.id r.id=false):dF (a::l) r=r::a::l:=by
 have e:spot r.id (a::l)=0:=if_neg (by rw [h];simp);unfold dF;rw [e];rfl
theorem kC (r:T):∀ l,(dF l r).Perm (r::l)
 | []=>List.Perm.refl _
 | a::l=>by
  cases h:lt a.id r.id
  · rw [oK h]
  ·
   rw [oJ h];exact ((kC r l).cons a).trans (List.Perm.swap r a l)
theorem fQ {r:T} {a:T}:a∈dF l r↔a=r\/a∈l:=by
 rw [(kC r l).mem_iff,List.mem_cons]
def new (i:Int):T:=⟨i,0,0,0,0⟩
def kU (l:List T) (i:Int):Int:=if aA l=false then 1 else if i < 1 then 1 else if ix i l < l.length then 12 else if 8<=l.length then 14 else 0
def mY (l:List T) (i:Int):List T:=if kU l i=0 then dF l (new i) else []
section
variable {l:List T} {i:Int}
theorem PL (h:aA l=false):kU l i=1/\mY l i=[]:=by
 have e:kU l i=1:=if_pos h;exact ⟨e,by unfold mY;rw [e];rfl⟩
theorem PN (h:aA l=true) (k:i < 1):kU l i=1/\mY l i=[]:=by
 have e:kU l i=1:=by
  unfold kU;rw [if_neg (by rw [h];simp),if_pos k]
 exact ⟨e,by unfold mY;rw [e];rfl⟩
theorem IC (h:aA l=true) (k: ¬ i < 1) (m:ix i l < l.length):kU l i=12/\mY l i=[]:=by
 have e:kU l i=12:=by
  unfold kU;rw [if_neg (by rw [h];simp),if_neg k,if_pos m]
 exact ⟨e,by unfold mY;rw [e];rfl⟩
theorem Ms (h:aA l=true) (k: ¬ i < 1) (m: ¬ ix i l < l.length) (n:8<=l.length):kU l i=14/\mY l i=[]:=by
 have e:kU l i=14:=by
  unfold kU;rw [if_neg (by rw [h];simp),if_neg k,if_neg m,if_pos n]
 exact ⟨e,by unfold mY;rw [e];rfl⟩
theorem KE (h:aA l=true) (k: ¬ i < 1) (m: ¬ ix i l < l.length) (n:l.length < 8):kU l i=0/\mY l i=dF l (new i):=by
 have e:kU l i=0:=by
  unfold kU;rw [if_neg (by rw [h];simp),if_neg k,if_neg m,if_neg (by omega)]
 exact ⟨e,by unfold mY;rw [e];rfl⟩
end
theorem oM {r:T} (h:ix s l < l.length) (a:T) (ha:a∈l.set (ix s l) r):a=r\/a∈l:=by
 obtain ⟨j,hj,e⟩:=List.getElem_of_mem ha;rw [List.getElem_set] at e;split at e
 · exact .inl e.symm
 · exact .inr (e▸List.getElem_mem _)
theorem UG {r:T} (h:ix s l < l.length) (hr:r.id=s):(l.set (ix s l) r).map T.id=l.map T.id:=by
 rw [List.map_set,hr];apply List.ext_getElem (by simp);intro j h1 h2;rw [List.getElem_set];split
 ·
  rename_i e;subst e;rw [List.getElem_map,Bp h]
 · rfl
theorem IE {m:List T} (h:l.map T.id=m.map T.id) (hs:Sorted l):Sorted m:=by
 have h1:(l.map T.id).Pairwise (fun a b=>lt a b=true):=List.pairwise_map.2 hs;rw [h] at h1;exact List.pairwise_map.1 h1
theorem set_right {r:T} (hl:aA l=true) (h:ix s l < l.length) (hr:r.id=s) (k:sound r=true):aA (l.set (ix s l) r)=true:=by
 obtain ⟨h1,h2,h3⟩:=(aJ l).1 hl;refine (aJ _).2 ⟨by rw [List.length_set];exact h1,fun a ha=>?_,IE (UG h hr).symm h3⟩;rcases oM h a ha with rfl | ha
 · exact k
 · exact h2 a ha
def cut (l:List T) (k:Nat):List T:=l.take k++l.drop (k+1)
def dU (l:List T) (i:Int):Int:=if aA l=false then 1 else if l.length<=ix i l then 11 else 0
def iX (l:List T) (i:Int):List T:=if dU l i=0 then cut l (ix i l) else []
section
variable {l:List T} {i:Int}
theorem Mt (h:aA l=false):dU l i=1/\iX l i=[]:=by
 have e:dU l i=1:=if_pos h;exact ⟨e,by unfold iX;rw [e];rfl⟩
theorem yX (h:aA l=true) (k: ¬ ix i l < l.length):dU l i=11/\iX l i=[]:=by
 have e:dU l i=11:=by
  unfold dU;rw [if_neg (by rw [h];simp),if_pos (by omega)]
 exact ⟨e,by unfold iX;rw [e];rfl⟩
theorem yY (h:aA l=true) (k:ix i l < l.length):dU l i=0/\iX l i=cut l (ix i l):=by
 have e:dU l i=0:=by
  unfold dU;rw [if_neg (by rw [h];simp),if_neg (by omega)]
 exact ⟨e,by unfold iX;rw [e];rfl⟩
theorem yh (l:List T) (k:Nat):(cut l k).Sublist l:=by
 unfold cut;rw [<- List.eraseIdx_eq_take_drop_succ];exact List.eraseIdx_sublist l k
theorem yj {a:T} {k:Nat} (h:a∈cut l k):a∈l:=(yh l k).subset h
theorem Mv (h:aA l=true) (k:Nat):aA (cut l k)=true:=by
 obtain ⟨h1,h2,h3⟩:=(aJ l).1 h;exact (aJ _).2 ⟨Nat.le_trans (yh l k).length_le h1,fun r hr=>h2 r (yj hr),List.Pairwise.sublist (yh l k) h3⟩
theorem UH (hs:Sorted l) (k:ix i l < l.length) (j:Int):(ix j (cut l (ix i l)) < (cut l (ix i l)).length↔j≠i/\ix j l < l.length)/\(j≠i->own (cut l (ix i l)) j=own l j):=by
 have hc:Sorted (cut l (ix i l)):=List.Pairwise.sublist (yh l _) hs
 have hmem:∀ a,a∈l->a.id≠i->a∈cut l (ix i l):=by
  intro a ha hne;obtain ⟨q,hq,rfl⟩:=List.getElem_of_mem ha;have hqk:q≠ix i l:=fun e=>hne (by subst e;exact Bp k)
  unfold cut;rcases Nat.lt_or_ge q (ix i l) with h | h
  · exact List.mem_append.2 (.inl (List.mem_take_iff_getElem.2 ⟨q,by omega,rfl⟩))
  ·
   refine List.mem_append.2 (.inr (List.mem_drop_iff_getElem.2 ⟨q - (ix i l+1),by omega,?_⟩))
   congr 1
   omega
 have hno:∀ a,a∈cut l (ix i l)->a.id≠i:=by
  intro a ha e;have hp:=List.pairwise_iff_getElem.1 hs;have hx:=Bp k;unfold cut at ha;rcases List.mem_append.1 ha with h | h
  ·
   obtain ⟨q,hq,e2⟩:=List.mem_take_iff_getElem.1 h;have:=iF (hp q (ix i l) (by omega) k (by omega));rw [hx] at this;exact this (by rw [e2];exact e)
  ·
   obtain ⟨q,hq,e2⟩:=List.mem_drop_iff_getElem.1 h;have:=iF (hp (ix i l) (ix i l+1+q) k (by omega) (by omega));rw [hx] at this;exact this (by rw [e2];exact e.symm)
 have h1:ix j (cut l (ix i l)) < (cut l (ix i l)).length↔j≠i/\ix j l < l.length:=by
  rw [jR,jR];constructor
  ·
   rintro ⟨a,ha,e⟩;exact ⟨fun e2=>hno a ha (e.trans e2),a,yj ha,e⟩
  ·
   rintro ⟨hne,a,ha,e⟩;exact ⟨a,hmem a ha (by rw [e];exact hne),e⟩
 refine ⟨h1,fun hne=>?_⟩;by_cases h:ix j l < l.length
 ·
  have hm:=yO hc (hmem _ (dP h) (by rw [yV h];exact hne));rw [yV h] at hm;exact hm.2
 · rw [nL h,nL (fun q=>h (h1.1 q).2)]
end
def bQ (l:List T) (i q:Int):Int:=if aA l=false then 1 else if l.length<=ix i l then 15 else if qH q=false then 1 else if q < (own l i).last then 16 else 0
def lookO (l:List T) (i q:Int):Bool:=decide (bQ l i q=0)&&decide (q=(own l i).last)
def qI (l:List T) (i q:Int):T:=if lookO l i q=true then own l i else Sn.zero
section
variable {l:List T} {i q:Int}
theorem PO (h:aA l=false):bQ l i q=1:=if_pos h
theorem Bq (h:aA l=true) (k: ¬ ix i l < l.length):bQ l i q=15:=by
 unfold bQ;rw [if_neg (by rw [h];simp),if_pos (by omega)]
theorem PS (h:aA l=true) (k:ix i l < l.length) (m:qH q=false):bQ l i q=1:=by
 unfold bQ;rw [if_neg (by rw [h];simp),if_neg (by omega),if_pos m]
theorem IG (h:aA l=true) (k:ix i l < l.length) (m:qH q=true) (n:q < (own l i).last):bQ l i q=16:=by
 unfold bQ;rw [if_neg (by rw [h];simp),if_neg (by omega),if_neg (by rw [m];simp),if_pos n]
theorem look_ok (h:aA l=true) (k:ix i l < l.length) (m:qH q=true) (n: ¬ q < (own l i).last):bQ l i q=0:=by
 unfold bQ;rw [if_neg (by rw [h];simp),if_neg (by omega),if_neg (by rw [m];simp),if_neg n]
theorem vw (h:bQ l i q≠0):lookO l i q=false/\qI l i q=Sn.zero:=by
 have e:lookO l i q=false:=by
  unfold lookO;rw [decide_eq_false h];rfl
 exact ⟨e,by unfold qI;rw [e];rfl⟩
theorem PU (h:bQ l i q=0) (k:q=(own l i).last):lookO l i q=true/\qI l i q=own l i:=by
 have e:lookO l i q=true:=by
  unfold lookO;rw [decide_eq_true h,decide_eq_true k];rfl
 exact ⟨e,by unfold qI;rw [e];rfl⟩
theorem PV (h:bQ l i q=0) (k:q≠(own l i).last):lookO l i q=false/\qI l i q=Sn.zero:=by
 have e:lookO l i q=false:=by
  unfold lookO;rw [decide_eq_false k,Bool.and_false]
 exact ⟨e,by unfold qI;rw [e];rfl⟩
theorem Db (h:bQ l i q=0):aA l=true/\ix i l < l.length/\qH q=true/\ ¬ q < (own l i).last:=by
 unfold bQ at h;cases h1:aA l
 · rw [if_pos h1] at h;omega
 ·
  rw [if_neg (by rw [h1];simp)] at h;by_cases h2:l.length<=ix i l
  · rw [if_pos h2] at h;omega
  ·
   rw [if_neg h2] at h;cases h3:qH q
   · rw [if_pos h3] at h;omega
   ·
    rw [if_neg (by rw [h3];simp)] at h;by_cases h4:q < (own l i).last
    · rw [if_pos h4] at h;omega
    · exact ⟨rfl,by omega,rfl,h4⟩
end
def lI (l:List T) (i q:Int):Int:=if bQ l i q≠0 then bQ l i q else if lookO l i q=true then 12 else 0
def keepR (l:List T) (i q y n g:Int):List T:=if lI l i q=0 then l.set (ix i l) ⟨i,q,y,n,g⟩ else []
section
variable {l:List T} {i q y n g:Int}
theorem EN (h:bQ l i q≠0):lI l i q=bQ l i q/\keepR l i q y n g=[]:=by
 have e:lI l i q=bQ l i q:=if_pos h;exact ⟨e,by unfold keepR;rw [e,if_neg h]⟩
theorem PW (h:bQ l i q=0) (k:lookO l i q=true):lI l i q=12/\keepR l i q y n g=[]:=by
 have e:lI l i q=12:=by
  unfold lI;rw [if_neg (by rw [h];simp),if_pos k]
 exact ⟨e,by unfold keepR;rw [e];rfl⟩
theorem vB (h:bQ l i q=0) (k:lookO l i q=false):lI l i q=0/\keepR l i q y n g=l.set (ix i l) ⟨i,q,y,n,g⟩:=by
 have e:lI l i q=0:=by
  unfold lI;rw [if_neg (by rw [h];simp),if_neg (by rw [k];simp)]
 exact ⟨e,by unfold keepR;rw [e];rfl⟩
theorem II (h:bQ l i q=0) (y n g:Int):aA (l.set (ix i l) ⟨i,q,y,n,g⟩)=true:=by
 obtain ⟨h1,h2,h3,h4⟩:=Db h;have hi:=yV h2;have hs:=bL.1 (((aJ l).1 h1).2.1 _ (dP h2));rw [hi] at hs;have hq:=mX.1 h3;exact set_right h1 h2 rfl (bL.2 ⟨hs.1,by show 0<=q;omega,hq.2,fun e=>by have e':q=0:=e;omega⟩)
end
end Go.Proofs.YtpfdnemaaeolcaaGreat.Sp
namespace Go.Proofs.YtpfdnemaaeolcaaGreat.Bl
open Vt (Rt)
structure Ps where
 av:ByteArray
 num:Int
 y:Int
 m:Int
 d:Int
 tot:Iv.iD
 bf:ByteArray
 aY:Int
 back:Bool
structure St where
 tab:List Rt
 av:List Sr.T
 post:List Ps
 book:List Ba.T
 ak:List Sn.T
 next:Int
def new:St:=⟨[],[],[],[],[],1⟩
def Own (p:Ps):Prop:=p.bf=.empty/\p.aY=0
def Takes (p q:Ps):Prop:=q.bf=p.av/\q.aY=p.num
def cnt (c:ByteArray):List Ps->Nat
 | []=>0
 | p::l=>(if p.av=c then 1 else 0)+cnt c l
theorem yt (c:ByteArray):∀ l m:List Ps,cnt c (l++m)=cnt c l+cnt c m
 | [],m=>by rw [List.nil_append,cnt,Nat.zero_add]
 | p::l,m=>by rw [List.cons_append,cnt,cnt,yt c l m];omega
theorem KF (c:ByteArray) (p:Ps):cnt c [p]=if p.av=c then 1 else 0:=by rw [cnt,cnt,Nat.add_zero]
theorem EO {c:ByteArray}:∀ {l:List Ps},(∀ p∈l,p.av≠c)->cnt c l=0
 | [],_=>rfl
 | p::l,h=>by rw [cnt,if_neg (h p (by simp)),EO fun q hq=>h q (by simp [hq])]
theorem yZ (c:ByteArray) (l:List Ps) (i:Nat) (h:i < l.length):cnt c (l.take (i+1))=cnt c (l.take i)+(if l[i].av=c then 1 else 0):=by
 rw [List.take_succ_eq_append_getElem h,yt,KF]
theorem cnt_mono (c:ByteArray) (l:List Ps) {i j:Nat} (h:i<=j):cnt c (l.take i)<=cnt c (l.take j):=by
 have:l.take j=l.take i++(l.take j).drop i:=by
  have:=List.take_append_drop i (l.take j);rw [List.take_take,Nat.min_eq_left h] at this;exact this.symm
 rw [this,yt];omega
def dV:List Pt.T->Int
 | []=>0
 | p::l=>p.net+dV l
def dI:List Pt.T->Int
 | []=>0
 | p::l=>p.aP+dI l
structure sI (t:Iv.iD):Prop where
 some:t.parts≠[]
 few:t.parts.length<=12
 each:∀ p∈t.parts,Rn.name (txt p.cat)=true/\0<=p.bp/\p.bp<=100000/\Sh.iC p.net p.bp=0/\Sh.fK p.net p.bp=p.aP
 so:Iv.Sorted t.parts
 net:t.net=dV t.parts
 aP:t.aP=dI t.parts
 au:t.au=t.net+t.aP
 fit:Mn.Fit t.net/\Mn.Fit t.aP/\Mn.Fit t.au
def aT:List Ps->List Ba.T->Option (List Ba.T)
 | [],b=>some b
 | p::l,b=>if Po.dR p.tot.parts=0/\Po.jw b (Po.bE p.tot.au p.tot.parts)=0 then aT l (Po.iR (Po.bE p.tot.au p.tot.parts) b) else none
theorem lT:∀ (l m:List Ps) (b:List Ba.T),aT (l++m) b=(aT l b).bind (aT m)
 | [],m,b=>rfl
 | p::l,m,b=>by
  rw [List.cons_append,aT,aT];split
  · exact lT l m _
  · rfl
theorem pK:∀ {l:List Ps} {b c:List Ba.T},aT l b=some c->Po.Sorted b->Po.Sorted c
 | [],b,c,h,hb=>by
  rw [aT,Option.some.injEq] at h;rw [<- h];exact hb
 | p::l,b,c,h,hb=>by
  rw [aT] at h;split at h
  · exact pK h (Po.kD _ hb)
  · cases h
structure Link (l:List Ps) (i:Nat) (h:i < l.length):Prop where
 back:l[i].back=true↔∃ j,∃ hj:j < l.length,i < j/\Takes l[i] l[j]
 one:∀ j k,(hj:j < l.length)->(hk:k < l.length)->i < j->i < k->Takes l[i] l[j]->Takes l[i] l[k]->j=k
 of : ¬ Own l[i] -> l[i].back = false /\ ∃ k,∃ hk : k < i,Takes (l[k]'(by omega)) l[i] /\ Own (l[k]'(by omega)) /\ Dt.days (l[k]'(by omega)).y (l[k]'(by omega)).m (l[k]'(by omega)).d <= Dt.days l[i].y l[i].m l[i].d /\ Iv.dQ (l[k]'(by omega)).tot = 0 /\ l[i].tot = Iv.back (l[k]'(by omega)).tot
structure Right (s:St):Prop where
 tab:Vt.bN s.tab=true
 av:Se.aA s.av=true
 ak:Sp.aA s.ak=true
 few:s.post.length<=40
 next:1<=s.next/\s.next<=1099511627776
 ids:∀ x∈s.ak,x.id < s.next
 has:∀ p∈s.post,Se.ix p.av s.av < s.av.length
 num:∀ i (h:i < s.post.length),s.post[i].num=(cnt s.post[i].av (s.post.take i):Int)+1
 full:∀ r∈s.av,(cnt r.name s.post:Int)=r.next - 1
 day:∀ p∈s.post,Dt.aA p.y p.m p.d=true
 tot:∀ p∈s.post,sI p.tot
 link:∀ i (h:i < s.post.length),Link s.post i h
 book:aT s.post []=some s.book
theorem nN:Right new:=by
 refine ⟨rfl,rfl,rfl,by simp [new],⟨by show (1:Int)<=1;omega,by show (1:Int)<=_;omega⟩,?_,?_,?_,?_,?_,?_,?_,rfl⟩
 ·
  intro x hx;cases hx
 ·
  intro x hx;cases hx
 ·
  intro i h;exact absurd h (Nat.not_lt_zero _)
 ·
  intro x hx;cases hx
 ·
  intro x hx;cases hx
 ·
  intro x hx;cases hx
 ·
  intro i h;exact absurd h (Nat.not_lt_zero _)
theorem Right.sorted {s:St} (h:Right s):Po.Sorted s.book:=pK h.book List.Pairwise.nil
theorem Right.pos {s:St} (h:Right s) (i:Nat) (hi:i < s.post.length):1<=s.post[i].num:=by
 have:=h.num i hi;omega
theorem Right.inj {s:St} (h:Right s) {i j:Nat} (hi:i < s.post.length) (hj:j < s.post.length) (hs:s.post[i].av=s.post[j].av) (hn:s.post[i].num=s.post[j].num):i=j:=by
 have key:∀ {i j:Nat} (hi:i < s.post.length) (hj:j < s.post.length),s.post[i].av=s.post[j].av->s.post[i].num=s.post[j].num-> ¬ i < j:=by
  intro i j hi hj hs hn hij;have h1:=h.num i hi;have h2:=h.num j hj;have h3:=yZ s.post[i].av s.post i hi;rw [if_pos rfl] at h3;have h4:=cnt_mono s.post[i].av s.post (show i+1<=j by omega);rw [<- hs] at h2;omega
 rcases Nat.lt_trichotomy i j with q | q | q
 · exact absurd q (key hi hj hs hn)
 · exact q
 · exact absurd q (key hj hi hs.symm hn.symm)
theorem Right.series {s:St} (h:Right s) {l:List Sr.T} (hl:Se.aA l=true) (hh:∀ c,Se.ix c s.av < s.av.length->Se.ix c l < l.length) (hf:∀ r∈l,(cnt r.name s.post:Int)=r.next - 1):Right ⟨s.tab,l,s.post,s.book,s.ak,s.next⟩ :=
 ⟨h.tab,hl,h.ak,h.few,h.next,h.ids,fun p hp=>hh _ (h.has p hp),h.num,hf,h.day,h.tot,h.link,h.book⟩
theorem Right.table {s:St} (h:Right s) {l:List Rt} (hl:Vt.bN l=true):Right ⟨l,s.av,s.post,s.book,s.ak,s.next⟩ :=
 ⟨hl,h.av,h.ak,h.few,h.next,h.ids,h.has,h.num,h.full,h.day,h.tot,h.link,h.book⟩
theorem Right.sessions {s:St} (h:Right s) {l:List Sn.T} {n:Int} (hl:Sp.aA l=true) (hn:1<=n/\n<=1099511627776) (hi:∀ x∈l,x.id < n):Right ⟨s.tab,s.av,s.post,s.book,l,n⟩ :=
 ⟨h.tab,h.av,hl,h.few,hn,hi,h.has,h.num,h.full,h.day,h.tot,h.link,h.book⟩
theorem Right.opened {s:St} (h:Right s) {c:ByteArray} {n:Int} (he:Se.eX s.av c n=0):Right ⟨s.tab,Se.jT s.av c n,s.post,s.book,s.ak,s.next⟩:=by
 have h0:=he;unfold Se.eX at h0
 have h1:Rn.name (txt c)=true:=by
  cases q:Rn.name (txt c)
  · rw [if_neg (by rw [h.av];simp),if_pos q] at h0;omega
  · rfl
 have h2:Se.lim n=true:=by
  cases q:Se.lim n
  · rw [if_neg (by rw [h.av];simp),if_neg (by rw [h1];simp),if_pos q] at h0;omega
  · rfl
 have h3: ¬ Se.ix c s.av < s.av.length:=fun q=>by
  rw [if_neg (by rw [h.av];simp),if_neg (by rw [h1];simp),if_neg (by rw [h2];simp),if_pos q] at h0;omega
 have h4:s.av.length < 8:=by
  rcases Nat.lt_or_ge s.av.length 8 with q | q
  · exact q
  ·
   rw [if_neg (by rw [h.av];simp),if_neg (by rw [h1];simp),if_neg (by rw [h2];simp),if_neg h3,if_pos q] at h0;omega
 rw [(Se.Kq h.av h1 h2 h3 h4).2];have hw:=Se.Pz (r:=⟨c,1,n,false⟩) ((Se.aJ _).1 h.av).2.2 h3;refine h.series (Se.Io h.av h1 h2 h3 h4) (fun d hd=>(hw d).1.2 (.inr hd)) fun r hr=>?_
 rcases Se.fQ.1 hr with rfl | hr
 ·
  show (cnt c s.post:Int)=1 - 1;rw [EO (c:=c) fun p hp (e:p.av=c)=>h3 (e▸h.has p hp)];omega
 · exact h.full r hr
theorem Right.shut {s:St} (h:Right s) {c:ByteArray} (he:Se.mV s.av c=0):Right ⟨s.tab,Se.sQ s.av c,s.post,s.book,s.ak,s.next⟩:=by
 obtain ⟨_,h2,_⟩:=Se.AQ he;have hr:=Se.Ip he;rw [Se.yP he] at hr ⊢;have hn:(Se.PD (Se.own s.av c)).name=c:=Se.jS h2;have hw:=Se.Kt h2 hn;refine h.series hr (fun d hd=>by rw [(hw d).1,List.length_set];exact hd) fun r hr=>?_
 rcases Se.oM h2 r hr with rfl | hr
 · exact h.full (Se.own s.av c) (Se.dP h2)
 · exact h.full r hr
theorem Right.kept {s:St} (h:Right s) {i q:Int} (he:Sp.bQ s.ak i q=0) (y n g:Int):Right ⟨s.tab,s.av,s.post,s.book,s.ak.set (Sp.ix i s.ak) ⟨i,q,y,n,g⟩,s.next⟩:=by
 obtain ⟨_,h2,_,_⟩:=Sp.Db he;refine h.sessions (Sp.II he y n g) h.next fun x hx=>?_
 rcases Sp.oM h2 x hx with rfl | hx
 ·
  have:=h.ids _ (Sp.dP h2);rw [Sp.yV h2] at this;exact this
 · exact h.ids x hx
theorem Right.left {s:St} (h:Right s) (k:Nat):Right ⟨s.tab,s.av,s.post,s.book,Sp.cut s.ak k,s.next⟩ :=
 h.sessions (Sp.Mv h.ak k) h.next fun x hx=>h.ids x (Sp.yj hx)
theorem Right.joined {s:St} (h:Right s) (h8:s.ak.length < 8) (hn:s.next < 1099511627776):Right ⟨s.tab,s.av,s.post,s.book,s.ak++[Sp.new s.next],s.next+1⟩:=by
 obtain ⟨h1,h2,h3⟩:=(Sp.aJ _).1 h.ak;refine h.sessions ((Sp.aJ _).2 ⟨by rw [List.length_append];show _+1<=8;omega,fun r hr=>?_,?_⟩) (by have:=h.next;omega) fun x hx=>?_
 ·
  rcases List.mem_append.1 hr with hr | hr
  · exact h2 r hr
  ·
   obtain rfl:=List.mem_singleton.1 hr;exact Sp.bL.2 ⟨h.next.1,by show (0:Int)<=0;omega,by show (0:Int)<=1099511627776;omega,fun _=>⟨rfl,rfl,rfl⟩⟩
 ·
  refine List.pairwise_append.2 ⟨h3,List.pairwise_singleton _ _,fun a ha b hb=>?_⟩;obtain rfl:=List.mem_singleton.1 hb;exact Sp.lt_iff.2 (h.ids a ha)
 ·
  rcases List.mem_append.1 hx with hx | hx
  ·
   have:=h.ids x hx;show x.id < s.next+1;omega
  ·
   obtain rfl:=List.mem_singleton.1 hx;show s.next < s.next+1;omega
def mark (l:List Ps) (k:Nat):List Ps:=l.modify k fun p=>⟨p.av,p.num,p.y,p.m,p.d,p.tot,p.bf,p.aY,true⟩
theorem za (c:ByteArray):∀ {l m:List Ps},l.map (·.av)=m.map (·.av)->cnt c l=cnt c m
 | [],[],_=>rfl
 | [],_::_,h=>by simp at h
 | _::_,[],h=>by simp at h
 | a::l,b::m,h=>by
  rw [List.map_cons,List.map_cons,List.cons.injEq] at h;rw [cnt,cnt,za c h.2,h.1]
theorem sV:∀ {l m:List Ps} (b:List Ba.T),l.map (·.tot)=m.map (·.tot)->aT l b=aT m b
 | [],[],b,_=>rfl
 | [],_::_,b,h=>by simp at h
 | _::_,[],b,h=>by simp at h
 | a::l,c::m,b,h=>by
  rw [List.map_cons,List.map_cons,List.cons.injEq] at h;rw [aT,aT,h.1];split
  · exact sV _ h.2
  · rfl
structure Like (l m:List Ps):Prop where
 len:m.length=l.length
 each : ∀ i (h : i < l.length),(m[i]'(len ▸ h)).av = l[i].av /\ (m[i]'(len ▸ h)).num = l[i].num /\ (m[i]'(len ▸ h)).y = l[i].y /\ (m[i]'(len ▸ h)).m = l[i].m /\ (m[i]'(len ▸ h)).d = l[i].d /\ (m[i]'(len ▸ h)).tot = l[i].tot /\ (m[i]'(len ▸ h)).bf = l[i].bf /\ (m[i]'(len ▸ h)).aY = l[i].aY
theorem nO (l:List Ps) (k:Nat):(mark l k).length=l.length:=List.length_modify _ _ _
theorem nP (l : List Ps) (k i : Nat) (h : i < l.length) : (mark l k)[i]'(by rw [nO]; exact h) = if k = i then ⟨l[i].av,l[i].num,l[i].y,l[i].m,l[i].d,l[i].tot,l[i].bf,l[i].aY,true⟩ else l[i] := by
 unfold mark;rw [List.getElem_modify]
theorem Mw (l:List Ps) (k:Nat):Like l (mark l k):=by
 refine ⟨nO l k,fun i h=>?_⟩;rw [nP l k i h];split <;> exact ⟨rfl,rfl,rfl,rfl,rfl,rfl,rfl,rfl⟩
theorem Like.map {α : Type} {l m : List Ps} (h : Like l m) (f : Ps -> α) (hf : ∀ i (q : i < l.length),f (m[i]'(h.len ▸ q)) = f l[i]) : m.map f = l.map f := by
 apply List.ext_getElem (by rw [List.length_map,List.length_map,h.len]);intro i h1 h2;rw [List.getElem_map,List.getElem_map];exact hf i (by simpa using h2)
variable {l:List Ps}
theorem Like.UJ {m:List Ps} (h:Like l m):m.map (·.av)=l.map (·.av):=h.map _ fun i q=>(h.each i q).1
theorem Like.tots {m:List Ps} (h:Like l m):m.map (·.tot)=l.map (·.tot):=h.map _ fun i q=>(h.each i q).2.2.2.2.2.1
theorem Like.takes {m: List Ps} (h : Like l m) {i j : Nat} (hi : i < l.length) (hj : j < l.length) : Takes (m[i]'(h.len ▸ hi)) (m[j]'(h.len ▸ hj)) ↔ Takes l[i] l[j] := by
 have a:=h.each i hi;have b:=h.each j hj;unfold Takes;rw [a.1,a.2.1,b.2.2.2.2.2.2.1,b.2.2.2.2.2.2.2]
theorem Like.own {m: List Ps} (h : Like l m) {i : Nat} (hi : i < l.length) : Own (m[i]'(h.len ▸ hi)) ↔ Own l[i] := by
 have a:=h.each i hi;unfold Own;rw [a.2.2.2.2.2.2.1,a.2.2.2.2.2.2.2]
theorem jm {p: Ps} {i: Nat} (h : i < l.length) : (l ++ [p])[i]'(by rw [List.length_append]; omega) = l[i] := List.getElem_append_left h
theorem oO {p:Ps} (h:l.length < (l++[p]).length):(l++[p])[l.length]=p:=by
 rw [List.getElem_append_right (Nat.le_refl _)]
 simp
structure New (s:St) (p:Ps):Prop where
 take:Se.iw s.av p.av=0
 num:p.num=Se.takeN s.av p.av
 room:s.post.length < 40
 day:Dt.aA p.y p.m p.d=true
 tot:sI p.tot
 UK:Po.dR p.tot.parts=0
 ent:Po.jw s.book (Po.bE p.tot.au p.tot.parts)=0
 back:p.back=false
def more (s:St) (l:List Ps) (p:Ps):St:=⟨s.tab,Se.pJ s.av p.av,l++[p],Po.iR (Po.bE p.tot.au p.tot.parts) s.book,s.ak,s.next⟩
theorem Yr {l:List Sr.T} (h:Se.iw l c=0):Se.mV l c=0/\ ¬ (Se.own l c).limit < (Se.own l c).next:=by
 have h1:Se.mV l c=0:=by
  by_cases q:Se.mV l c=0
  · exact q
  ·
   rw [(Se.CY q).1] at h;exact absurd h q
 refine ⟨h1,fun q=>?_⟩;rw [(Se.wB h1 q).1] at h;omega
theorem Right.more {s:St} (h:Right s) {p:Ps} (n:New s p) {l:List Ps} (hl:Like s.post l) (hk:∀ i (q:i < (l++[p]).length),Link (l++[p]) i q):Right (more s l p):=by
 obtain ⟨hu,hlim⟩:=Yr n.take;obtain ⟨_,hin,_⟩:=Se.AQ hu;have hT:=Se.xY hu hlim;have hR:=Se.Iq hu hlim;rw [hT.2.2] at hR;have hnm:(Se.Kr (Se.own s.av p.av)).name=p.av:=Se.jS hin;have hw:=Se.Kt hin hnm
 have hnum:p.num=(cnt p.av s.post:Int)+1:=by
  rw [n.num,hT.2.1];have:=h.full _ (Se.dP hin);rw [Se.jS hin] at this;omega
 have hcnt:∀ c,cnt c l=cnt c s.post:=fun c=>za c hl.UJ
 have hsz:=hl.len;unfold Bl.more;refine ⟨h.tab,by rw [hT.2.2];exact hR,h.ak,?_,h.next,h.ids,?_,?_,?_,?_,?_,hk,?_⟩
 ·
  show (l++[p]).length<=40;rw [List.length_append,hsz];show _+1<=40;have:=n.room;omega
 ·
  intro q hq;show Se.ix q.av (Se.pJ s.av p.av) < _;rw [hT.2.2,(hw q.av).1,List.length_set];rcases List.mem_append.1 hq with hq | hq
  ·
   obtain ⟨i,hi,rfl⟩:=List.getElem_of_mem hq;rw [(hl.each i (hsz▸hi)).1];exact h.has _ (List.getElem_mem _)
  ·
   obtain rfl:=List.mem_singleton.1 hq;exact hin
 ·
  intro i hi;show ((l++[p])[i]).num=(cnt ((l++[p])[i]).av ((l++[p]).take i):Int)+1;rw [List.length_append] at hi;have hi':i < l.length+1:=hi;rcases Nat.lt_or_ge i l.length with q | q
  ·
   rw [jm q,List.take_append_of_le_length (Nat.le_of_lt q)];have a:=hl.each i (hsz▸q);rw [a.1,a.2.1,za (l:=l.take i) (m:=s.post.take i) _ (by rw [List.map_take,List.map_take,hl.UJ])];exact h.num i (hsz▸q)
  ·
   obtain rfl:i=l.length:=by omega
   rw [oO,List.take_left' rfl,hcnt];exact hnum
 ·
  intro r hr;show (cnt r.name (l++[p]):Int)=r.next - 1
  have hr':r∈s.av.set (Se.ix p.av s.av) (Se.Kr (Se.own s.av p.av)):=by
   rw [<- hT.2.2];exact hr
  have hso:=((Se.aJ _).1 hR).2.2;obtain ⟨hri,hro⟩:=Se.yO hso hr';rw [(hw r.name).2] at hro;rw [yt,KF,hcnt];by_cases e:r.name=p.av
  ·
   rw [if_pos e] at hro;rw [if_pos e.symm];have:=h.full _ (Se.dP hin);rw [Se.jS hin] at this;rw [<- hro];show ((cnt (Se.own s.av p.av).name s.post+1:Nat):Int)=(Se.own s.av p.av).next+1 - 1;rw [Se.jS hin];omega
  ·
   rw [if_neg e] at hro;rw [if_neg (fun k=>e k.symm),Nat.add_zero]
   have hri':Se.ix r.name s.av < s.av.length:=by
    rw [(hw r.name).1,List.length_set] at hri;exact hri
   have:=h.full _ (Se.dP hri');rw [hro] at this;exact this
 ·
  intro q hq;rcases List.mem_append.1 hq with hq | hq
  ·
   obtain ⟨i,hi,rfl⟩:=List.getElem_of_mem hq;have a:=hl.each i (hsz▸hi);rw [a.2.2.1,a.2.2.2.1,a.2.2.2.2.1];exact h.day _ (List.getElem_mem _)
  ·
   obtain rfl:=List.mem_singleton.1 hq;exact n.day
 ·
  intro q hq;rcases List.mem_append.1 hq with hq | hq
  ·
   obtain ⟨i,hi,rfl⟩:=List.getElem_of_mem hq;rw [(hl.each i (hsz▸hi)).2.2.2.2.2.1];exact h.tot _ (List.getElem_mem _)
  ·
   obtain rfl:=List.mem_singleton.1 hq;exact n.tot
 ·
  show aT (l++[p]) []=some _;rw [lT,sV [] hl.tots,h.book];show aT [p] s.book=_;rw [aT,if_pos ⟨n.UK,n.ent⟩,aT]
theorem Right.Yt {s:St} (h:Right s) {p:Ps} (n:New s p) (ho:Own p):Right (Bl.more s s.post p):=by
 have no:∀ i (hi:i < s.post.length),¬ Takes s.post[i] p:=fun i hi k=>by
  have h1:=h.pos i hi;have h2:p.aY=s.post[i].num:=k.2;have h3:p.aY=0:=ho.2;omega
 refine h.more n ⟨rfl,fun i _=>⟨rfl,rfl,rfl,rfl,rfl,rfl,rfl,rfl⟩⟩ fun i q=>?_
 have hL:(s.post++[p]).length=s.post.length+1:=by rw [List.length_append];rfl
 rcases Nat.lt_or_ge i s.post.length with hi | hi
 ·
  have hk:=h.link i hi;refine ⟨?_,?_,?_⟩
  ·
   rw [jm hi,hk.back];constructor
   ·
    rintro ⟨j,hj,hij,ht⟩;exact ⟨j,by omega,hij,by rw [jm hj];exact ht⟩
   ·
    rintro ⟨j,hj,hij,ht⟩;rcases Nat.lt_or_ge j s.post.length with q' | q'
    ·
     rw [jm q'] at ht;exact ⟨j,q',hij,ht⟩
    ·
     obtain rfl:j=s.post.length:=by omega
     rw [oO] at ht;exact absurd ht (no i hi)
  ·
   intro j k hj hk' hij hik tj tk;rw [jm hi] at tj tk
   have old:∀ {j:Nat} (hj:j < (s.post++[p]).length),Takes s.post[i] ((s.post++[p])[j])->j < s.post.length:=fun {j} hj ht=>by
    rcases Nat.lt_or_ge j s.post.length with q' | q'
    · exact q'
    ·
     obtain rfl:j=s.post.length:=by omega
     rw [oO] at ht;exact absurd ht (no i hi)
   have oj:=old hj tj;have ok:=old hk' tk;rw [jm oj] at tj;rw [jm ok] at tk;exact hk.one j k oj ok hij hik tj tk
  ·
   intro hno;rw [jm hi] at hno;obtain ⟨hb,k,hki,h1,h2,h3,h4,h5⟩:=hk.of hno;refine ⟨by rw [jm hi];exact hb,k,hki,?_⟩;rw [jm hi,jm (show k < s.post.length by omega)];exact ⟨h1,h2,h3,h4,h5⟩
 ·
  obtain rfl:i=s.post.length:=by omega
  refine ⟨?_,?_,?_⟩
  ·
   rw [oO,n.back];constructor
   ·
    intro e;cases e
   ·
    rintro ⟨j,hj,hij,_⟩;omega
  ·
   intro j k hj hk' hij;omega
  ·
   intro hno;rw [oO] at hno;exact absurd ho hno
theorem Right.PX {s:St} (h:Right s) {p:Ps} (n:New s p) {a:Nat} (ha:a < s.post.length) (ht:Takes s.post[a] p) (hown:Own s.post[a]) (hnb:s.post[a].back=false) (hno: ¬ Own p) (hd:Dt.days s.post[a].y s.post[a].m s.post[a].d<=Dt.days p.y p.m p.d) (hE:Iv.dQ s.post[a].tot=0) (hT:p.tot=Iv.back s.post[a].tot):Right (Bl.more s (mark s.post a) p):=by
 have pO:=Mw s.post a;have hM:=nO s.post a;have only:∀ i (hi:i < s.post.length),Takes s.post[i] p->i=a:=fun i hi k=>h.inj hi ha (k.1.symm.trans ht.1) (k.2.symm.trans ht.2)
 have later:∀ j (hj:j < s.post.length),a < j-> ¬ Takes s.post[a] s.post[j]:=fun j hj haj k=>by
  have:=(h.link a ha).back.2 ⟨j,hj,haj,k⟩;rw [hnb] at this;cases this
 have hL:(mark s.post a++[p]).length=s.post.length+1:=by rw [List.length_append,hM];rfl
 have old : ∀ i (hi : i < s.post.length),(mark s.post a ++ [p])[i]'(by omega) = (mark s.post a)[i]'(by omega) := fun i hi => jm (by omega)
 have Z5 : (mark s.post a ++ [p])[s.post.length]'(by omega) = p := by
  have:=oO (l:=mark s.post a) (p:=p) (by omega);simp only [hM] at this;exact this
 have tk : ∀ i (hi : i < s.post.length),Takes ((mark s.post a)[i]'(by omega)) p ↔ Takes s.post[i] p := fun i hi => by
  have x:=pO.each i hi;unfold Takes;rw [x.1,x.2.1]
 refine h.more n pO fun i q=>?_
 rcases Nat.lt_or_ge i s.post.length with hi | hi
 ·
  have hk:=h.link i hi;refine ⟨?_,?_,?_⟩
  ·
   rw [old i hi,nP s.post a i hi];by_cases e:a=i
   ·
    subst e;rw [if_pos rfl];refine ⟨fun _=>⟨s.post.length,by omega,hi,by rw [Z5];exact ht⟩,fun _=>rfl⟩
   ·
    rw [if_neg e,hk.back];constructor
    ·
     rintro ⟨j,hj,hij,t⟩;refine ⟨j,by omega,hij,?_⟩;rw [old j hj];have:=(pO.takes hi hj).2 t;rw [nP s.post a i hi,if_neg e] at this;exact this
    ·
     rintro ⟨j,hj,hij,t⟩;rcases Nat.lt_or_ge j s.post.length with q' | q'
     ·
      rw [old j q'] at t;refine ⟨j,q',hij,(pO.takes hi q').1 ?_⟩;rw [nP s.post a i hi,if_neg e];exact t
     ·
      obtain rfl:j=s.post.length:=by omega
      rw [Z5] at t;exact absurd (only i hi t).symm e
  ·
   intro j k hj hk' hij hik tj tk';rw [old i hi] at tj tk'
   have up : ∀ {j : Nat} (hj : j < (mark s.post a ++ [p]).length),Takes ((mark s.post a)[i]'(by omega)) ((mark s.post a ++ [p])[j]) -> (∃ q : j < s.post.length,Takes s.post[i] s.post[j]) \/ (j = s.post.length /\ i = a) := fun {j} hj t => by
    rcases Nat.lt_or_ge j s.post.length with q' | q'
    ·
     rw [old j q'] at t;exact .inl ⟨q',(pO.takes hi q').1 t⟩
    ·
     obtain rfl:j=s.post.length:=by omega
     rw [Z5] at t;exact .inr ⟨rfl,only i hi ((tk i hi).1 t)⟩
   rcases up hj tj with ⟨q1,t1⟩ | ⟨e1,e2⟩
   ·
    rcases up hk' tk' with ⟨q2,t2⟩ | ⟨e3,e4⟩
    · exact hk.one j k q1 q2 hij hik t1 t2
    ·
     subst e4;exact absurd t1 (later j q1 hij)
   ·
    subst e2;rcases up hk' tk' with ⟨q2,t2⟩ | ⟨e3,_⟩
    · exact absurd t2 (later k q2 hik)
    · omega
  ·
   intro hn;rw [old i hi] at hn;have hn': ¬ Own s.post[i]:=fun k=>hn ((pO.own hi).2 k)
   have e: ¬ a=i:=fun k=>by
    subst k;exact hn' hown
   obtain ⟨hb,k,hki,h1,h2,h3,h4,h5⟩:=hk.of hn';have hkl:k < s.post.length:=by omega
   have xk:=pO.each k hkl;have xi:=pO.each i hi;refine ⟨by rw [old i hi,nP s.post a i hi,if_neg e];exact hb,k,hki,?_⟩;rw [old i hi,old k hkl];refine ⟨(pO.takes hkl hi).2 h1,(pO.own hkl).2 h2,?_,?_,?_⟩
   ·
    rw [xk.2.2.1,xk.2.2.2.1,xk.2.2.2.2.1,xi.2.2.1,xi.2.2.2.1,xi.2.2.2.2.1];exact h3
   ·
    rw [xk.2.2.2.2.2.1];exact h4
   ·
    rw [xk.2.2.2.2.2.1,xi.2.2.2.2.2.1];exact h5
 ·
  obtain rfl:i=s.post.length:=by omega
  refine ⟨?_,?_,?_⟩
  ·
   rw [Z5,n.back];constructor
   ·
    intro e;cases e
   ·
    rintro ⟨j,hj,hij,_⟩;omega
  ·
   intro j k hj hk' hij;omega
  ·
   intro _;have xa:=pO.each a ha;refine ⟨by rw [Z5];exact n.back,a,ha,?_⟩;rw [Z5,old a ha];refine ⟨(tk a ha).2 ht,(pO.own ha).2 hown,?_,?_,?_⟩
   ·
    rw [xa.2.2.1,xa.2.2.2.1,xa.2.2.2.2.1];exact hd
   ·
    rw [xa.2.2.2.2.2.1];exact hE
   ·
    rw [xa.2.2.2.2.2.1];exact hT
variable {rs:List Rt}
theorem UL (h:Vt.bN rs=true) (c:ByteArray) (y m d:Int):Sh.Right (Vt.find rs c y m d).1:=by
 have h0:Sh.Right 0:=⟨by omega,by omega⟩
 have hl:∀ (l:List Rt) (acc:Int×Bool),Sh.Right acc.1->(∀ r∈l,Vt.gT r=0)->Sh.Right (Vt.last c (Dt.days y m d) acc l).1:=by
  intro l
  induction l with
  | nil=>intro acc h _;exact h
  | cons r l ih =>
   intro acc h hr;unfold Vt.last;apply ih
   ·
    split
    · exact (Vt.oH.1 (hr r (by simp))).2.2
    · exact h
   · exact fun x hx=>hr x (by simp [hx])
 unfold Vt.find;split
 · exact hl rs (0,false) h0 ((Vt.gW rs).1 h).2.1
 · exact h0
def PY (ps:List Pt.T):Prop:=∀ p∈ps,Rn.name (txt p.cat)=true/\Sh.Right p.bp
theorem IJ {bp n:Int} (hc:Rn.name (txt c)=true) (hb:Sh.Right bp) {l:List Pt.T} (h:PY l):PY (Iv.enter c bp n l):=fun p hp=>by
 refine ⟨?_,Iv.EL hb (fun q hq=>(h q hq).2) p hp⟩;rcases Iv.tV hp with e | ⟨a,ha,e⟩
 ·
  rw [e];exact hc
 ·
  rw [e];exact (h a ha).1
theorem Mx {x:Ln.T} (h:Iv.qE rs y m d x=0):Rn.name (txt x.category)=true:=by
 unfold Iv.qE at h;split at h
 · omega
 ·
  split at h
  · omega
  ·
   rename_i q;simpa using q
theorem KG {rs:List Rt} (ht:Vt.bN rs=true) {y m d:Int}:∀ {ls:List Ln.T} {ps:List Pt.T},Iv.kM rs y m d ls ps=0->PY ps->PY (Iv.iR rs y m d ls ps)
 | [],ps,_,h=>h
 | x::l,ps,he,h=>by
  rw [Iv.kM] at he;split at he
  ·
   rename_i q;exact absurd he q
  ·
   rename_i q;split at he
   · omega
   ·
    rw [Iv.iR];exact KG ht he (IJ (Mx (Decidable.not_not.1 q)) (UL ht _ _ _ _) h)
theorem up_0:∀ {l:List Pt.T} {N T:Int},Iv.C9 l N T=0->Mn.Fit N->Mn.Fit T->(∀ p∈l,Sh.iC p.net p.bp=0)/\Mn.Fit (N+Iv.nE l)/\Mn.Fit (T+Iv.iZ l)
 | [],N,T,_,hN,hT=>by
  refine ⟨by simp,?_,?_⟩
  ·
   rw [Iv.nE,Int.add_zero];exact hN
  ·
   rw [Iv.iZ,Int.add_zero];exact hT
 | p::l,N,T,h,hN,hT=>by
  have MB:∀ {x:Int},Mn.err x=0->Mn.Fit x:=fun {x} q=>by
   unfold Mn.err at q;split at q
   · assumption
   · omega
  rw [Iv.C9] at h;split at h
  ·
   rename_i q;exact absurd h q
  ·
   rename_i q1;split at h
   · omega
   ·
    rename_i q2;split at h
    · omega
    ·
     rename_i q3;obtain ⟨h1,h2,h3⟩:=up_0 h (MB (Decidable.not_not.1 q2)) (MB (Decidable.not_not.1 q3));refine ⟨fun r hr=>?_,?_,?_⟩
     ·
      rcases List.mem_cons.1 hr with rfl | hr
      · exact Decidable.not_not.1 q1
      · exact h1 r hr
     ·
      rw [Iv.nE,<- Int.add_assoc];exact h2
     ·
      rw [Iv.iZ,<- Int.add_assoc];exact h3
theorem ze:∀ l:List Pt.T,dV (l.map Iv.l8)=Iv.nE l
 | []=>rfl
 | p::l=>by
  rw [List.map_cons,dV,Iv.nE,ze l];rfl
theorem xA:∀ l:List Pt.T,dI (l.map Iv.l8)=Iv.iZ l
 | []=>rfl
 | p::l=>by
  rw [List.map_cons,dI,Iv.iZ,xA l];rfl
theorem PZ {ls:List Ln.T} (h:Iv.dK rs y m d ls=0):Iv.fD rs y m d ls=0/\Iv.kM rs y m d ls []=0/\Iv.lS (Iv.iR rs y m d ls [])=0/\Iv.jM rs y m d ls=Iv.Da (Iv.iR rs y m d ls []):=by
 have ht:Iv.jM rs y m d ls=Iv.Da (Iv.iR rs y m d ls []):=by
  unfold Iv.jM;rw [if_pos h]
 unfold Iv.dK at h;split at h
 ·
  rename_i q;exact absurd h q
 ·
  rename_i q1;split at h
  ·
   rename_i q;exact absurd h q
  ·
   rename_i q2;exact ⟨Decidable.not_not.1 q1,Decidable.not_not.1 q2,h,ht⟩
theorem MC {ls:List Ln.T} (h:Iv.fD rs y m d ls=0):Vt.bN rs=true/\Dt.aA y m d=true/\ls.length<=12/\0 < ls.length:=by
 unfold Iv.fD at h;split at h
 · omega
 ·
  rename_i h1;split at h
  · omega
  ·
   rename_i h2;split at h
   · omega
   ·
    split at h
    · omega
    · exact ⟨by simpa using h1,by simpa using h2,by omega,by omega⟩
theorem Br {ls:List Ln.T} (h:Iv.dK rs y m d ls=0):sI (Iv.jM rs y m d ls):=by
 obtain ⟨h1,h2,h3,h4⟩:=PZ h;obtain ⟨t1,_,t3,t4⟩:=MC h1;rw [h4];obtain ⟨ps,hps⟩:∃ ps,Iv.iR rs y m d ls []=ps:=⟨_,rfl⟩;have hf:PY ps:=hps▸KG t1 h2 (fun p hp=>by cases hp);have hso:Iv.Sorted ps:=hps▸Iv.kD rs y m d ls List.Pairwise.nil;have hpos:0 < ps.length:=hps▸Iv.Kz rs y m d ls (.inl t4)
 have hlen:ps.length<=12:=by
  have:=Iv.rV rs y m d ls [];rw [hps] at this;simp at this;omega
 rw [hps] at h3;rw [hps];clear hps;have z:Mn.Fit 0:=⟨by omega,by omega⟩
 have hu:Iv.C9 ps 0 0=0:=by
  unfold Iv.lS at h3;split at h3
  ·
   rename_i q;exact absurd h3 q
  ·
   rename_i q;exact Decidable.not_not.1 q
 have hg:Mn.err (Iv.nE ps+Iv.iZ ps)=0:=by
  unfold Iv.lS at h3;rw [if_neg (by rw [hu];simp)] at h3;exact h3
 obtain ⟨u1,u2,u3⟩:=up_0 hu z z;rw [Int.zero_add] at u2 u3;unfold Iv.Da;refine ⟨?_,by rw [List.length_map];exact hlen,?_,?_,(ze ps).symm,(xA ps).symm,rfl,u2,u3,?_⟩
 ·
  intro e;have:=congrArg List.length e;rw [List.length_map] at this;simp at this;rw [this] at hpos;simp at hpos
 ·
  intro p hp;obtain ⟨q,hq,rfl⟩:=List.mem_map.1 hp;have a:=hf q hq;exact ⟨a.1,a.2.1,a.2.2,u1 q hq,rfl⟩
 · exact List.pairwise_map.2 hso
 ·
  unfold Mn.err at hg;split at hg
  · assumption
  · omega
theorem EP:∀ l:List Pt.T,dV (l.map Iv.yT)= -dV l
 | []=>rfl
 | p::l=>by
  rw [List.map_cons,dV,dV,EP l];show -p.net+_=_;omega
theorem Bt:∀ l:List Pt.T,dI (l.map Iv.yT)= -dI l
 | []=>rfl
 | p::l=>by
  rw [List.map_cons,dI,dI,Bt l];show -p.aP+_=_;omega
theorem tX {t:Iv.iD} (h:sI t) (he:Iv.dQ t=0):sI (Iv.back t):=by
 have MB:∀ {x:Int},¬ Mn.err x≠0->Mn.Fit x:=fun {x} q=>by
  have q':=Decidable.not_not.1 q;unfold Mn.err at q';split at q'
  · assumption
  · omega
 have hfit:Mn.Fit (-t.net)/\Mn.Fit (-t.aP)/\Mn.Fit (-t.au):=by
  unfold Iv.dQ at he;split at he
  · omega
  ·
   rename_i q;exact ⟨MB fun k=>q (.inl k),MB fun k=>q (.inr (.inl k)),MB fun k=>q (.inr (.inr k))⟩
 unfold Iv.back;refine ⟨?_,by rw [List.length_map];exact h.few,?_,?_,?_,?_,?_,hfit⟩
 ·
  intro e;have:=congrArg List.length e;rw [List.length_map] at this;exact h.some (List.length_eq_zero_iff.1 this)
 ·
  intro p hp;obtain ⟨q,hq,rfl⟩:=List.mem_map.1 hp;obtain ⟨a1,a2,a3,a4,a5⟩:=h.each q hq;have hn:=Sh.Uz q.net q.bp;exact ⟨a1,a2,a3,by show Sh.iC (-q.net) q.bp=0;rw [hn.2];exact a4,by show Sh.fK (-q.net) q.bp= -q.aP;rw [hn.1,a5]⟩
 · exact List.pairwise_map.2 h.so
 ·
  show -t.net=_;rw [EP,h.net]
 ·
  show -t.aP=_;rw [Bt,h.aP]
 ·
  show -t.au= -t.net+ -t.aP;rw [h.au];omega
end Go.Proofs.YtpfdnemaaeolcaaGreat.Bl
namespace Go.Proofs.YtpfdnemaaeolcaaGreat.Rp
open Go.RowKit
open Mem
structure T where
 why:Int
 num:Int
 au:Int
def val (r:T):Value:=.agg #[.int .i64 r.why,.int .i64 r.num,.int .i64 r.au]
def Short (r:T):Prop:=Fit r.why/\Fit r.num/\Fit r.au
def box (w:World) (r:T):World:=w.alloc (.cells #[.int .i64 r.why,.int .i64 r.num,.int .i64 r.au] 43)
def C (u:World) (b:Nat) (r:T):Prop :=
 u.cell? ⟨b,0,none⟩=some (.int .i64 r.why)/\u.cell? ⟨b,1,none⟩=some (.int .i64 r.num)/\u.cell? ⟨b,2,none⟩=some (.int .i64 r.au)
theorem C.below {u v:World} {r:T} (h:C u b r) (k:Below u.heap.size u v):C v b r:=by
 obtain ⟨h0,h1,h2⟩:=h;have hl:=aH h0;unfold C;rw [(aD k).1 _ _ hl,(aD k).1 _ _ hl,(aD k).1 _ _ hl];exact ⟨h0,h1,h2⟩
theorem dO (w:World) (r:T):C (box w r) w.heap.size r:=by
 unfold box C;simp [go_sem]
theorem dh (w:World) (r:T):(box w r).heap.size=w.heap.size+1:=by
 unfold box
 simp
theorem aC (w:World) (r:T):Below w.heap.size w (box w r):=(Below.refl _ _).alloc (Nat.le_refl _) _
theorem bZ (w:World) (a:T):∃ W,w.alloc (.cells #[.int .i64 a.why,.int .i64 a.num,.int .i64 a.au] 43)=W/\Below w.heap.size w W/\C W w.heap.size a :=
 ⟨_,rfl,aC w a,dO w a⟩
end Go.Proofs.YtpfdnemaaeolcaaGreat.Rp
namespace Go.Proofs.YtpfdnemaaeolcaaGreat.Bl
open Vt (Rt)
structure Cm where
 kind:Int
 av:ByteArray
 lim:Int
 row:Rt
 y:Int
 m:Int
 d:Int
 lines:List Ln.T
 bf:ByteArray
 aY:Int
 ak:Int
structure Cl where
 ak:Int
 seq:Int
 cmd:Cm
def Ps.zero:Ps:=⟨.empty,0,0,0,0,Iv.iD.zero,.empty,0,false⟩
instance (p:Ps):Decidable (Own p):=inferInstanceAs (Decidable (p.bf=.empty/\p.aY=0))
def lU (c:ByteArray) (n:Int):List Ps->Nat
 | []=>0
 | p::l=>if p.av=c/\p.num=n then 0 else lU c n l+1
theorem IK (c:ByteArray) (n:Int):∀ l,lU c n l<=l.length
 | []=>Nat.le_refl _
 | p::l=>by
  rw [lU,List.length_cons];have:=IK c n l;split <;> omega
theorem yu {c:ByteArray} {n:Int}:∀ {l:List Ps} (h:lU c n l < l.length),l[lU c n l].av=c/\l[lU c n l].num=n
 | [],h=>absurd h (Nat.not_lt_zero _)
 | p::l,h=>by
  by_cases q:p.av=c/\p.num=n
  ·
   have e:lU c n (p::l)=0:=if_pos q;simp only [e,List.getElem_cons_zero];exact q
  ·
   have e:lU c n (p::l)=lU c n l+1:=if_neg q;simp only [e,List.getElem_cons_succ];exact yu (by rw [e,List.length_cons] at h;omega)
theorem ER {c:ByteArray} {n:Int}:∀ {l:List Ps},(∀ p∈l,¬ (p.av=c/\p.num=n))->lU c n l=l.length
 | [],_=>rfl
 | p::l,h=>by
  rw [lU,if_neg (h p (by simp)),ER fun q hq=>h q (by simp [hq]),List.length_cons]
def old (s:St) (c:Cm):Ps:=(s.post[lU c.bf c.aY s.post]?).getD Ps.zero
theorem IL {s:St} {c:Cm} (h:lU c.bf c.aY s.post < s.post.length):old s c=s.post[lU c.bf c.aY s.post]:=by
 unfold old;rw [List.getElem?_eq_getElem h];rfl
def gU (s:St) (c:ByteArray) (t:Iv.iD):Int :=
 if Se.iw s.av c≠0 then Se.iw s.av c else if 40<=s.post.length then 14 else if Po.dR t.parts≠0 then Po.dR t.parts else Po.jw s.book (Po.bE t.au t.parts)
theorem KH {s:St} {t:Iv.iD} (h:gU s c t=0):Se.iw s.av c=0/\s.post.length < 40/\Po.dR t.parts=0/\Po.jw s.book (Po.bE t.au t.parts)=0:=by
 unfold gU at h;split at h
 ·
  rename_i q;exact absurd h q
 ·
  rename_i h1;split at h
  · omega
  ·
   rename_i h2;split at h
   ·
    rename_i q;exact absurd h q
   ·
    rename_i h3;exact ⟨Decidable.not_not.1 h1,by omega,Decidable.not_not.1 h3,h⟩
def inv (s:St) (c:Cm) (t:Iv.iD) (o:ByteArray) (n:Int):Ps:=⟨c.av,Se.takeN s.av c.av,c.y,c.m,c.d,t,o,n,false⟩
def pQ (s:St) (c:Cm):Int :=
 if s.post.length<=lU c.bf c.aY s.post then 11
 else if (old s c).back=true\/ ¬ Own (old s c) then 12
 else if Dt.aA c.y c.m c.d=false\/Dt.days c.y c.m c.d < Dt.days (old s c).y (old s c).m (old s c).d then 9
 else if Iv.dQ (old s c).tot≠0 then Iv.dQ (old s c).tot
 else gU s c.av (Iv.back (old s c).tot)
structure Cred (s:St) (c:Cm):Prop where
 has:lU c.bf c.aY s.post < s.post.length
 back:(old s c).back=false
 own:Own (old s c)
 day:Dt.aA c.y c.m c.d=true
 late:Dt.days (old s c).y (old s c).m (old s c).d<=Dt.days c.y c.m c.d
 dQ:Iv.dQ (old s c).tot=0
 post:gU s c.av (Iv.back (old s c).tot)=0
theorem Dc {s:St} {c:Cm} (h:pQ s c=0):Cred s c:=by
 unfold pQ at h;split at h
 · omega
 ·
  rename_i h1;split at h
  · omega
  ·
   rename_i h2;split at h
   · omega
   ·
    rename_i h3;split at h
    ·
     rename_i q;exact absurd h q
    ·
     rename_i h4
     have h2a:(old s c).back=false:=by
      cases q:(old s c).back
      · rfl
      · exact absurd (.inl q) h2
     have h2b:Own (old s c):=Decidable.not_not.1 fun q=>h2 (.inr q)
     have h3a:Dt.aA c.y c.m c.d=true:=by
      cases q:Dt.aA c.y c.m c.d
      · exact absurd (.inl q) h3
      · rfl
     have h3b: ¬ Dt.days c.y c.m c.d < Dt.days (old s c).y (old s c).m (old s c).d:=fun q=>h3 (.inr q)
     exact ⟨by omega,h2a,h2b,h3a,by omega,Decidable.not_not.1 h4,h⟩
def jZ (s:St) (c:Cm):Int :=
 if c.kind=1 then Se.eX s.av c.av c.lim
 else if c.kind=2 then Se.mV s.av c.av
 else if c.kind=3 then Vt.iQ s.tab c.row
 else if c.kind=4 then (if Iv.dK s.tab c.y c.m c.d c.lines≠0 then Iv.dK s.tab c.y c.m c.d c.lines else gU s c.av (Iv.jM s.tab c.y c.m c.d c.lines))
 else if c.kind=5 then pQ s c
 else if c.kind=7 then Sp.dU s.ak c.ak
 else if Se.ix c.av s.av < s.av.length then 0 else 11
def KI (s:St) (c:Cm):St :=
 if c.kind=1 then ⟨s.tab,Se.jT s.av c.av c.lim,s.post,s.book,s.ak,s.next⟩
 else if c.kind=2 then ⟨s.tab,Se.sQ s.av c.av,s.post,s.book,s.ak,s.next⟩
 else if c.kind=3 then ⟨Vt.pX s.tab c.row,s.av,s.post,s.book,s.ak,s.next⟩
 else if c.kind=4 then more s s.post (inv s c (Iv.jM s.tab c.y c.m c.d c.lines) .empty 0)
 else if c.kind=5 then more s (mark s.post (lU c.bf c.aY s.post)) (inv s c (Iv.back (old s c).tot) c.bf c.aY)
 else if c.kind=7 then ⟨s.tab,s.av,s.post,s.book,Sp.iX s.ak c.ak,s.next⟩
 else s
def UM (s:St) (c:Cm):Rp.T :=
 if c.kind=4 then ⟨0,Se.takeN s.av c.av,(Iv.jM s.tab c.y c.m c.d c.lines).au⟩
 else if c.kind=5 then ⟨0,Se.takeN s.av c.av,(Iv.back (old s c).tot).au⟩
 else if c.kind=8 then ⟨0,(Se.own s.av c.av).next - 1,Po.val Po.sU s.book⟩
 else ⟨0,0,0⟩
def jd (k:Int):Bool:=decide (1<=k)&&decide (k<=8)
theorem qJ {k:Int}:jd k=true↔1<=k/\k<=8:=by simp [jd]
def KJ (l:List Sn.T) (i q:Int) (r:Rp.T):List Sn.T:=if Sp.ix i l < l.length then l.set (Sp.ix i l) ⟨i,q,r.why,r.num,r.au⟩ else l
def kept (s:St) (c:Cl) (r:Rp.T):St:=⟨s.tab,s.av,s.post,s.book,KJ s.ak c.ak c.seq r,s.next⟩
def joined (s:St):St:=⟨s.tab,s.av,s.post,s.book,s.ak++[Sp.new s.next],s.next+1⟩
def told (x:Sn.T):Rp.T:=⟨x.why,x.num,x.au⟩
def apply (s:St) (c:Cl):St×Rp.T :=
 if jd c.cmd.kind=false then (s,⟨17,0,0⟩)
 else if c.cmd.kind=6 then (if 8<=s.ak.length\/1099511627776<=s.next then (s,⟨14,0,0⟩) else (joined s,⟨0,s.next,0⟩))
 else if Sp.bQ s.ak c.ak c.seq≠0 then (s,⟨Sp.bQ s.ak c.ak c.seq,0,0⟩)
 else if Sp.lookO s.ak c.ak c.seq=true then (s,told (Sp.own s.ak c.ak))
 else if jZ s c.cmd≠0 then (kept s c ⟨jZ s c.cmd,0,0⟩,⟨jZ s c.cmd,0,0⟩)
 else (kept (KI s c.cmd) c (UM s c.cmd),UM s c.cmd)
inductive Step (s:St) (c:Cl):St×Rp.T->Prop
 | kind (h:jd c.cmd.kind=false):Step s c (s,⟨17,0,0⟩)
 | full (hk:jd c.cmd.kind=true) (h6:c.cmd.kind=6) (h:8<=s.ak.length\/1099511627776<=s.next):Step s c (s,⟨14,0,0⟩)
 | join (hk:jd c.cmd.kind=true) (h6:c.cmd.kind=6) (h:s.ak.length < 8) (h':s.next < 1099511627776):Step s c (joined s,⟨0,s.next,0⟩)
 | look (hk:jd c.cmd.kind=true) (h6:c.cmd.kind≠6) (h:Sp.bQ s.ak c.ak c.seq≠0):Step s c (s,⟨Sp.bQ s.ak c.ak c.seq,0,0⟩)
 | again (hk:jd c.cmd.kind=true) (h6:c.cmd.kind≠6) (h:Sp.bQ s.ak c.ak c.seq=0) (ho:Sp.lookO s.ak c.ak c.seq=true):Step s c (s,told (Sp.own s.ak c.ak))
 | bad (hk:jd c.cmd.kind=true) (h6:c.cmd.kind≠6) (h:Sp.bQ s.ak c.ak c.seq=0) (ho:Sp.lookO s.ak c.ak c.seq=false) (he:jZ s c.cmd≠0):Step s c (kept s c ⟨jZ s c.cmd,0,0⟩,⟨jZ s c.cmd,0,0⟩)
 | good (hk:jd c.cmd.kind=true) (h6:c.cmd.kind≠6) (h:Sp.bQ s.ak c.ak c.seq=0) (ho:Sp.lookO s.ak c.ak c.seq=false) (he:jZ s c.cmd=0):Step s c (kept (KI s c.cmd) c (UM s c.cmd),UM s c.cmd)
theorem zh (s:St) (c:Cl):Step s c (apply s c):=by
 unfold apply;split
 ·
  rename_i h;exact .kind h
 ·
  rename_i hk
  have hk:jd c.cmd.kind=true:=by
   cases q:jd c.cmd.kind
   · exact absurd q hk
   · rfl
  split
  ·
   rename_i h6;split
   ·
    rename_i h;exact .full hk h6 h
   ·
    rename_i h;exact .join hk h6 (by omega) (by omega)
  ·
   rename_i h6;split
   ·
    rename_i h;exact .look hk h6 h
   ·
    rename_i h;have h:=Decidable.not_not.1 h;split
    ·
     rename_i ho;exact .again hk h6 h ho
    ·
     rename_i ho
     have ho:Sp.lookO s.ak c.ak c.seq=false:=by
      cases q:Sp.lookO s.ak c.ak c.seq
      · rfl
      · exact absurd q ho
     split
     ·
      rename_i he;exact .bad hk h6 h ho he
     ·
      rename_i he;exact .good hk h6 h ho (Decidable.not_not.1 he)
theorem Right.did {s:St} (h:Right s) {c:Cm} (he:jZ s c=0):Right (KI s c):=by
 unfold jZ at he;unfold KI;split at he
 ·
  rename_i k;rw [if_pos k];exact h.opened he
 ·
  rename_i k1;rw [if_neg k1];split at he
  ·
   rename_i k;rw [if_pos k];exact h.shut he
  ·
   rename_i k2;rw [if_neg k2];split at he
   ·
    rename_i k;rw [if_pos k];have:=Vt.wo he;refine h.table ?_;unfold Vt.pX;rw [if_pos he];exact this
   ·
    rename_i k3;rw [if_neg k3];split at he
    ·
     rename_i k;rw [if_pos k];split at he
     ·
      rename_i q;exact absurd he q
     ·
      rename_i q;have q:=Decidable.not_not.1 q;obtain ⟨p1,p2,p3,p4⟩:=KH he
      have hd:Dt.aA c.y c.m c.d=true:=by
       cases qd:Dt.aA c.y c.m c.d
       ·
        exfalso;unfold Iv.dK at q
        have hh:Iv.fD s.tab c.y c.m c.d c.lines=9:=by
         unfold Iv.fD;rw [if_neg (by rw [h.tab];simp),if_pos qd]
        simp [hh] at q
       · rfl
      exact h.Yt ⟨p1,rfl,p2,hd,Br q,p3,p4,rfl⟩ ⟨rfl,rfl⟩
    ·
     rename_i k4;rw [if_neg k4];split at he
     ·
      rename_i k;rw [if_pos k];have r:=Dc he;obtain ⟨p1,p2,p3,p4⟩:=KH r.post;have ea:=IL r.has;obtain ⟨e1,e2⟩:=yu r.has;have hpos:=h.pos _ r.has;refine h.PX ⟨p1,rfl,p2,r.day,tX ?_ r.dQ,p3,p4,rfl⟩ r.has ⟨e1.symm,e2.symm⟩ (ea▸r.own) (ea▸r.back) ?_ (ea▸r.late) (ea▸r.dQ) ?_
      ·
       rw [ea];exact h.tot _ (List.getElem_mem _)
      ·
       intro q;have:c.aY=0:=q.2;omega
      ·
       show Iv.back (old s c).tot=_;rw [ea]
     ·
      rename_i k5;rw [if_neg k5];split at he
      ·
       rename_i k;rw [if_pos k];unfold Sp.iX;rw [if_pos he];exact h.left _
      ·
       rename_i k7;rw [if_neg k7];exact h
theorem P5 {s:St} (h:Right s) {c:Cm} (he:jZ s c=0):(KI s c).ak=if c.kind=7 then Sp.cut s.ak (Sp.ix c.ak s.ak) else s.ak:=by
 unfold KI;by_cases k7:c.kind=7
 ·
  rw [if_pos k7,if_neg (by omega),if_neg (by omega),if_neg (by omega),if_neg (by omega),if_neg (by omega),if_pos k7];unfold jZ at he;rw [if_neg (by omega),if_neg (by omega),if_neg (by omega),if_neg (by omega),if_neg (by omega),if_pos k7] at he;show Sp.iX _ _=_;unfold Sp.iX;rw [if_pos he]
 ·
  rw [if_neg k7]
  repeat' split
  all_goals rfl
theorem Right.keeps {s t:St} (h:Right t) {c:Cl} (he:Sp.ix c.ak t.ak < t.ak.length->Sp.bQ t.ak c.ak c.seq=0) (r:Rp.T):Right (Bl.kept t c r):=by
 unfold Bl.kept KJ;split
 ·
  rename_i q;exact h.kept (he q) _ _ _
 · exact h
theorem ES {s:St} (h:Right s) {c:Cl} (he:jZ s c.cmd=0) (hl:Sp.bQ s.ak c.ak c.seq=0) (q:Sp.ix c.ak (KI s c.cmd).ak < (KI s c.cmd).ak.length):Sp.bQ (KI s c.cmd).ak c.ak c.seq=0/\Sp.own (KI s c.cmd).ak c.ak=Sp.own s.ak c.ak:=by
 obtain ⟨l1,l2,l3,l4⟩:=Sp.Db hl;have hr:=(h.did he).ak;have hs:=P5 h he
 have ho:Sp.own (KI s c.cmd).ak c.ak=Sp.own s.ak c.ak:=by
  rw [hs] at q ⊢;split at q
  ·
   rename_i k7;rw [if_pos k7]
   have k:Sp.ix c.cmd.ak s.ak < s.ak.length:=by
    unfold jZ at he;rw [if_neg (by omega),if_neg (by omega),if_neg (by omega),if_neg (by omega),if_neg (by omega),if_pos k7] at he;rcases Nat.lt_or_ge (Sp.ix c.cmd.ak s.ak) s.ak.length with q | q
    · exact q
    ·
     rw [(Sp.yX h.ak (by omega)).1] at he;omega
   have:=Sp.UH (((Sp.aJ _).1 h.ak).2.2) k c.ak;exact this.2 (this.1.1 q).1
  ·
   rename_i k7;rw [if_neg k7]
 exact ⟨Sp.look_ok hr q l3 (by rw [ho];exact l4),ho⟩
theorem Right.applied {s:St} (h:Right s) (c:Cl):Right (Bl.apply s c).1:=by
 have key:∀ {x:St×Rp.T},Step s c x->Right x.1:=by
  intro x hx;cases hx with
  | kind=>exact h
  | full=>exact h
  | join hk h6 h8 hn=>exact h.joined h8 hn
  | look=>exact h
  | again=>exact h
  | bad hk h6 hl ho he=>exact Right.keeps (s:=s) h (fun _=>hl) _
  | good hk h6 hl ho he=>exact Right.keeps (s:=s) (h.did he) (fun q=>(ES h he hl q).1) _
 exact key (zh s c)
def play:St->List Cl->St×List Rp.T
 | s,[]=>(s,[])
 | s,c::l=>((play (apply s c).1 l).1,(apply s c).2::(play (apply s c).1 l).2)
theorem Right.IQ:∀ {l:List Cl} {s:St},Right s->Right (play s l).1
 | [],s,h=>h
 | c::l,s,h=>Right.IQ (l:=l) (h.applied c)
theorem ET:∀ (l m:List Cl) (s:St),play s (l++m)=((play (play s l).1 m).1,(play s l).2++(play (play s l).1 m).2)
 | [],m,s=>rfl
 | c::l,m,s=>by
  rw [List.cons_append,play,ET l m (apply s c).1];rfl
theorem zi:∀ (l:List Cl) (s:St),(play s l).2.length=l.length
 | [],s=>rfl
 | c::l,s=>by
  rw [play,List.length_cons,List.length_cons,zi l]
def sW (c:ByteArray) (l:List Ps):Prop:=∀ i (h:i < l.length),l[i].av=c->l[i].num=(cnt c (l.take i):Int)+1
def fu (l:List Ps):List Sr.T->Nat
 | []=>0
 | r::rs=>cnt r.name l+fu l rs
theorem zk (l:List Ps):∀ a b:List Sr.T,fu l (a++b)=fu l a+fu l b
 | [],b=>by rw [List.nil_append,fu,Nat.zero_add]
 | r::a,b=>by rw [List.cons_append,fu,fu,zk l a b];omega
theorem EU (l:List Ps) (rs:List Sr.T) (k:Nat) (h:k < rs.length):fu l (rs.take (k+1))=fu l (rs.take k)+cnt rs[k].name l:=by
 rw [List.take_succ_eq_append_getElem h,zk,fu,fu,Nat.add_zero]
theorem Df (c:ByteArray):∀ l:List Ps,cnt c l<=l.length
 | []=>Nat.le_refl _
 | p::l=>by
  have:=Df c l;rw [cnt,List.length_cons];split <;> omega
structure IU (l:List Ps) (rs:List Sr.T):Prop where
 each:∀ r∈rs,sW r.name l/\(cnt r.name l:Int)=r.next - 1
 all:fu l rs=l.length
def hit (c:ByteArray):List Sr.T->Nat
 | []=>0
 | r::rs=>(if c=r.name then 1 else 0)+hit c rs
theorem EW {c:ByteArray}:∀ {rs:List Sr.T},(∀ r∈rs,r.name≠c)->hit c rs=0
 | [],_=>rfl
 | r::rs,h=>by rw [hit,if_neg (fun e=>h r (by simp) e.symm),EW fun q hq=>h q (by simp [hq])]
theorem IV {c:ByteArray}:∀ {rs:List Sr.T},Se.Sorted rs->hit c rs<=1
 | [],_=>Nat.zero_le _
 | r::rs,h=>by
  rw [hit];have h1:=List.pairwise_cons.1 h;by_cases e:c=r.name
  ·
   rw [if_pos e,EW]
   · exact Nat.le_refl _
   ·
    intro q hq k;exact Se.iF (h1.1 q hq) (by rw [k,e])
  ·
   rw [if_neg e];have:=IV (c:=c) h1.2;omega
theorem EX {c:ByteArray}:∀ {rs:List Sr.T},0 < hit c rs↔∃ r∈rs,r.name=c
 | []=>by simp [hit]
 | r::rs=>by
  rw [hit];by_cases e:c=r.name
  ·
   rw [if_pos e];exact ⟨fun _=>⟨r,by simp,e.symm⟩,fun _=>by omega⟩
  ·
   rw [if_neg e,Nat.zero_add,EX];constructor
   ·
    rintro ⟨q,hq,k⟩;exact ⟨q,by simp [hq],k⟩
   ·
    rintro ⟨q,hq,k⟩;rcases List.mem_cons.1 hq with rfl | hq
    · exact absurd k.symm e
    · exact ⟨q,hq,k⟩
theorem qK (p:Ps) (l:List Ps):∀ rs:List Sr.T,fu (p::l) rs=hit p.av rs+fu l rs
 | []=>rfl
 | r::rs=>by rw [fu,fu,cnt,hit,qK p l rs];omega
theorem tY:∀ rs:List Sr.T,fu [] rs=0
 | []=>rfl
 | r::rs=>by rw [fu,tY rs,cnt]
theorem Bu {rs:List Sr.T} (hs:Se.Sorted rs):∀ l:List Ps,fu l rs<=l.length
 | []=>by rw [tY];exact Nat.zero_le _
 | p::l=>by
  have:=Bu hs l;have:=IV (c:=p.av) hs;rw [qK,List.length_cons];omega
theorem qM {rs:List Sr.T} (hs:Se.Sorted rs):∀ l:List Ps,fu l rs=l.length↔∀ p∈l,Se.ix p.av rs < rs.length
 | []=>by rw [tY];simp
 | p::l=>by
  have h1:=Bu hs l;have h2:=IV (c:=p.av) hs;have ih:=qM hs l;have h3:0 < hit p.av rs↔Se.ix p.av rs < rs.length:=EX.trans Se.jR.symm;rw [qK,List.length_cons];constructor
  ·
   intro h q hq;rcases List.mem_cons.1 hq with rfl | hq
   · exact h3.1 (by omega)
   · exact ih.1 (by omega) q hq
  ·
   intro h;have:=ih.2 fun q hq=>h q (by simp [hq])
   have:=h3.2 (h p (by simp));omega
theorem mX {l:List Ps} {rs:List Sr.T} (hs:Se.Sorted rs):IU l rs↔(∀ p∈l,Se.ix p.av rs < rs.length)/\(∀ i (h:i < l.length),l[i].num=(cnt l[i].av (l.take i):Int)+1)/\(∀ r∈rs,(cnt r.name l:Int)=r.next - 1):=by
 constructor
 ·
  intro h;have hh:=(qM hs l).1 h.all;refine ⟨hh,fun i hi=>?_,fun r hr=>(h.each r hr).2⟩;obtain ⟨r,hr,e⟩:=Se.jR.1 (hh _ (List.getElem_mem hi));have:=(h.each r hr).1 i hi e.symm;rw [e] at this;exact this
 ·
  rintro ⟨h1,h2,h3⟩;refine ⟨fun r hr=>⟨fun i hi e=>?_,h3 r hr⟩,(qM hs l).2 h1⟩;have:=h2 i hi;rw [e] at this;exact this
def mZ (c:ByteArray) (n:Int):List Ps->Nat
 | []=>0
 | p::l=>(if p.bf=c/\p.aY=n then 1 else 0)+mZ c n l
theorem KL (c:ByteArray) (n:Int):∀ l m:List Ps,mZ c n (l++m)=mZ c n l+mZ c n m
 | [],m=>by rw [List.nil_append,mZ,Nat.zero_add]
 | p::l,m=>by rw [List.cons_append,mZ,mZ,KL c n l m];omega
theorem P6 (c:ByteArray) (n:Int) (l:List Ps) (k:Nat) (h:k < l.length):mZ c n (l.take (k+1))=mZ c n (l.take k)+(if l[k].bf=c/\l[k].aY=n then 1 else 0):=by
 rw [List.take_succ_eq_append_getElem h,KL,mZ,mZ,Nat.add_zero]
theorem qN {c:ByteArray} {n:Int}:∀ {l:List Ps},0 < mZ c n l->∃ j,∃ h:j < l.length,l[j].bf=c/\l[j].aY=n
 | [],h=>absurd h (Nat.lt_irrefl _)
 | p::l,h=>by
  by_cases e:p.bf=c/\p.aY=n
  · exact ⟨0,by simp,e⟩
  ·
   rw [mZ,if_neg e,Nat.zero_add] at h;obtain ⟨j,hj,k⟩:=qN h;exact ⟨j+1,by rw [List.length_cons];omega,k⟩
theorem yw {c:ByteArray} {n:Int}:∀ {l:List Ps} {j:Nat} (h:j < l.length),l[j].bf=c/\l[j].aY=n->0 < mZ c n l
 | [],j,h,_=>absurd h (Nat.not_lt_zero _)
 | p::l,0,h,e=>by
  have e':p.bf=c/\p.aY=n:=e;rw [mZ,if_pos e'];omega
 | p::l,j+1,h,e=>by
  have:=yw (c:=c) (n:=n) (l:=l) (j:=j) (by rw [List.length_cons] at h;omega) e;rw [mZ];omega
theorem Dg {c:ByteArray} {n:Int}:∀ {l:List Ps} {i j:Nat} (hi:i < l.length) (hj:j < l.length),i < j->l[i].bf=c/\l[i].aY=n->l[j].bf=c/\l[j].aY=n->2<=mZ c n l
 | [],i,j,hi,_,_,_,_=>absurd hi (Nat.not_lt_zero _)
 | p::l,0,j+1,hi,hj,_,e,k=>by
  have e':p.bf=c/\p.aY=n:=e;have:=yw (c:=c) (n:=n) (l:=l) (j:=j) (by rw [List.length_cons] at hj;omega) k;rw [mZ,if_pos e'];omega
 | p::l,i+1,j+1,hi,hj,q,e,k=>by
  have:=Dg (c:=c) (n:=n) (l:=l) (i:=i) (j:=j) (by rw [List.length_cons] at hi;omega) (by rw [List.length_cons] at hj;omega) (by omega) e k;rw [mZ];omega
 | p::l,i,0,_,_,q,_,_=>absurd q (Nat.not_lt_zero _)
theorem KM {c:ByteArray} {n:Int}:∀ {l:List Ps},(∀ i j (hi:i < l.length) (hj:j < l.length),(l[i].bf=c/\l[i].aY=n)->(l[j].bf=c/\l[j].aY=n)->i=j)->mZ c n l<=1
 | [],_=>Nat.zero_le _
 | p::l,h=>by
  have ih:=KM (c:=c) (n:=n) (l:=l) fun i j hi hj a b=>by
   have:=h (i+1) (j+1) (by rw [List.length_cons];omega) (by rw [List.length_cons];omega) a b;omega
  rw [mZ];by_cases e:p.bf=c/\p.aY=n
  ·
   rw [if_pos e];rcases Nat.eq_zero_or_pos (mZ c n l) with z | z
   · omega
   ·
    obtain ⟨j,hj,k⟩:=qN z;have:=h 0 (j+1) (by simp) (by rw [List.length_cons];omega) e k;omega
  ·
   rw [if_neg e];omega
def Undo (p:Ps) (l:List Ps):Prop:=∃ h:lU p.bf p.aY l < l.length,Own l[lU p.bf p.aY l]/\Dt.days l[lU p.bf p.aY l].y l[lU p.bf p.aY l].m l[lU p.bf p.aY l].d<=Dt.days p.y p.m p.d/\Iv.dQ l[lU p.bf p.aY l].tot=0/\p.tot=Iv.back l[lU p.bf p.aY l].tot
structure jF (l:List Ps) (i:Nat) (h:i < l.length):Prop where
 of: ¬ Own l[i]->Undo l[i] (l.take i)
 cnt:mZ l[i].av l[i].num l=if l[i].back=true then 1 else 0
theorem P7 {c:ByteArray} {n:Int}:∀ {l:List Ps} {k:Nat} (h:k < l.length),l[k].av=c->l[k].num=n->lU c n l < l.length
 | [],k,h,_,_=>absurd h (Nat.not_lt_zero _)
 | p::l,0,h,e,f=>by
  have:lU c n (p::l)=0:=if_pos ⟨e,f⟩;rw [this];exact h
 | p::l,k+1,h,e,f=>by
  have:=P7 (c:=c) (n:=n) (l:=l) (k:=k) (by rw [List.length_cons] at h;omega) e f;rw [lU,List.length_cons];split <;> omega
theorem Bv {l:List Ps} (pos:∀ i (hi:i < l.length),1<=l[i].num) {i j:Nat} (hi:i < l.length) (hj:j < l.length) (h:l[j].bf=l[i].av/\l[j].aY=l[i].num): ¬ Own l[j]:=fun o=>by
 have:=pos i hi;have:=o.2;omega
section
variable {l:List Ps} (inj:∀ i j (hi:i < l.length) (hj:j < l.length),l[i].av=l[j].av->l[i].num=l[j].num->i=j) (pos:∀ i (hi:i < l.length),1<=l[i].num)
include inj pos
theorem ME (h:∀ i (q:i < l.length),Link l i q) (i:Nat) (q:i < l.length):jF l i q:=by
 have later:∀ {i j:Nat} (hi:i < l.length) (hj:j < l.length),l[j].bf=l[i].av/\l[j].aY=l[i].num->i < j:=by
  intro i j hi hj e;obtain ⟨_,k,hk,ht,_⟩:=(h j hj).of (Bv pos hi hj e);have:=inj k i (by omega) hi (ht.1.symm.trans e.1) (ht.2.symm.trans e.2);omega
 refine ⟨fun o=>?_,?_⟩
 ·
  obtain ⟨_,k,hk,ht,ho,hd,he,hb⟩:=(h i q).of o;have hkt:k < (l.take i).length:=by rw [List.length_take];omega
  have hp:lU l[i].bf l[i].aY (l.take i) < (l.take i).length:=P7 hkt (by rw [List.getElem_take];exact ht.1.symm) (by rw [List.getElem_take];exact ht.2.symm);obtain ⟨e1,e2⟩:=yu hp;rw [List.getElem_take] at e1 e2;have hkp:lU l[i].bf l[i].aY (l.take i)=k:=inj _ k (by rw [List.length_take] at hp;omega) (by omega) (e1.trans ht.1) (e2.trans ht.2);refine ⟨hp,?_⟩;simp only [List.getElem_take,hkp];exact ⟨ho,hd,he,hb⟩
 ·
  have h1:mZ l[i].av l[i].num l<=1:=KM fun a b ha hb ea eb=>(h i q).one a b ha hb (later q ha ea) (later q hb eb) ea eb
  by_cases hb:l[i].back=true
  ·
   rw [if_pos hb];obtain ⟨j,hj,_,ht⟩:=(h i q).back.1 hb;have:=yw hj ht;omega
  ·
   rw [if_neg hb];rcases Nat.eq_zero_or_pos (mZ l[i].av l[i].num l) with z | z
   · exact z
   ·
    obtain ⟨j,hj,k⟩:=qN z;exact absurd ((h i q).back.2 ⟨j,hj,later q hj k,k⟩) hb
theorem MF (h:∀ i (q:i < l.length),jF l i q) (i:Nat) (q:i < l.length):Link l i q:=by
 have undo : ∀ {j : Nat} (hj : j < l.length),¬ Own l[j] -> ∃ k,∃ hk : k < j,Takes (l[k]'(by omega)) l[j] /\ Own (l[k]'(by omega)) /\ Dt.days (l[k]'(by omega)).y (l[k]'(by omega)).m (l[k]'(by omega)).d <= Dt.days l[j].y l[j].m l[j].d /\ Iv.dQ (l[k]'(by omega)).tot = 0 /\ l[j].tot = Iv.back (l[k]'(by omega)).tot := by
  intro j hj o;obtain ⟨hp,u⟩:=(h j hj).of o;obtain ⟨e1,e2⟩:=yu hp;rw [List.getElem_take] at e1 e2;simp only [List.getElem_take] at u;exact ⟨_,by rw [List.length_take] at hp;omega,⟨e1.symm,e2.symm⟩,u⟩
 have later:∀ {i j:Nat} (hi:i < l.length) (hj:j < l.length),l[j].bf=l[i].av/\l[j].aY=l[i].num->i < j/\Own l[i]:=by
  intro i j hi hj e;obtain ⟨k,hk,ht,ho,_⟩:=undo hj (Bv pos hi hj e);obtain rfl:=inj k i (by omega) hi (ht.1.symm.trans e.1) (ht.2.symm.trans e.2);exact ⟨hk,ho⟩
 have hc:=(h i q).cnt;refine ⟨⟨fun hb=>?_,?_⟩,fun j k hj hk _ _ ej ek=>?_,fun o=>⟨?_,undo q o⟩⟩
 ·
  rw [if_pos hb] at hc;obtain ⟨j,hj,k⟩:=qN (c:=l[i].av) (n:=l[i].num) (l:=l) (by omega);exact ⟨j,hj,(later q hj k).1,k⟩
 ·
  rintro ⟨j,hj,_,ht⟩;have:=yw hj ht;by_cases hb:l[i].back=true
  · exact hb
  ·
   rw [if_neg hb] at hc;omega
 ·
  have h1:mZ l[i].av l[i].num l<=1:=by rw [hc];split <;> omega
  rcases Nat.lt_trichotomy j k with r | r | r
  ·
   have:=Dg hj hk r ej ek;omega
  · exact r
  ·
   have:=Dg hk hj r ek ej;omega
 ·
  cases hb:l[i].back
  · rfl
  ·
   rw [if_pos hb] at hc;obtain ⟨j,hj,k⟩:=qN (c:=l[i].av) (n:=l[i].num) (l:=l) (by omega);exact absurd (later q hj k).2 o
end
def flat (l:List Ps):List Ba.T:=l.flatMap fun p=>Po.bE p.tot.au p.tot.parts
structure zl (l:List Ps) (b:List Ba.T):Prop where
 UK:∀ p∈l,Po.dR p.tot.parts=0
 jw:Po.jw [] (flat l)=0
 book:Po.iR (flat l) []=b
theorem KN:∀ (l m b:List Ba.T),Po.kM (l++m) b=if Po.kM l b≠0 then 7 else Po.kM m (Po.iR l b)
 | [],m,b=>rfl
 | x::l,m,b=>by
  rw [List.cons_append,Po.kM,Po.kM,Po.iR,KN l m];by_cases e:Po.gZ x.aF x.dG b≠0
  · rw [if_pos e,if_pos e,if_pos (by omega)]
  · rw [if_neg e,if_neg e]
theorem sZ:∀ (l:List Ps) (b c:List Ba.T),Po.Sorted b->(aT l b=some c↔(∀ p∈l,Po.dR p.tot.parts=0)/\Po.kM (flat l) b=0/\Po.iR (flat l) b=c)
 | [],b,c,_=>by
  show (some b=some c↔_);rw [Option.some.injEq];exact ⟨fun h=>⟨by simp,rfl,h⟩,fun h=>h.2.2⟩
 | p::l,b,c,hb=>by
  have hf:flat (p::l)=Po.bE p.tot.au p.tot.parts++flat l:=rfl;have ih:=sZ l (Po.iR (Po.bE p.tot.au p.tot.parts) b) c (Po.kD _ hb);have he:Po.jw b (Po.bE p.tot.au p.tot.parts)=Po.kM (Po.bE p.tot.au p.tot.parts) b:=Po.IB ((Po.aJ b).2 hb);rw [hf,KN,Po.KA,aT,he];constructor
  ·
   intro h;split at h
   ·
    rename_i q;obtain ⟨h1,h2,h3⟩:=ih.1 h;refine ⟨fun r hr=>?_,?_,h3⟩
    ·
     rcases List.mem_cons.1 hr with rfl | hr
     · exact q.1
     · exact h1 r hr
    ·
     rw [if_neg (by rw [q.2];simp)];exact h2
   · cases h
  ·
   rintro ⟨h1,h2,h3⟩;split at h2
   · omega
   ·
    rename_i q;rw [if_pos ⟨h1 p (by simp),Decidable.not_not.1 q⟩];exact ih.2 ⟨fun r hr=>h1 r (by simp [hr]),h2,h3⟩
theorem EY (l:List Ps) (b:List Ba.T):zl l b↔aT l []=some b:=by
 rw [sZ l [] b List.Pairwise.nil];have he:Po.jw [] (flat l)=Po.kM (flat l) []:=Po.IB rfl;exact ⟨fun h=>⟨h.UK,he▸h.jw,h.book⟩,fun ⟨h1,h2,h3⟩=>⟨h1,he.trans h2,h3⟩⟩
structure Yu (s:St):Prop where
 tab:Vt.bN s.tab=true
 av:Se.aA s.av=true
 next:1<=s.next/\s.next<=1099511627776
 ak:Sp.aA s.ak=true
 ids:∀ x∈s.ak,x.id < s.next
 few:s.post.length<=40
 num:IU s.post s.av
 each:∀ p∈s.post,Dt.aA p.y p.m p.d=true/\sI p.tot
 UN:∀ i (h:i < s.post.length),jF s.post i h
 book:zl s.post s.book
theorem xX {l:List Ps} (h:∀ i (q:i < l.length),l[i].num=(cnt l[i].av (l.take i):Int)+1):∀ i j (hi:i < l.length) (hj:j < l.length),l[i].av=l[j].av->l[i].num=l[j].num->i=j:=by
 have key:∀ i j (hi:i < l.length) (hj:j < l.length),l[i].av=l[j].av->l[i].num=l[j].num-> ¬ i < j:=by
  intro i j hi hj e f q;have h1:=h i hi;have h2:=h j hj;have h3:=yZ l[i].av l i hi;rw [if_pos rfl] at h3;have h4:=cnt_mono l[i].av l (i:=i+1) (j:=j) (by omega);rw [<- e] at h2;omega
 intro i j hi hj e f;have:=key i j hi hj e f;have:=key j i hj hi e.symm f.symm;omega
theorem gP (s:St):Yu s↔Right s:=by
 constructor
 ·
  intro h;have hs:=((Se.aJ _).1 h.av).2.2;obtain ⟨h1,h2,h3⟩:=(mX hs).1 h.num;have pos:∀ i (hi:i < s.post.length),1<=s.post[i].num:=fun i hi=>by have:=h2 i hi;omega
  exact ⟨h.tab,h.av,h.ak,h.few,h.next,h.ids,h1,h2,h3,fun p hp=>(h.each p hp).1,fun p hp=>(h.each p hp).2,MF (xX h2) pos h.UN,(EY _ _).1 h.book⟩
 ·
  intro h;have hs:=((Se.aJ _).1 h.av).2.2;exact ⟨h.tab,h.av,h.next,h.ak,h.ids,h.few,(mX hs).2 ⟨h.has,h.num,h.full⟩,fun p hp=>⟨h.day p hp,h.tot p hp⟩,ME (xX h.num) (fun i hi=>h.pos i hi) h.link,(EY _ _).2 h.book⟩
end Go.Proofs.YtpfdnemaaeolcaaGreat.Bl
namespace Go.Proofs.YtpfdnemaaeolcaaGreat.Im
open Pk Cm
def bP {α :Type} (f: α ->List UInt8):List α ->List UInt8
 | []=>[]
 | a::l=>f a++bP f l
variable {α:Type}
def bR (f: α ->List UInt8) (l:List α):List UInt8:=nm (l.length:Int)++bP f l
def KO (b:Bool):List UInt8:=nm (if b=true then 1 else 0)
def gG (r:Vt.Rt):List UInt8:=tx r.cat++(pW r.y r.m r.d++nm r.bp)
def iY (r:Sr.T):List UInt8:=tx r.name++(nm r.limit++KO r.shut)
def gH (p:Pt.T):List UInt8:=tx p.cat++(nm p.bp++nm p.net)
def dS (p:Bl.Ps):List UInt8:=tx p.av++(pW p.y p.m p.d++(tx p.bf++(nm p.aY++bR gH p.tot.parts)))
def iG (x:Sn.T):List UInt8:=nm x.id++(nm x.last++(nm x.why++(nm x.num++nm x.au)))
def xQ (s:Bl.St):List UInt8:=bR gG s.tab++(bR iY s.av++(bR dS s.post++(bR iG s.ak++nm s.next)))
theorem zm {α :Type} (f: α ->List UInt8):∀ a b:List α,bP f (a++b)=bP f a++bP f b
 | [],_=>rfl
 | x::a,b=>by rw [List.cons_append,bP,bP,zm f a b,List.append_assoc]
theorem zn {α :Type} (f: α ->List UInt8) (g: α -> α) (h:∀ a,f (g a)=f a):∀ l:List α,bP f (l.map g)=bP f l
 | []=>rfl
 | a::l=>by rw [List.map_cons,bP,bP,h,zn f g h l]
theorem wD (f: α ->List UInt8) (g: α -> α) (h:∀ a,f (g a)=f a) (l:List α):bR f (l.map g)=bR f l:=by
 unfold bR;rw [List.length_map,zn f g h]
def bC {α :Type} (f:St-> α ×St):Nat->St->List α ×St
 | 0,s=>([],s)
 | k+1,s=>((f s).1::(bC f k (f s).2).1,(bC f k (f s).2).2)
def dn (bs:List UInt8) (most:Int) (f:St-> α ×St) (s:St):List α ×St:=bC f (aR bs most s).1.toNat (aR bs most s).2
def kV (bs:List UInt8) (s:St):Bool×St:=if (bH bs s).1≠0/\(bH bs s).1≠1 then (false,⟨s.at',4⟩) else (decide ((bH bs s).1=1),(bH bs s).2)
def gI (bs:List UInt8) (s:St):Vt.Rt×St :=
 let a:=fC bs 64 s;let b:=qo bs a.2;let c:=bH bs b.2
 (⟨a.1,b.1.1,b.1.2.1,b.1.2.2,c.1⟩,c.2)
def lF (bs:List UInt8) (s:St):Sr.T×St :=
 let a:=fC bs 64 s;let b:=bH bs a.2;let c:=kV bs b.2
 (⟨a.1,0,b.1,c.1⟩,c.2)
def gJ (bs:List UInt8) (s:St):Pt.T×St :=
 let a:=fC bs 64 s;let b:=bH bs a.2;let c:=bH bs b.2
 (⟨a.1,b.1,c.1,0⟩,c.2)
def fE (bs:List UInt8) (s:St):Bl.Ps×St :=
 let a:=fC bs 64 s;let b:=qo bs a.2;let c:=fC bs 64 b.2;let d:=bH bs c.2;let e:=dn bs 12 (gJ bs) d.2
 (⟨a.1,0,b.1.1,b.1.2.1,b.1.2.2,⟨0,0,0,e.1⟩,c.1,d.1,false⟩,e.2)
def gK (bs:List UInt8) (s:St):Sn.T×St :=
 let a:=bH bs s;let b:=bH bs a.2;let c:=bH bs b.2;let d:=bH bs c.2;let e:=bH bs d.2
 (⟨a.1,b.1,c.1,d.1,e.1⟩,e.2)
def fI (bs:List UInt8) (s:St):Bl.St×St :=
 let a:=dn bs 24 (gI bs) s;let b:=dn bs 8 (lF bs) a.2;let c:=dn bs 40 (fE bs) b.2;let d:=dn bs 8 (gK bs) c.2;let e:=bH bs d.2
 (⟨a.1,b.1,c.1,[],d.1,e.1⟩,e.2)
def Yv (bs:List UInt8) (f:St-> α ×St) (B: α ->List UInt8) (ok: α ->Prop):Prop:=∀ a s r,ok a->nD bs s (B a++r)->(f s).1=a/\nD bs (f s).2 r
def Yw (bs:List UInt8) (f:St-> α ×St) (B: α ->List UInt8) (ok: α ->Prop):Prop:=∀ s r,nD bs (f s).2 r->nD bs s (B (f s).1++r)/\ok (f s).1
section
variable {α :Type} {bs:List UInt8} {f:St-> α ×St} {B: α ->List UInt8} {ok: α ->Prop}
theorem Bw (hf:Yv bs f B ok):∀ (l:List α) (s:St) (r:List UInt8),(∀ a∈l,ok a)->nD bs s (bP B l++r)->(bC f l.length s).1=l/\nD bs (bC f l.length s).2 r
 | [],_,_,_,h=>⟨rfl,h⟩
 | a::l,s,r,ho,h=>by
  rw [bP,List.append_assoc] at h;obtain ⟨h1,h2⟩:=hf a s _ (ho a (by simp)) h;obtain ⟨g1,g2⟩:=Bw hf l _ r (fun x hx=>ho x (by simp [hx])) h2;rw [List.length_cons,bC,h1,g1];exact ⟨rfl,g2⟩
theorem iH (f:St-> α ×St):∀ (k:Nat) (s:St),(bC f k s).1.length=k
 | 0,_=>rfl
 | k+1,s=>by rw [bC,List.length_cons,iH f k]
theorem Bz (hf:Yw bs f B ok):∀ (k:Nat) (s:St) (r:List UInt8),nD bs (bC f k s).2 r->nD bs s (bP B (bC f k s).1++r)/\∀ a∈(bC f k s).1,ok a
 | 0,_,_,h=>⟨h,fun _ h=>by cases h⟩
 | k+1,s,r,h=>by
  obtain ⟨h1,h2⟩:=Bz hf k _ r h;obtain ⟨g1,g2⟩:=hf s _ h1;rw [bC,bP,List.append_assoc];refine ⟨g1,fun a ha=>?_⟩;rcases List.mem_cons.1 ha with rfl | ha
  · exact g2
  · exact h2 a ha
theorem zo (hp:∀ a,1<=(B a).length):∀ l:List α,l.length<=(bP B l).length
 | []=>Nat.le_refl _
 | a::l=>by
  have h1:=zo hp l;have h2:=hp a;rw [bP,List.length_append,List.length_cons];omega
theorem qO (hf:Yv bs f B ok) (hp:∀ a,1<=(B a).length) {most:Int} (hm:most<=1000) {l:List α} (hl:(l.length:Int)<=most) (ho:∀ a∈l,ok a) {s:St} {r:List UInt8} (h:nD bs s (bR B l++r)):(dn bs most f s).1=l/\nD bs (dn bs most f s).2 r:=by
 unfold bR at h;rw [List.append_assoc] at h;have h0:=zo hp l;obtain ⟨h1,h2⟩:=Bg h hl hm (by rw [List.length_append];omega);obtain ⟨g1,g2⟩:=Bw hf l _ r ho h2;unfold dn;rw [h1,Int.toNat_natCast];exact ⟨g1,g2⟩
theorem qP (hf:Yw bs f B ok) {most:Int} {s:St} {r:List UInt8} (h:nD bs (dn bs most f s).2 r):nD bs s (bR B (dn bs most f s).1++r)/\((dn bs most f s).1.length:Int)<=most/\∀ a∈(dn bs most f s).1,ok a:=by
 unfold dn at h ⊢;obtain ⟨h1,h2⟩:=Bz hf _ _ r h;obtain ⟨g1,g2,g3,_⟩:=Bh h1;unfold bR;rw [iH,List.append_assoc];have e:(((aR bs most s).1.toNat:Nat):Int)=(aR bs most s).1:=by omega
 rw [e];exact ⟨g1,g3,h2⟩
end
def Dh (r:Vt.Rt):Prop:=r.cat.size<=64/\Fit r.y/\Fit r.m/\Fit r.d/\Fit r.bp
def KP (r:Sr.T):Prop:=r.name.size<=64/\Fit r.limit/\r.next=0
def Di (p:Pt.T):Prop:=p.cat.size<=64/\Fit p.bp/\Fit p.net/\p.aP=0
def Dj (p:Bl.Ps):Prop:=p.av.size<=64/\(Fit p.y/\Fit p.m/\Fit p.d)/\p.bf.size<=64/\Fit p.aY/\(p.tot.parts.length<=12/\∀ x∈p.tot.parts,Di x)/\p.num=0/\p.back=false/\p.tot.net=0/\p.tot.aP=0/\p.tot.au=0
def Dk (x:Sn.T):Prop:=Fit x.id/\Fit x.last/\Fit x.why/\Fit x.num/\Fit x.au
structure Raw (s:Bl.St):Prop where
 tab:s.tab.length<=24/\∀ r∈s.tab,Dh r
 av:s.av.length<=8/\∀ r∈s.av,KP r
 post:s.post.length<=40/\∀ p∈s.post,Dj p
 ak:s.ak.length<=8/\∀ x∈s.ak,Dk x
 book:s.book=[]
 next:Fit s.next
theorem Dl (t:ByteArray):1<=(tx t).length:=by
 unfold tx;rw [List.length_append];have:=yK (t.size:Int);omega
theorem MG (r:Vt.Rt):1<=(gG r).length:=by
 unfold gG;rw [List.length_append];have:=Dl r.cat;omega
theorem P8 (r:Sr.T):1<=(iY r).length:=by
 unfold iY;rw [List.length_append];have:=Dl r.name;omega
theorem MH (p:Pt.T):1<=(gH p).length:=by
 unfold gH;rw [List.length_append];have:=Dl p.cat;omega
theorem MI (p:Bl.Ps):1<=(dS p).length:=by
 unfold dS;rw [List.length_append];have:=Dl p.av;omega
theorem MJ (x:Sn.T):1<=(iG x).length:=by
 unfold iG;rw [List.length_append];have:=yK x.id;omega
variable {bs:List UInt8}
theorem P9 {s:St} {b:Bool} (h:nD bs s (KO b++r)):(kV bs s).1=b/\nD bs (kV bs s).2 r:=by
 unfold KO at h;have hf:Fit (if b=true then (1:Int) else 0):=by cases b <;> exact ⟨by decide,by decide⟩
 obtain ⟨h1,h2⟩:=fO h hf;unfold kV;rw [if_neg (by rw [h1];cases b <;> simp),h1];refine ⟨?_,h2⟩;cases b <;> rfl
theorem Qa {s:St} (h:nD bs (kV bs s).2 r):nD bs s (KO (kV bs s).1++r):=by
 by_cases hb:(bH bs s).1≠0/\(bH bs s).1≠1
 ·
  unfold kV at h;rw [if_pos hb] at h;exact absurd h.1 (by simp)
 ·
  have e:kV bs s=(decide ((bH bs s).1=1),(bH bs s).2):=if_neg hb;rw [e] at h ⊢;have h1:=fP h
  have e2:(if decide ((bH bs s).1=1)=true then (1:Int) else 0)=(bH bs s).1:=by
   by_cases z:(bH bs s).1=1
   ·
    rw [z];rfl
   ·
    have:(bH bs s).1=0:=Decidable.byContradiction fun y=>hb ⟨y,z⟩
    rw [this];rfl
  unfold KO;rw [e2];exact h1
theorem Qb:Yv bs (gI bs) gG Dh:=by
 intro a s r ho h;unfold gG at h;rw [List.append_assoc,List.append_assoc] at h;obtain ⟨a1,a2⟩:=qp h ho.1;obtain ⟨b1,b2⟩:=Kj a2 ho.2.1 ho.2.2.1 ho.2.2.2.1;obtain ⟨c1,c2⟩:=fO b2 ho.2.2.2.2;unfold gI;simp only [a1,b1,c1];exact ⟨trivial,c2⟩
theorem Qc:Yw bs (gI bs) gG Dh:=by
 intro s r h;unfold gI at h ⊢;simp only at h ⊢;have c:=fP h;have b:=Kk c;obtain ⟨a,a2⟩:=qw b;unfold gG;rw [List.append_assoc,List.append_assoc];exact ⟨a,a2,aV _ _,aV _ _,aV _ _,aV _ _⟩
theorem UO:Yv bs (lF bs) iY KP:=by
 intro a s r ho h;unfold iY at h;rw [List.append_assoc,List.append_assoc] at h;obtain ⟨a1,a2⟩:=qp h ho.1;obtain ⟨b1,b2⟩:=fO a2 ho.2.1;obtain ⟨c1,c2⟩:=P9 b2;unfold lF;simp only [a1,b1,c1];refine ⟨?_,c2⟩;cases a
 have:=ho.2.2;simp only at this;rw [this]
theorem UQ:Yw bs (lF bs) iY KP:=by
 intro s r h;unfold lF at h ⊢;simp only at h ⊢;have c:=Qa h;have b:=fP c;obtain ⟨a,a2⟩:=qw b;unfold iY;rw [List.append_assoc,List.append_assoc];exact ⟨a,a2,aV _ _,rfl⟩
theorem Qd:Yv bs (gJ bs) gH Di:=by
 intro a s r ho h;unfold gH at h;rw [List.append_assoc,List.append_assoc] at h;obtain ⟨a1,a2⟩:=qp h ho.1;obtain ⟨b1,b2⟩:=fO a2 ho.2.1;obtain ⟨c1,c2⟩:=fO b2 ho.2.2.1;unfold gJ;simp only [a1,b1,c1];refine ⟨?_,c2⟩;cases a
 have:=ho.2.2.2;simp only at this;rw [this]
theorem Qe:Yw bs (gJ bs) gH Di:=by
 intro s r h;unfold gJ at h ⊢;simp only at h ⊢;have c:=fP h;have b:=fP c;obtain ⟨a,a2⟩:=qw b;unfold gH;rw [List.append_assoc,List.append_assoc];exact ⟨a,a2,aV _ _,aV _ _,rfl⟩
theorem Qf:Yv bs (fE bs) dS Dj:=by
 intro a s r ho h;unfold dS at h;simp only [List.append_assoc] at h;obtain ⟨a1,a2⟩:=qp h ho.1;obtain ⟨b1,b2⟩:=Kj a2 ho.2.1.1 ho.2.1.2.1 ho.2.1.2.2;obtain ⟨c1,c2⟩:=qp b2 ho.2.2.1;obtain ⟨d1,d2⟩:=fO c2 ho.2.2.2.1;obtain ⟨e1,e2⟩:=qO (ok:=Di) Qd MH (most:=12) (by omega) (by have:=ho.2.2.2.2.1.1;omega) ho.2.2.2.2.1.2 d2;unfold fE;simp only [a1,b1,c1,d1,e1];refine ⟨?_,e2⟩;obtain ⟨q1,q2,q3,q4,q5⟩:=ho.2.2.2.2.2;obtain ⟨av,num,y,m,d,⟨net,aP,au,parts⟩,bf,aY,back⟩:=a;simp only at q1 q2 q3 q4 q5;subst q1 q2 q3 q4 q5;rfl
theorem Qg:Yw bs (fE bs) dS Dj:=by
 intro s r h;unfold fE at h ⊢;simp only at h ⊢;obtain ⟨e,e2,e3⟩:=qP Qe h;have d:=fP e;obtain ⟨c,c2⟩:=qw d;have b:=Kk c;obtain ⟨a,a2⟩:=qw b;unfold dS;simp only [List.append_assoc];exact ⟨a,a2,⟨aV _ _,aV _ _,aV _ _⟩,c2,aV _ _,⟨by simp only at e2 ⊢;omega,e3⟩,rfl,rfl,rfl,rfl,rfl⟩
theorem Qh:Yv bs (gK bs) iG Dk:=by
 intro a s r ho h;unfold iG at h;simp only [List.append_assoc] at h;obtain ⟨a1,a2⟩:=fO h ho.1;obtain ⟨b1,b2⟩:=fO a2 ho.2.1;obtain ⟨c1,c2⟩:=fO b2 ho.2.2.1;obtain ⟨d1,d2⟩:=fO c2 ho.2.2.2.1;obtain ⟨e1,e2⟩:=fO d2 ho.2.2.2.2;unfold gK;simp only [a1,b1,c1,d1,e1];exact ⟨trivial,e2⟩
theorem Qi:Yw bs (gK bs) iG Dk:=by
 intro s r h;unfold gK at h ⊢;simp only at h ⊢;have e:=fP h;have d:=fP e;have c:=fP d;have b:=fP c;have a:=fP b;unfold iG;simp only [List.append_assoc];exact ⟨a,aV _ _,aV _ _,aV _ _,aV _ _,aV _ _⟩
theorem MK {s:St} {t:Bl.St} (ho:Raw t) (h:nD bs s (xQ t++r)):(fI bs s).1=t/\nD bs (fI bs s).2 r:=by
 unfold xQ at h;simp only [List.append_assoc] at h;obtain ⟨a1,a2⟩:=qO (ok:=Dh) Qb MG (most:=24) (by omega) (by have:=ho.tab.1;omega) ho.tab.2 h;obtain ⟨b1,b2⟩:=qO (ok:=KP) UO P8 (most:=8) (by omega) (by have:=ho.av.1;omega) ho.av.2 a2;obtain ⟨c1,c2⟩:=qO (ok:=Dj) Qf MI (most:=40) (by omega) (by have:=ho.post.1;omega) ho.post.2 b2;obtain ⟨d1,d2⟩:=qO (ok:=Dk) Qh MJ (most:=8) (by omega) (by have:=ho.ak.1;omega) ho.ak.2 c2;obtain ⟨e1,e2⟩:=fO d2 ho.next;unfold fI;simp only [a1,b1,c1,d1,e1];refine ⟨?_,e2⟩;have:=ho.book;cases t
 simp only at this;rw [this]
theorem ML {s:St} (h:nD bs (fI bs s).2 r):nD bs s (xQ (fI bs s).1++r)/\Raw (fI bs s).1:=by
 unfold fI at h ⊢;simp only at h ⊢;have e:=fP h;obtain ⟨d,d2,d3⟩:=qP Qi e;obtain ⟨c,c2,c3⟩:=qP Qg d;obtain ⟨b,b2,b3⟩:=qP UQ c;obtain ⟨a,a2,a3⟩:=qP Qc b;unfold xQ;simp only [List.append_assoc];exact ⟨a,⟨⟨by simp only at a2 ⊢;omega,a3⟩,⟨by simp only at b2 ⊢;omega,b3⟩,⟨by simp only at c2 ⊢;omega,c3⟩,⟨by simp only at d2 ⊢;omega,d3⟩,rfl,aV _ _⟩⟩
end Go.Proofs.YtpfdnemaaeolcaaGreat.Im
namespace Go.Proofs.YtpfdnemaaeolcaaGreat.Bl
open Vt (Rt)
theorem Qj {l:List Ps} {p:Ps} {n:Nat} (e:l.length=n) (h:n < (l++[p]).length):(l++[p])[n]=p:=by
 subst e;exact oO h
end Go.Proofs.YtpfdnemaaeolcaaGreat.Bl
namespace Go.Proofs.YtpfdnemaaeolcaaGreat.Mem
structure Sl where
 ao:Option Addr
 n:Nat
 cap:Nat
end Go.Proofs.YtpfdnemaaeolcaaGreat.Mem
namespace Go.Proofs.YtpfdnemaaeolcaaGreat.Pd
open Go.RowKit
open Mem
structure T where
 av:ByteArray
 num:Int
 y:Int
 m:Int
 d:Int
 net:Int
 aP:Int
 au:Int
 parts:Sl
 bf:ByteArray
 aY:Int
 back:Bool
def val (r:T):Value:=.agg #[.string r.av,.int .i64 r.num,.int .i64 r.y,.int .i64 r.m,.int .i64 r.d,.int .i64 r.net,.int .i64 r.aP,.int .i64 r.au,.slice r.parts.ao r.parts.n r.parts.cap,.string r.bf,.int .i64 r.aY,.bool r.back]
def Short (r:T):Prop:=r.av.size<=140737488355328/\Fit r.num/\Fit r.y/\Fit r.m/\Fit r.d/\Fit r.net/\Fit r.aP/\Fit r.au/\r.bf.size<=140737488355328/\Fit r.aY
def box (w:World) (r:T):World:=w.alloc (.cells #[.string r.av,.int .i64 r.num,.int .i64 r.y,.int .i64 r.m,.int .i64 r.d,.int .i64 r.net,.int .i64 r.aP,.int .i64 r.au,.slice r.parts.ao r.parts.n r.parts.cap,.string r.bf,.int .i64 r.aY,.bool r.back] 104)
def C (u:World) (b:Nat) (r:T):Prop :=
 u.cell? ⟨b,0,none⟩=some (.string r.av)/\u.cell? ⟨b,1,none⟩=some (.int .i64 r.num)/\u.cell? ⟨b,2,none⟩=some (.int .i64 r.y)/\u.cell? ⟨b,3,none⟩=some (.int .i64 r.m)/\u.cell? ⟨b,4,none⟩=some (.int .i64 r.d)/\u.cell? ⟨b,5,none⟩=some (.int .i64 r.net)/\u.cell? ⟨b,6,none⟩=some (.int .i64 r.aP)/\u.cell? ⟨b,7,none⟩=some (.int .i64 r.au)/\u.cell? ⟨b,8,none⟩=some (.slice r.parts.ao r.parts.n r.parts.cap)/\u.cell? ⟨b,9,none⟩=some (.string r.bf)/\u.cell? ⟨b,10,none⟩=some (.int .i64 r.aY)/\u.cell? ⟨b,11,none⟩=some (.bool r.back)
theorem C.below {u v:World} {r:T} (h:C u b r) (k:Below u.heap.size u v):C v b r:=by
 obtain ⟨h0,h1,h2,h3,h4,h5,h6,h7,h8,h9,h10,h11⟩:=h;have hl:=aH h0;unfold C;rw [(aD k).1 _ _ hl,(aD k).1 _ _ hl,(aD k).1 _ _ hl,(aD k).1 _ _ hl,(aD k).1 _ _ hl,(aD k).1 _ _ hl,(aD k).1 _ _ hl,(aD k).1 _ _ hl,(aD k).1 _ _ hl,(aD k).1 _ _ hl,(aD k).1 _ _ hl,(aD k).1 _ _ hl];exact ⟨h0,h1,h2,h3,h4,h5,h6,h7,h8,h9,h10,h11⟩
theorem dO (w:World) (r:T):C (box w r) w.heap.size r:=by
 unfold box C;simp [go_sem]
theorem dh (w:World) (r:T):(box w r).heap.size=w.heap.size+1:=by
 unfold box
 simp
theorem aC (w:World) (r:T):Below w.heap.size w (box w r):=(Below.refl _ _).alloc (Nat.le_refl _) _
theorem bZ (w:World) (a:T):∃ W,w.alloc (.cells #[.string a.av,.int .i64 a.num,.int .i64 a.y,.int .i64 a.m,.int .i64 a.d,.int .i64 a.net,.int .i64 a.aP,.int .i64 a.au,.slice a.parts.ao a.parts.n a.parts.cap,.string a.bf,.int .i64 a.aY,.bool a.back] 104)=W/\Below w.heap.size w W/\C W w.heap.size a :=
 ⟨_,rfl,aC w a,dO w a⟩
end Go.Proofs.YtpfdnemaaeolcaaGreat.Pd
