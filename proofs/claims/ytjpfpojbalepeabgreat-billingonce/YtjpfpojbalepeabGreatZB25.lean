import Derived.Deep.RegionHeld3
import Derived.Laws.CopyOwn
import Derived.Laws.MakeOwn
import Derived.Deep.MidRow
import Derived.Lib.SlicesCompact
import Derived.Lib.Bytealg
import Derived.Test.YtjpfpojbalepeabGreatZB21
import Derived.Test.YtjpfpojbalepeabGreatZB22
import Derived.Test.YtjpfpojbalepeabGreatZB23
import Derived.Test.YtjpfpojbalepeabGreatZB24
set_option linter.unusedVariables false
namespace Go.Proofs.YtjpfpojbalepeabGreat
open Go.RowKit
open Mem
namespace Bl
def NewE (w0 w : World) (e : Ending) (w' : World) : Prop := ∃ h : Sv,e = .returned h.val ∧ LiesA w.heap.size w' h new ∧ Below w0.heap.size w0 w'
def AppE (w0 w : World) (s : St) (c : Cl) (e : Ending) (w' : World) : Prop := ∃ h : Sv,e = .returned (.tuple #[h.val,Rp.val (apply s c).2]) ∧ LiesA w.heap.size w' h (apply s c).1 ∧ Below w0.heap.size w0 w'
def PlayE (w0 w : World) (s : St) (cs : List Cl) (e : Ending) (w' : World) : Prop := ∃ (h : Sv) (ao : Option Addr) (n cap : Nat),e = .returned (.tuple #[h.val,.slice ao n cap]) ∧ LiesA w.heap.size w' h (play s cs).1 ∧ Rp.Ls w' ao n cap (play s cs).2 ∧ InA w.heap.size ao n ∧ Below w0.heap.size w0 w'
theorem set_heap {u : World} {g : Nat} {cs : Array Value} {t : TypeId} (h : u.heap[g]? = some (.cells cs t (0,0))) (i : Nat) (x : Value) : (u.setCell ⟨g,i,none⟩ x).heap[g]? = some (.cells (cs.setIfInBounds i x) t (0,0)) := heap_setCell_same u g i _ _ x h
theorem At.put {u : World} {g : Nat} {h : Sv} (a : At u g h) (k : Sv) : At ((((((u.setCell ⟨g,0,none⟩ (sl k.tab)).setCell ⟨g,1,none⟩ (sl k.ser)).setCell ⟨g,2,none⟩ (sl k.post)).setCell ⟨g,3,none⟩ (sl k.book)).setCell ⟨g,4,none⟩ (sl k.sess)).setCell ⟨g,5,none⟩ (.int .i64 k.next)) g k :=
 (set_heap (set_heap (set_heap (set_heap (set_heap (set_heap a 0 _) 1 _) 2 _) 3 _) 4 _) 5 _).trans rfl
theorem below_put {w0 u : World} {g : Nat} (h : Below w0.heap.size w0 u) (hg : w0.heap.size ≤ g) (x0 x1 x2 x3 x4 x5 : Value) : Below w0.heap.size w0 ((((((u.setCell ⟨g,0,none⟩ x0).setCell ⟨g,1,none⟩ x1).setCell ⟨g,2,none⟩ x2).setCell ⟨g,3,none⟩ x3).setCell ⟨g,4,none⟩ x4).setCell ⟨g,5,none⟩ x5) :=
 bset (bset (bset (bset (bset (bset h hg _ _) hg _ _) hg _ _) hg _ _) hg _ _) hg _ _
def rv (h : Sv) : List Value := [sl h.tab,sl h.ser,sl h.post,sl h.book,sl h.sess,.int .i64 h.next]
theorem info : (Tryz.prog.info? 40).map (·.size) = some 6 := by kernel_rfl
theorem wpl_load {ops : Array Oper} {rest : List Oper} {op : Oper} {a : Act} {w : World} {Q : Exit → Act → World → Prop} {t : Tmp} {g : Nat} {h : Sv} (hA : At w g h) (ho : op.op = .load 40 (.tmp t)) (hgd : op.guard = none)
  (hx : a.tmps.toList[t]? = some (.pointer (some ⟨g,0,none⟩))) (k : wpList Tryz.prog ops Q rest (a.put op.dst h.val) w) : wpList Tryz.prog ops Q (op :: rest) a w :=
 wpList_load_row hgd 40 (.tmp t) ho g (Ca.evT hx) 40 (rv h).toArray (0,0) _ hA Tryz.underlying40 rfl (by rw [info]; rfl) k
theorem one_cellS (h : Sv) : ∀ v ∈ rv h,v.oneCell' = true := by
 intro v hv
 unfold rv at hv
 simp only [List.mem_cons,List.not_mem_nil,or_false] at hv
 rcases hv with rfl | rfl | rfl | rfl | rfl | rfl <;> rfl
theorem wpl_store {ops : Array Oper} {rest : List Oper} {op : Oper} {a : Act} {w : World} {Q : Exit → Act → World → Prop} {t s : Tmp} {old : Array Value} {g : Nat} {h : Sv} (ho : op.op = .store 40 (.tmp t) (.tmp s)) (hgd : op.guard = none)
  (hx : a.tmps.toList[t]? = some (.pointer (some ⟨g,0,none⟩))) (hg : g = w.heap.size) (hy : a.tmps.toList[s]? = some h.val) (hold : old.size = 6)
  (k : wpList Tryz.prog ops Q rest (a.put op.dst undef) (box w h)) : wpList Tryz.prog ops Q (op :: rest) a (w.alloc (.cells old 40)) := by
 subst hg
 refine wpList_store_row hgd 40 (.tmp t) (.tmp s) ho w.heap.size (rv h).toArray (Ca.evT hx) (Ca.evT hy) 40 old (heap_alloc_new w _) (by rw [info]; rfl) (by rw [hold]; rfl) (all_oneCell_toArray (one_cellS h)) ?_
 rw [Ca.set_rowW]
 exact k
def lay (w : World) (g : Nat) (h : Sv) : World := w.setRow g (rv h).toArray
theorem wpl_put {ops : Array Oper} {rest : List Oper} {op : Oper} {a : Act} {w : World} {Q : Exit → Act → World → Prop} {t s : Tmp} {g : Nat} {h0 h : Sv} (hA : At w g h0) (ho : op.op = .store 40 (.tmp t) (.tmp s)) (hgd : op.guard = none)
  (hx : a.tmps.toList[t]? = some (.pointer (some ⟨g,0,none⟩))) (hy : a.tmps.toList[s]? = some h.val)
  (k : wpList Tryz.prog ops Q rest (a.put op.dst undef) (lay w g h)) : wpList Tryz.prog ops Q (op :: rest) a w :=
 wpList_store_row hgd 40 (.tmp t) (.tmp s) ho g (rv h).toArray (Ca.evT hx) (Ca.evT hy) 40 (rv h0).toArray hA (by rw [info]; rfl) rfl (all_oneCell_toArray (one_cellS h)) k
theorem run_load {w : World} {g : Nat} {h : Sv} (hA : At w g h) : (Instr.loadAt 40 (.pointer (some ⟨g,0,none⟩))).run Tryz.prog w = .ok h.val w := by
 simp only [Instr.loadAt,Instr.sureAddr,Sem.run_bind,Sem.run_pure,Result.andThen_ok,run_loadVar_row w g 40 40 (rv h).toArray (0,0) _ hA Tryz.underlying40 rfl (by rw [info]; rfl)]
 rfl
theorem At.lay {w : World} {g : Nat} {h0 : Sv} (hA : At w g h0) (h : Sv) : At (lay w g h) g h := setRow_heap w g _ _ 40 _ hA
theorem below_lay {B g : Nat} {w0 w : World} (hb : Below B w0 w) (hg : B ≤ g) (h : Sv) : Below B w0 (lay w g h) := below_setRow hb hg _
theorem kp_lay {A g : Nat} (w : World) (hg : g < A) (h : Sv) : Kp A w (lay w g h) := by
 refine ⟨fun b o ha hb => ?_,by simp [lay,World.setRow]⟩
 have e : (lay w g h).heap[b]? = w.heap[b]? := setRow_other w g b _ (by omega)
 unfold World.cell?
 simp only [e]
end Bl
end Go.Proofs.YtjpfpojbalepeabGreat
namespace Go.Proofs.YtjpfpojbalepeabGreat.Pd
open Go.RowKit
open Mem
theorem evT {a : Act} {t : Tmp} {v : Value} (h : a.tmps.toList[t]? = some v) : a.eval (.tmp t) = v := by
 show a.tmps.getD t undef = v
 rw [Array.getElem?_toList] at h
 simp [Array.getD_eq_getD_getElem?,h]
theorem infoW : (Tryz.prog.info? 59).map (·.size) = some 12 := by kernel_rfl
theorem At.range {w : World} {b o : Nat} {r : T} (h : At w b o r) : w.rangeAt b o (rv r) := by
 intro j v hv
 have hj : j < 12 := by
  have := (List.getElem?_eq_some_iff.1 hv).1
  rwa [rv_len] at this
 match j,hj with
 | 0,_ => exact (h.c0).trans hv
 | 1,_ => exact (h.c1).trans hv
 | 2,_ => exact (h.c2).trans hv
 | 3,_ => exact (h.c3).trans hv
 | 4,_ => exact (h.c4).trans hv
 | 5,_ => exact (h.c5).trans hv
 | 6,_ => exact (h.c6).trans hv
 | 7,_ => exact (h.c7).trans hv
 | 8,_ => exact (h.c8).trans hv
 | 9,_ => exact (h.c9).trans hv
 | 10,_ => exact (h.c10).trans hv
 | 11,_ => exact (h.c11).trans hv
theorem C.range {w : World} {b : Nat} {r : T} (h : C w b r) : w.rangeAt b 0 (rv r) := by
 obtain ⟨h0,h1,h2,h3,h4,h5,h6,h7,h8,h9,h10,h11⟩ := h
 exact At.range ⟨(h0 : _),(h1 : _),(h2 : _),(h3 : _),(h4 : _),(h5 : _),(h6 : _),(h7 : _),(h8 : _),(h9 : _),(h10 : _),(h11 : _)⟩
theorem wpl_load {ops : Array Oper} {rest : List Oper} {op : Oper} {a : Act} {w : World} {Q : Exit → Act → World → Prop} {t : Tmp} {b o : Nat} {r : T} (h : At w b o r) (ho : op.op = .load 59 (.tmp t)) (hgd : op.guard = none)
  (hx : a.tmps.toList[t]? = some (.pointer (some ⟨b,o,none⟩))) (k : wpList Tryz.prog ops Q rest (a.put op.dst (val r)) w) : wpList Tryz.prog ops Q (op :: rest) a w :=
 wpList_load_mid hgd 59 (.tmp t) ho b o (evT hx) (rv r) _ h.range Tryz.underlying59 rfl (by rw [infoW,rv_len]) k
theorem run_load {w : World} {b o : Nat} {r : T} (h : At w b o r) : (Instr.loadAt 59 (.pointer (some ⟨b,o,none⟩))).run Tryz.prog w = .ok (val r) w :=
 run_loadAt_mid w b o 59 (rv r) _ h.range Tryz.underlying59 rfl (by rw [infoW,rv_len])
theorem wpl_loadC {ops : Array Oper} {rest : List Oper} {op : Oper} {a : Act} {w : World} {Q : Exit → Act → World → Prop} {t : Tmp} {b : Nat} {r : T} (h : C w b r) (ho : op.op = .load 59 (.tmp t)) (hgd : op.guard = none)
  (hx : a.tmps.toList[t]? = some (.pointer (some ⟨b,0,none⟩))) (k : wpList Tryz.prog ops Q rest (a.put op.dst (val r)) w) : wpList Tryz.prog ops Q (op :: rest) a w :=
 wpList_load_mid hgd 59 (.tmp t) ho b 0 (evT hx) (rv r) _ h.range Tryz.underlying59 rfl (by rw [infoW,rv_len]) k
theorem set_rowW (w : World) (old cs : Array Value) (t : TypeId) : (w.alloc (.cells old t)).setRow w.heap.size cs = w.alloc (.cells cs t) := by
 unfold World.setRow World.alloc
 simp only [World.mk.injEq,and_true]
 apply Array.ext_getElem?
 intro i
 rw [Array.getElem?_modify]
 by_cases hi : w.heap.size = i
 ·
  subst hi
  simp
 · rw [if_neg hi,Array.getElem?_push,Array.getElem?_push,if_neg (Ne.symm hi),if_neg (Ne.symm hi)]
theorem wpl_store {ops : Array Oper} {rest : List Oper} {op : Oper} {a : Act} {w : World} {Q : Exit → Act → World → Prop} {t s : Tmp} {old : Array Value} {g : Nat} {r : T} (ho : op.op = .store 59 (.tmp t) (.tmp s)) (hgd : op.guard = none)
  (hx : a.tmps.toList[t]? = some (.pointer (some ⟨g,0,none⟩))) (hg : g = w.heap.size) (hy : a.tmps.toList[s]? = some (val r)) (hold : old.size = 12)
  (k : wpList Tryz.prog ops Q rest (a.put op.dst undef) (box w r)) : wpList Tryz.prog ops Q (op :: rest) a (w.alloc (.cells old 59)) := by
 subst hg
 refine wpList_store_row hgd 59 (.tmp t) (.tmp s) ho w.heap.size (rv r).toArray (evT hx) (evT hy) 59 old (heap_alloc_new w _) (by rw [infoW]; rfl) (by rw [hold]; rfl) (all_oneCell_toArray fun v hv => one_cell [r] v (by simpa using hv)) ?_
 rw [set_rowW]
 exact k
theorem run_one (r : T) (u : World) : (Instr.buildSlice 36 1 #[(0,val r)]).run Tryz.prog u = .ok (.slice (some ⟨u.heap.size,0,none⟩) 1 1) (u.alloc (block r)) := by
 kernel_rfl
theorem wpl_one {ops : Array Oper} {rest : List Oper} {op : Oper} {a : Act} {w : World} {Q : Exit → Act → World → Prop} {t : Tmp} {r : T} (ho : op.op = .buildSlice 36 1 #[(0,.tmp t)]) (hgd : op.guard = none)
  (hx : a.tmps.toList[t]? = some (val r)) (k : wpList Tryz.prog ops Q rest (a.put op.dst (.slice (some ⟨w.heap.size,0,none⟩) 1 1)) (w.alloc (block r))) : wpList Tryz.prog ops Q (op :: rest) a w :=
 wpList_plain hgd fun _ hK => by
  have e : (#[(0,Operand.tmp t)] : Array (Nat × Operand)).map (fun (i,x) => (i,a.eval x)) = #[(0,val r)] := by simp [evT hx]
  unfold Oper.wp execOp
  simp only [ho,Sem.run_bind,e,run_one,Result.andThen_ok]
  exact hK _ _ k
end Go.Proofs.YtjpfpojbalepeabGreat.Pd
namespace Go.Proofs.YtjpfpojbalepeabGreat.Po
instance : Inhabited Ba.T := ⟨Ba.zero⟩
instance : DecidableEq Ba.T := fun a b => decidable_of_iff (Ba.eqB a b = true) (Ba.eqB_iff a b)
theorem spot_before {c : ByteArray} : ∀ {l : List Ba.T} {i : Nat},i < spot c l → ∃ h : i < l.length,lt l[i].acct c = true
 | [],i,h => by
  unfold spot at h
  omega
 | a :: l,i,h => by
  unfold spot at h
  by_cases k : lt a.acct c = true
  ·
   rw [if_pos k] at h
   cases i with
   | zero => exact ⟨by simp,k⟩
   | succ i =>
    obtain ⟨h1,h2⟩ := spot_before (c := c) (l := l) (i := i) (by omega)
    exact ⟨by simpa using h1,by simpa using h2⟩
  ·
   rw [if_neg k] at h
   omega
theorem spot_behind {c : ByteArray} : ∀ {l : List Ba.T},Sorted l → ∀ {i : Nat} (hi : i < l.length),spot c l ≤ i → lt l[i].acct c = false
 | a :: l,h,i,hi,k => by
  have h1 := (List.pairwise_cons.1 h).1
  have h2 := (List.pairwise_cons.1 h).2
  unfold spot at k
  by_cases q : lt a.acct c = true
  ·
   rw [if_pos q] at k
   cases i with
   | zero => omega
   | succ i =>
    have := spot_behind (c := c) h2 (i := i) (by simpa using hi) (by omega)
    simpa using this
  ·
   rw [Bool.not_eq_true] at q
   cases i with
   | zero => exact q
   | succ i =>
    have hi' : i < l.length := by simpa using hi
    rw [Bool.eq_false_iff]
    intro m
    rw [List.getElem_cons_succ] at m
    have := lt_trans (h1 _ (List.getElem_mem hi')) m
    rw [q] at this
    cases this
theorem half_up {c : ByteArray} {l : List Ba.T} (h : Sorted l) {m : Nat} (hm : m < l.length) (k : lt l[m].acct c = true) : m + 1 ≤ spot c l := by
 rcases Nat.lt_or_ge m (spot c l) with q | q
 · exact q
 ·
  rw [spot_behind h hm q] at k
  cases k
theorem half_down {c : ByteArray} {l : List Ba.T} {m : Nat} (hm : m < l.length) (k : lt l[m].acct c = false) : spot c l ≤ m := by
 rcases Nat.lt_or_ge m (spot c l) with q | q
 ·
  obtain ⟨_,h2⟩ := spot_before q
  rw [h2] at k
  cases k
 · exact q
theorem mem_iff {l : List Ba.T} (h : Sorted l) (x : Ba.T) : x ∈ l ↔ has x.acct l = true ∧ val x.acct l = x.amt := by
 constructor
 ·
  intro hx
  obtain ⟨p,q⟩ := look h hx rfl
  exact ⟨q,by unfold val; rw [p]⟩
 ·
  rintro ⟨h1,h2⟩
  obtain ⟨y,hy,e⟩ := has_mem h1
  obtain ⟨p,_⟩ := look h hy e
  unfold val at h2
  rw [p] at h2
  cases x
  cases y
  simp only at e h2
  subst e h2
  exact hy
theorem ext_mem : ∀ {l m : List Ba.T},Sorted l → Sorted m → (∀ x,x ∈ l ↔ x ∈ m) → l = m
 | [],[],_,_,_ => rfl
 | [],b :: m,_,_,h => by
  have := (h b).2 (by simp)
  simp at this
 | a :: l,[],_,_,h => by
  have := (h a).1 (by simp)
  simp at this
 | a :: l,b :: m,hl,hm,h => by
  have l1 := (List.pairwise_cons.1 hl).1
  have l2 := (List.pairwise_cons.1 hl).2
  have m1 := (List.pairwise_cons.1 hm).1
  have m2 := (List.pairwise_cons.1 hm).2
  have e : a = b := by
   rcases List.mem_cons.1 ((h a).1 (by simp)) with e | e
   · exact e
   ·
    rcases List.mem_cons.1 ((h b).2 (by simp)) with e' | e'
    · exact e'.symm
    ·
     have := lt_trans (m1 a e) (l1 b e')
     rw [lt_irrefl] at this
     cases this
  subst e
  have no : ∀ {k : List Ba.T},(∀ x ∈ k,lt a.acct x.acct = true) → a ∉ k := fun {k} hk ha => by
   have := hk a ha
   rw [lt_irrefl] at this
   cases this
  have t : l = m := ext_mem l2 m2 fun x => by
   constructor
   ·
    intro hx
    rcases List.mem_cons.1 ((h x).1 (by simp [hx])) with e | e
    · exact absurd (e ▸ hx) (no l1)
    · exact e
   ·
    intro hx
    rcases List.mem_cons.1 ((h x).2 (by simp [hx])) with e | e
    · exact absurd (e ▸ hx) (no m1)
    · exact e
  rw [t]
theorem ext_val {l m : List Ba.T} (hl : Sorted l) (hm : Sorted m) (h : ∀ c,has c l = has c m ∧ val c l = val c m) : l = m :=
 ext_mem hl hm fun x => by rw [mem_iff hl,mem_iff hm,(h _).1,(h _).2]
theorem has_iff {l : List Ba.T} (h : Sorted l) (c : ByteArray) : has c l = true ↔ ∃ x ∈ l,x.acct = c :=
 ⟨has_mem,fun ⟨_,hx,e⟩ => (look h hx e).2⟩
def news (b : List Ba.T) : List Ba.T → List Ba.T
 | [] => []
 | x :: l => if has x.acct b = true then news b l else ⟨x.acct,0⟩ :: news b l
theorem news_app (b : List Ba.T) : ∀ l m : List Ba.T,news b (l ++ m) = news b l ++ news b m
 | [],m => rfl
 | x :: l,m => by
  rw [List.cons_append,news,news,news_app b l m]
  split <;> rfl
theorem news_step (b ls : List Ba.T) (k : Nat) (h : k < ls.length) : news b (ls.take (k + 1)) = news b (ls.take k) ++ (if has ls[k].acct b = true then [] else [⟨ls[k].acct,0⟩]) := by
 rw [List.take_succ_eq_append_getElem h,news_app]
 congr 1
theorem news_len (b : List Ba.T) : ∀ l : List Ba.T,(news b l).length ≤ l.length
 | [] => Nat.le_refl _
 | x :: l => by
  have := news_len b l
  unfold news
  split <;> simp <;> omega
theorem mem_news {b : List Ba.T} : ∀ {l : List Ba.T} {x : Ba.T},x ∈ news b l ↔ x.amt = 0 ∧ has x.acct b = false ∧ named x.acct l = true
 | [],x => by
  constructor
  ·
   intro h
   cases h
  ·
   rintro ⟨_,_,h⟩
   cases h
 | y :: l,x => by
  have ih := mem_news (b := b) (l := l) (x := x)
  have hn : named x.acct (y :: l) = (decide (y.acct = x.acct) || named x.acct l) := rfl
  unfold news
  rw [hn]
  by_cases h : has y.acct b = true
  ·
   rw [if_pos h,ih]
   constructor
   ·
    rintro ⟨h1,h2,h3⟩
    exact ⟨h1,h2,by rw [h3,Bool.or_true]⟩
   ·
    rintro ⟨h1,h2,h3⟩
    refine ⟨h1,h2,?_⟩
    rcases Bool.or_eq_true_iff.1 h3 with e | e
    ·
     rw [of_decide_eq_true e,h2] at h
     cases h
    · exact e
  ·
   rw [if_neg h,List.mem_cons,ih]
   rw [Bool.not_eq_true] at h
   constructor
   ·
    rintro (rfl | ⟨h1,h2,h3⟩)
    · exact ⟨rfl,h,by simp⟩
    · exact ⟨h1,h2,by rw [h3,Bool.or_true]⟩
   ·
    rintro ⟨h1,h2,h3⟩
    rcases Bool.or_eq_true_iff.1 h3 with e | e
    ·
     left
     cases x
     cases y
     simp only at h1 e
     have e' := of_decide_eq_true e
     subst h1 e'
     rfl
    · exact .inr ⟨h1,h2,e⟩
structure Opened (b ls M : List Ba.T) : Prop where
 sorted : Sorted M
 has : ∀ c,has c M = (has c b || named c ls)
 val : ∀ c,val c M = val c b
theorem opened_of {b ls M : List Ba.T} (hb : Sorted b) (hM : Sorted M) (h : ∀ x,x ∈ M ↔ x ∈ b ++ news b ls) : Opened b ls M := by
 have hh : ∀ c,Po.has c M = (Po.has c b || named c ls) := fun c => by
  rw [Bool.eq_iff_iff,has_iff hM,Bool.or_eq_true_iff]
  constructor
  ·
   rintro ⟨x,hx,rfl⟩
   rcases List.mem_append.1 ((h x).1 hx) with k | k
   · exact .inl ((has_iff hb _).2 ⟨x,k,rfl⟩)
   · exact .inr (mem_news.1 k).2.2
  ·
   intro k
   cases q : Po.has c b with
   | true =>
    obtain ⟨x,hx,e⟩ := (has_iff hb c).1 q
    exact ⟨x,(h x).2 (List.mem_append.2 (.inl hx)),e⟩
   | false =>
    rw [q] at k
    have k' : named c ls = true := by simpa using k
    exact ⟨⟨c,0⟩,(h _).2 (List.mem_append.2 (.inr (mem_news.2 ⟨rfl,q,k'⟩))),rfl⟩
 refine ⟨hM,hh,fun c => ?_⟩
 cases q : Po.has c M with
 | true =>
  obtain ⟨x,hx,e⟩ := (has_iff hM c).1 q
  have v1 : Po.val c M = x.amt := by unfold Po.val; rw [(look hM hx e).1]
  rcases List.mem_append.1 ((h x).1 hx) with k | k
  ·
   have v2 : Po.val c b = x.amt := by unfold Po.val; rw [(look hb k e).1]
   rw [v1,v2]
  ·
   obtain ⟨k1,k2,_⟩ := mem_news.1 k
   rw [e] at k2
   rw [v1,k1,val_no k2]
 | false =>
  have k := hh c
  rw [q] at k
  have k2 : Po.has c b = false := by
   cases z : Po.has c b with
   | false => rfl
   | true => rw [z] at k; cases k
  rw [val_no q,val_no k2]
theorem compact_spec (d : Array Ba.T) (hs : ∀ i j,i < j → j < d.size → lt d[j]!.acct d[i]!.acct = false) (h1 : ∀ i j,i < d.size → j < d.size → d[i]!.acct = d[j]!.acct → d[i]! = d[j]!) :
  ∀ m,m ≤ d.size → Sorted (Lib.compactUpTo d m) ∧ ∀ x,x ∈ Lib.compactUpTo d m ↔ ∃ i,i < m ∧ d[i]! = x
 | 0,_ => ⟨List.Pairwise.nil,fun x => ⟨fun h => (by cases h),fun ⟨i,h,_⟩ => by omega⟩⟩
 | m + 1,hm => by
  obtain ⟨ih1,ih2⟩ := compact_spec d hs h1 m (by omega)
  rw [Lib.compactUpTo_succ]
  by_cases hk : Lib.keeps d m = true
  ·
   rw [if_pos hk]
   refine ⟨List.pairwise_append.2 ⟨ih1,List.pairwise_singleton _ _,?_⟩,fun x => ?_⟩
   ·
    intro x hx y hy
    obtain rfl := List.mem_singleton.1 hy
    obtain ⟨i,hi,rfl⟩ := (ih2 x).1 hx
    rcases lt_tri d[i]!.acct d[m]!.acct with e | e | e
    · exact e
    ·
     exfalso
     have hne : d[m]! ≠ d[m - 1]! := by
      unfold Lib.keeps at hk
      rcases of_decide_eq_true hk with q | q
      · omega
      · exact q
     apply hne
     apply h1 _ _ (by omega) (by omega)
     rcases Nat.lt_or_ge i (m - 1) with q | q
     ·
      have a1 := hs i (m - 1) q (by omega)
      have a2 := hs (m - 1) m (by omega) (by omega)
      rw [e] at a1
      rcases lt_tri d[m]!.acct d[m - 1]!.acct with z | z | z
      · rw [a2] at z; cases z
      · exact z
      · rw [a1] at z; cases z
     ·
      rw [show m - 1 = i by omega]
      exact e.symm
    ·
     rw [hs i m hi (by omega)] at e
     cases e
   ·
    rw [List.mem_append,ih2 x,List.mem_singleton]
    constructor
    ·
     rintro (⟨i,hi,e⟩ | e)
     · exact ⟨i,by omega,e⟩
     · exact ⟨m,by omega,e.symm⟩
    ·
     rintro ⟨i,hi,e⟩
     rcases Nat.lt_or_ge i m with q | q
     · exact .inl ⟨i,q,e⟩
     ·
      obtain rfl : i = m := by omega
      exact .inr e.symm
  ·
   rw [if_neg hk,List.append_nil]
   refine ⟨ih1,fun x => ?_⟩
   rw [ih2 x]
   constructor
   ·
    rintro ⟨i,hi,e⟩
    exact ⟨i,by omega,e⟩
   ·
    rintro ⟨i,hi,e⟩
    rcases Nat.lt_or_ge i m with q | q
    · exact ⟨i,q,e⟩
    ·
     obtain rfl : i = m := by omega
     unfold Lib.keeps at hk
     rw [decide_eq_true_iff] at hk
     have hm0 : i ≠ 0 := fun h => hk (.inl h)
     have he : d[i]! = d[i - 1]! := Classical.byContradiction fun h => hk (.inr h)
     exact ⟨i - 1,by omega,by rw [← he]; exact e⟩
theorem cmp_lt : ∀ a b : List UInt8,decide (Lib.compareBytes a b < 0) = Op.bytesLess a b
 | [],[] => rfl
 | [],_ :: _ => rfl
 | _ :: _,[] => rfl
 | a :: x,b :: y => by
  have ih := cmp_lt x y
  unfold Lib.compareBytes Op.bytesLess
  by_cases h : a < b
  ·
   rw [if_pos h,decide_eq_true h]
   rfl
  ·
   rw [if_neg h,decide_eq_false h,Bool.false_or]
   by_cases k : b < a
   ·
    rw [if_pos k]
    have hne : (a == b) = false := beq_eq_false_iff_ne.2 fun e => by subst e; exact UInt8.lt_irrefl a k
    rw [hne]
    rfl
   ·
    rw [if_neg k,ih]
    have he : a = b := UInt8.le_antisymm (UInt8.not_lt.1 k) (UInt8.not_lt.1 h)
    rw [beq_iff_eq.2 he,Bool.true_and]
end Go.Proofs.YtjpfpojbalepeabGreat.Po
namespace Go.Proofs.YtjpfpojbalepeabGreat
open Go.RowKit
open Mem
open Go.Sort (grow)
theorem Bl.ref_box (w : World) (c : ByteArray) (m : Int) : ∃ V,w.alloc (.cells #[.string c,.int .i64 m] 29) = V ∧ Below w.heap.size w V ∧ V.cell? ⟨w.heap.size,0,none⟩ = some (.string c) ∧ V.cell? ⟨w.heap.size,1,none⟩ = some (.int .i64 m) := by
 refine ⟨_,rfl,(Below.refl _ _).alloc (Nat.le_refl _) _,?_,?_⟩
 ·
  rw [cell_of_row _ w.heap.size 0 _ _ _ (heap_alloc_new w _)]
  rfl
 ·
  rw [cell_of_row _ w.heap.size 1 _ _ _ (heap_alloc_new w _)]
  rfl
theorem Bl.pix_at {c : ByteArray} {n : Int} : ∀ {l : List Bl.Ps} {k : Nat} (hk : k < l.length),(∀ p ∈ l.take k,¬ (p.ser = c ∧ p.num = n)) → (l[k].ser = c ∧ l[k].num = n) → Bl.pix c n l = k
 | [],k,hk,_,_ => absurd hk (Nat.not_lt_zero _)
 | p :: l,0,_,_,h => if_pos h
 | p :: l,k + 1,hk,hn,h => by
  rw [Bl.pix,if_neg (hn p (by simp)),Bl.pix_at (l := l) (k := k) (by rw [List.length_cons] at hk; omega) (fun q hq => hn q (by rw [List.take_succ_cons]; simp [hq])) h]
theorem Bl.tl_ne {a b : ByteArray} (h : ¬ a = b) : (a.toList == b.toList) = false := beq_eq_false_iff_ne.2 fun k => h (txt_ext (by rw [← tl,← tl,k]))
theorem Bl.tl_eq {a b : ByteArray} (h : a = b) : (a.toList == b.toList) = true := by rw [h]; exact beq_self_eq_true _
theorem Bl.liesA_new (A : Nat) (w : World) : Bl.LiesA A w ⟨⟨none,0,0⟩,⟨none,0,0⟩,⟨none,0,0⟩,⟨none,0,0⟩,⟨none,0,0⟩,1⟩ Bl.new := by
 have h := Bl.lies_new w
 exact ⟨h.tab,h.ser,⟨[],Pd.ls_nil w,Bl.each_nil w,fun r hr => by cases hr⟩,h.book,h.sess,h.next,h.fit,inA_nil _ _,inA_nil _ _,inA_nil _ _,inA_nil _ _,inA_nil _ _⟩
set_option maxHeartbeats 2000000 in
theorem bil_new (w0 w : World) (hw : Below w0.heap.size w0 w) : Calls Tryz.prog 9 #[] w (Bl.NewE w0 w) := by
 have HW := Lib.hid hw
 clear hw
 go_enter Tryz.func9,Tryz.ntmps9
 go_wp2_with fail
 exact bodyPost_ret (v := .agg #[.slice none 0 0,.slice none 0 0,.slice none 0 0,.slice none 0 0,.slice none 0 0,.int .i64 1]) (by simp [results,Tryz.results9,go_sem]) rfl ⟨⟨⟨none,0,0⟩,⟨none,0,0⟩,⟨none,0,0⟩,⟨none,0,0⟩,⟨none,0,0⟩,1⟩,rfl,Bl.liesA_new _ _,below_box HW.out _⟩
set_option maxHeartbeats 2000000 in
theorem bil_refusal (n : Int) (w0 w : World) (hw : Below w0.heap.size w0 w) : Calls Tryz.prog 20 #[.int .i64 n] w fun e w' => e = .returned (Rp.val ⟨n,0,0⟩) ∧ Below w0.heap.size w0 w' := by
 have HW := Lib.hid hw
 clear hw
 go_enter Tryz.func20,Tryz.ntmps20
 go_wp2_with fail
 exact bodyPost_ret (v := Rp.val ⟨n,0,0⟩) (by simp [results,Rp.val,Tryz.results20,go_sem]) rfl ⟨rfl,below_box HW.out _⟩
set_option maxHeartbeats 2000000 in
theorem bil_known (k : Int) (w : World) : Calls Tryz.prog 35 #[.int .i64 k] w fun e w' => e = .returned (.bool (Bl.kindB k)) ∧ w' = w := by
 by_cases h : 1 ≤ k ∧ k ≤ 8
 ·
  have HK := Lib.hid (Bl.kind_iff.2 h)
  have hc : k = 1 ∨ k = 2 ∨ k = 3 ∨ k = 4 ∨ k = 5 ∨ k = 6 ∨ k = 7 ∨ k = 8 := by omega
  clear h
  rcases hc with rfl | rfl | rfl | rfl | rfl | rfl | rfl | rfl
  all_goals
   go_enter Tryz.func35,Tryz.ntmps35
   go_wp2_with fail
   go_ret
   exact ⟨rfl,rfl⟩
 ·
  have HK : Hid (Bl.kindB k = false) := Lib.hid (by
   cases q : Bl.kindB k
   · rfl
   · exact absurd (Bl.kind_iff.1 q) h)
  have q1 : (k == 1) = false := beq_eq_false_iff_ne.2 (by omega)
  have q2 : (k == 2) = false := beq_eq_false_iff_ne.2 (by omega)
  have q3 : (k == 3) = false := beq_eq_false_iff_ne.2 (by omega)
  have q4 : (k == 4) = false := beq_eq_false_iff_ne.2 (by omega)
  have q5 : (k == 5) = false := beq_eq_false_iff_ne.2 (by omega)
  have q6 : (k == 6) = false := beq_eq_false_iff_ne.2 (by omega)
  have q7 : (k == 7) = false := beq_eq_false_iff_ne.2 (by omega)
  have q8 : (k == 8) = false := beq_eq_false_iff_ne.2 (by omega)
  clear h
  go_enter Tryz.func35,Tryz.ntmps35
  go_wp2_with fail
  go_ret
  exact ⟨by rw [HK.out]; rfl,rfl⟩
set_option maxHeartbeats 4000000 in
theorem bil_index (ps : List Bl.Ps) (rs : List Pd.T) (c : ByteArray) (m : Int) (ao : Option Addr) (n cap : Nat) (w0 w : World) (hw : Below w0.heap.size w0 w) (hL : Pd.Ls w ao n cap rs) (hE : Bl.Each w rs ps) :
  Calls Tryz.prog 81 #[.slice ao n cap,.agg #[.string c,.int .i64 m]] w fun e w' => e = .returned (.int .i64 (Bl.pix c m ps : Nat)) ∧ Below w0.heap.size w0 w' := by
 have HW := Lib.hid hw
 have HL := Lib.hid hL
 have HN := Lib.hid hL.len
 have HE := Lib.hid hE
 have hcap := hL.reach
 have hfit := hL.fits
 clear hL hw hE
 obtain ⟨V,hV,hbV,v0,v1⟩ := Bl.ref_box w c m
 have HV := Lib.hid hbV
 have HC := Lib.hid (And.intro v0 v1)
 clear hbV v0 v1
 go_enter Tryz.func81,Tryz.ntmps81
 go_wp2_with fail
 clear hV
 go_loopw [5,6,9] (fun _ _ j wr => ∃ k : Nat,k ≤ n ∧ j = .int .i64 k ∧ Hid (∀ p ∈ ps.take k,¬ (p.ser = c ∧ p.num = m)) ∧ Hid (Below V.heap.size V wr)) (fun _ _ j _ => n - (intOf j).toNat)
 case atStart => exact ⟨0,by omega,rfl,Lib.hid (fun _ h => by cases h),Lib.hid (Below.refl _ _)⟩
 case round =>
  obtain ⟨k,hk,rfl,HT,HB⟩ := hrel
  by_cases hlt : k < n
  ·
   obtain ⟨b,off,rfl⟩ := HL.out.at (by omega)
   have hkl : k < rs.length := HN.out ▸ hlt
   have hkp : k < ps.length := HE.out.len ▸ hkl
   have hrow := (HL.out.row k hkl).below (bchain HV.out HB.out)
   have hI := HE.out.each k hkl
   obtain ⟨r,hr⟩ : ∃ r,rs[k] = r := ⟨_,rfl⟩
   obtain ⟨p,hp⟩ : ∃ p,ps[k] = p := ⟨_,rfl⟩
   rw [hr] at hrow hI
   rw [hp] at hI
   have e1 := hI.ser
   have e2 := hI.num
   clear hr hI
   have hA := Pd.c_box wr r
   have HBW := Lib.hid (bchain HB.out (Pd.below_own wr r))
   have x0 := (bcell (bchain HB.out (Pd.below_own wr r))).1 _ 0 (cell_lt HC.out.1) |>.trans HC.out.1
   have x1 := (bcell (bchain HB.out (Pd.below_own wr r))).1 _ 1 (cell_lt HC.out.1) |>.trans HC.out.2
   have hA' := hA
   unfold Pd.C at hA'
   obtain ⟨a0,a1,_⟩ := hA'
   have HS := Lib.hid (List.take_succ_eq_append_getElem hkp)
   rw [hp] at HS
   by_cases he : r.ser = c
   ·
    have q0 := Bl.tl_eq he
    by_cases hm : r.num = m
    ·
     have HF := Lib.hid (Bl.pix_at hkp HT.out (by rw [hp]; exact ⟨e1 ▸ he,e2 ▸ hm⟩))
     have q1 : (r.num == m) = true := beq_iff_eq.2 hm
     clear he hm e1 e2
     go_wp2_with (first | ((with_reducible apply Pd.wpl_load hrow); rfl; rfl; rfl) | ((with_reducible apply Pd.wpl_store (r := r) (g := wr.heap.size)); rfl; rfl; rfl; rfl; rfl; rfl))
     go_ret
     exact ⟨by rw [HF.out]; rfl,bchain HW.out (bchain HV.out HBW.out)⟩
    ·
     have HNo : Hid (¬ (p.ser = c ∧ p.num = m)) := Lib.hid fun h => hm (e2.trans h.2)
     have q1 : (r.num == m) = false := beq_eq_false_iff_ne.2 hm
     clear he hm e1 e2
     go_wp2_with (first | ((with_reducible apply Pd.wpl_load hrow); rfl; rfl; rfl) | ((with_reducible apply Pd.wpl_store (r := r) (g := wr.heap.size)); rfl; rfl; rfl; rfl; rfl; rfl))
     go_roundw
     case rel =>
      refine ⟨k + 1,by omega,by go_num,Lib.hid ?_,HBW⟩
      rw [HS.out]
      intro x hx
      rcases List.mem_append.1 hx with h | h
      · exact HT.out x h
      ·
       rw [List.mem_singleton.1 h]
       exact HNo.out
     case measure => simp [intOf]; omega
   ·
    have q0 := Bl.tl_ne he
    have HNo : Hid (¬ (p.ser = c ∧ p.num = m)) := Lib.hid fun h => he (e1.trans h.1)
    clear he e1 e2
    go_wp2_with (first | ((with_reducible apply Pd.wpl_load hrow); rfl; rfl; rfl) | ((with_reducible apply Pd.wpl_store (r := r) (g := wr.heap.size)); rfl; rfl; rfl; rfl; rfl; rfl))
    go_roundw
    case rel =>
     refine ⟨k + 1,by omega,by go_num,Lib.hid ?_,HBW⟩
     rw [HS.out]
     intro x hx
     rcases List.mem_append.1 hx with h | h
     · exact HT.out x h
     ·
      rw [List.mem_singleton.1 h]
      exact HNo.out
    case measure => simp [intOf]; omega
  ·
   obtain rfl : k = n := by omega
   have HF : Hid (Bl.pix c m ps = k) := Lib.hid (by
    rw [Bl.pix_none,← HE.out.len,HN.out]
    intro p hp
    exact HT.out p (by rw [List.take_of_length_le (by rw [← HE.out.len,HN.out]; exact Nat.le_refl _)]; exact hp))
   go_wp2_with fail
   go_ret
   exact ⟨by rw [HF.out]; rfl,bchain HW.out (bchain HV.out HB.out)⟩
set_option maxHeartbeats 4000000 in
theorem bil_credits (ps : List Bl.Ps) (rs : List Pd.T) (c : ByteArray) (m : Int) (ao : Option Addr) (n cap : Nat) (w0 w : World) (hw : Below w0.heap.size w0 w) (hL : Pd.Ls w ao n cap rs) (hE : Bl.Each w rs ps) :
  Calls Tryz.prog 56 #[.slice ao n cap,.agg #[.string c,.int .i64 m]] w fun e w' => e = .returned (.int .i64 (Bl.crd c m ps : Nat)) ∧ Below w0.heap.size w0 w' := by
 have HW := Lib.hid hw
 have HL := Lib.hid hL
 have HN := Lib.hid hL.len
 have HE := Lib.hid hE
 have hcap := hL.reach
 have hfit := hL.fits
 clear hL hw hE
 obtain ⟨V,hV,hbV,v0,v1⟩ := Bl.ref_box w c m
 have HV := Lib.hid hbV
 have HC := Lib.hid (And.intro v0 v1)
 clear hbV v0 v1
 go_enter Tryz.func56,Tryz.ntmps56
 go_wp2_with fail
 clear hV
 go_loopw [5,7,10] (fun a _ j wr => ∃ k t : Nat,k ≤ n ∧ t ≤ k ∧ j = .int .i64 k ∧ a = .int .i64 t ∧ Hid (Bl.crd c m (ps.take k) = t) ∧ Hid (Below V.heap.size V wr)) (fun _ _ j _ => n - (intOf j).toNat)
 case atStart => exact ⟨0,0,by omega,by omega,rfl,rfl,Lib.hid rfl,Lib.hid (Below.refl _ _)⟩
 case round =>
  obtain ⟨k,t,hk,htk,rfl,rfl,HT,HB⟩ := hrel
  by_cases hlt : k < n
  ·
   obtain ⟨b,off,rfl⟩ := HL.out.at (by omega)
   have hkl : k < rs.length := HN.out ▸ hlt
   have hkp : k < ps.length := HE.out.len ▸ hkl
   have hrow := (HL.out.row k hkl).below (bchain HV.out HB.out)
   have hI := HE.out.each k hkl
   obtain ⟨r,hr⟩ : ∃ r,rs[k] = r := ⟨_,rfl⟩
   have HS := Lib.hid (Bl.crd_take c m ps k hkp)
   obtain ⟨p,hp⟩ : ∃ p,ps[k] = p := ⟨_,rfl⟩
   rw [hr] at hrow hI
   rw [hp] at hI HS
   have e1 := hI.ofS
   have e2 := hI.ofN
   clear hr hI hp
   have hA := Pd.c_box wr r
   have HBW := Lib.hid (bchain HB.out (Pd.below_own wr r))
   have x0 := (bcell (bchain HB.out (Pd.below_own wr r))).1 _ 0 (cell_lt HC.out.1) |>.trans HC.out.1
   have x1 := (bcell (bchain HB.out (Pd.below_own wr r))).1 _ 1 (cell_lt HC.out.1) |>.trans HC.out.2
   have hA' := hA
   unfold Pd.C at hA'
   obtain ⟨_,_,_,_,_,_,_,_,_,a9,a10,_⟩ := hA'
   by_cases he : r.ofS = c
   ·
    have q0 := Bl.tl_eq he
    by_cases hm : r.ofN = m
    ·
     have HF : Hid (Bl.crd c m (ps.take (k + 1)) = t + 1) := Lib.hid (by rw [HS.out,HT.out,if_pos ⟨e1 ▸ he,e2 ▸ hm⟩])
     have q1 : (r.ofN == m) = true := beq_iff_eq.2 hm
     clear he hm e1 e2
     go_wp2_with (first | ((with_reducible apply Pd.wpl_load hrow); rfl; rfl; rfl) | ((with_reducible apply Pd.wpl_store (r := r) (g := wr.heap.size)); rfl; rfl; rfl; rfl; rfl; rfl))
     go_roundw
     case rel => exact ⟨k + 1,t + 1,by omega,by omega,by go_num,by go_num,HF,HBW⟩
     case measure => simp [intOf]; omega
    ·
     have HF : Hid (Bl.crd c m (ps.take (k + 1)) = t) := Lib.hid (by rw [HS.out,HT.out,if_neg (fun h => hm (e2.trans h.2)),Nat.add_zero])
     have q1 : (r.ofN == m) = false := beq_eq_false_iff_ne.2 hm
     clear he hm e1 e2
     go_wp2_with (first | ((with_reducible apply Pd.wpl_load hrow); rfl; rfl; rfl) | ((with_reducible apply Pd.wpl_store (r := r) (g := wr.heap.size)); rfl; rfl; rfl; rfl; rfl; rfl))
     go_roundw
     case rel => exact ⟨k + 1,t,by omega,by omega,by go_num,rfl,HF,HBW⟩
     case measure => simp [intOf]; omega
   ·
    have q0 := Bl.tl_ne he
    have HF : Hid (Bl.crd c m (ps.take (k + 1)) = t) := Lib.hid (by rw [HS.out,HT.out,if_neg (fun h => he (e1.trans h.1)),Nat.add_zero])
    clear he e1 e2
    go_wp2_with (first | ((with_reducible apply Pd.wpl_load hrow); rfl; rfl; rfl) | ((with_reducible apply Pd.wpl_store (r := r) (g := wr.heap.size)); rfl; rfl; rfl; rfl; rfl; rfl))
    go_roundw
    case rel => exact ⟨k + 1,t,by omega,by omega,by go_num,rfl,HF,HBW⟩
    case measure => simp [intOf]; omega
  ·
   obtain rfl : k = n := by omega
   have HF : Hid (Bl.crd c m ps = t) := Lib.hid (by
    rw [← HT.out,List.take_of_length_le (by rw [← HE.out.len,HN.out]; exact Nat.le_refl _)])
   go_wp2_with fail
   go_ret
   exact ⟨by rw [HF.out]; rfl,bchain HW.out (bchain HV.out HB.out)⟩
def Bl.CountE (w0 : World) (c : ByteArray) (ps : List Bl.Ps) (e : Ending) (w' : World) : Prop := (Bl.CntOk c ps ∧ e = .returned (.tuple #[.int .i64 (Bl.cnt c ps : Nat),.bool true]) ∨ ¬ Bl.CntOk c ps ∧ e = .returned (.tuple #[.int .i64 0,.bool false])) ∧ Below w0.heap.size w0 w'
theorem Bl.cntOk_step {c : ByteArray} {l : List Bl.Ps} {k : Nat} (hk : k < l.length) (h : Bl.CntOk c (l.take k)) (hn : l[k].ser = c → l[k].num = (Bl.cnt c (l.take k) : Int) + 1) : Bl.CntOk c (l.take (k + 1)) := by
 intro i hi e
 rw [List.length_take] at hi
 rw [List.getElem_take] at e
 rw [List.getElem_take]
 have ht : ((l.take (k + 1)).take i) = l.take i := by rw [List.take_take,Nat.min_eq_left (by omega)]
 rw [ht]
 by_cases q : i = k
 ·
  subst q
  exact hn e
 ·
  have := h i (by rw [List.length_take]; omega) (by rw [List.getElem_take]; exact e)
  have hm : min i k = i := by omega
  simp only [List.getElem_take,List.take_take,hm] at this
  exact this
set_option maxHeartbeats 4000000 in
theorem bil_count (ps : List Bl.Ps) (rs : List Pd.T) (c : ByteArray) (ao : Option Addr) (n cap : Nat) (w0 w : World) (hw : Below w0.heap.size w0 w) (hL : Pd.Ls w ao n cap rs) (hE : Bl.Each w rs ps) :
  Calls Tryz.prog 51 #[.slice ao n cap,.string c] w (Bl.CountE w0 c ps) := by
 have HW := Lib.hid hw
 have HL := Lib.hid hL
 have HN := Lib.hid hL.len
 have HE := Lib.hid hE
 have hcap := hL.reach
 have hfit := hL.fits
 clear hL hw hE
 go_enter Tryz.func51,Tryz.ntmps51
 go_wp2_with fail
 go_loopw [6,8,11] (fun a _ j wr => ∃ k t : Nat,k ≤ n ∧ t ≤ k ∧ j = .int .i64 k ∧ a = .int .i64 t ∧ Hid (Bl.cnt c (ps.take k) = t ∧ Bl.CntOk c (ps.take k)) ∧ Hid (Below w.heap.size w wr)) (fun _ _ j _ => n - (intOf j).toNat)
 case atStart => exact ⟨0,0,by omega,by omega,rfl,rfl,Lib.hid ⟨rfl,fun i hi => absurd hi (Nat.not_lt_zero _)⟩,Lib.hid (Below.refl _ _)⟩
 case round =>
  obtain ⟨k,t,hk,htk,rfl,rfl,HT,HB⟩ := hrel
  by_cases hlt : k < n
  ·
   obtain ⟨b,off,rfl⟩ := HL.out.at (by omega)
   have hkl : k < rs.length := HN.out ▸ hlt
   have hkp : k < ps.length := HE.out.len ▸ hkl
   have hrow := (HL.out.row k hkl).below HB.out
   have hI := HE.out.each k hkl
   obtain ⟨r,hr⟩ : ∃ r,rs[k] = r := ⟨_,rfl⟩
   have HS := Lib.hid (Bl.cnt_take c ps k hkp)
   have HSt := Lib.hid (Bl.cntOk_step hkp HT.out.2)
   have HNo : Hid (ps[k].ser = c → ¬ ps[k].num = (t : Int) + 1 → ¬ Bl.CntOk c ps) := Lib.hid fun e q h => q (by have := h k hkp e; rw [HT.out.1] at this; exact this)
   obtain ⟨p,hp⟩ : ∃ p,ps[k] = p := ⟨_,rfl⟩
   rw [hr] at hrow hI
   rw [hp] at hI HS HSt HNo
   have e1 := hI.ser
   have e2 := hI.num
   clear hr hI hp
   have hA := Pd.c_box wr r
   have HBW := Lib.hid (bchain HB.out (Pd.below_own wr r))
   have hA' := hA
   unfold Pd.C at hA'
   obtain ⟨a0,a1,_⟩ := hA'
   by_cases he : r.ser = c
   ·
    have q0 := Bl.tl_eq he
    have HF : Hid (Bl.cnt c (ps.take (k + 1)) = t + 1) := Lib.hid (by rw [HS.out,HT.out.1,if_pos (e1 ▸ he)])
    by_cases hm : r.num = (t : Int) + 1
    ·
     have HG := Lib.hid (HSt.out fun _ => by rw [HT.out.1,← e2]; exact hm)
     have q1 : (r.num == (t : Int) + 1) = true := beq_iff_eq.2 hm
     clear he hm e1 e2
     go_wp2_with (first | ((with_reducible apply Pd.wpl_load hrow); rfl; rfl; rfl) | ((with_reducible apply Pd.wpl_store (r := r) (g := wr.heap.size)); rfl; rfl; rfl; rfl; rfl; rfl))
     go_roundw
     case rel => exact ⟨k + 1,t + 1,by omega,by omega,by go_num,by go_num,Lib.hid ⟨HF.out,HG.out⟩,HBW⟩
     case measure => simp [intOf]; omega
    ·
     have HG := Lib.hid (HNo.out (e1 ▸ he) (e2 ▸ hm))
     have q1 : (r.num == (t : Int) + 1) = false := beq_eq_false_iff_ne.2 hm
     clear he hm e1 e2
     go_wp2_with (first | ((with_reducible apply Pd.wpl_load hrow); rfl; rfl; rfl) | ((with_reducible apply Pd.wpl_store (r := r) (g := wr.heap.size)); rfl; rfl; rfl; rfl; rfl; rfl))
     go_ret2
     exact ⟨.inr ⟨HG.out,rfl⟩,bchain HW.out HBW.out⟩
   ·
    have q0 := Bl.tl_ne he
    have HF : Hid (Bl.cnt c (ps.take (k + 1)) = t) := Lib.hid (by rw [HS.out,HT.out.1,if_neg (fun h => he (e1.trans h)),Nat.add_zero])
    have HG := Lib.hid (HSt.out fun h => absurd (e1.trans h) he)
    clear he e1 e2
    go_wp2_with (first | ((with_reducible apply Pd.wpl_load hrow); rfl; rfl; rfl) | ((with_reducible apply Pd.wpl_store (r := r) (g := wr.heap.size)); rfl; rfl; rfl; rfl; rfl; rfl))
    go_roundw
    case rel => exact ⟨k + 1,t,by omega,by omega,by go_num,rfl,Lib.hid ⟨HF.out,HG.out⟩,HBW⟩
    case measure => simp [intOf]; omega
  ·
   obtain rfl : k = n := by omega
   have HF : Hid (Bl.cnt c ps = t ∧ Bl.CntOk c ps) := Lib.hid (by
    have h := HT.out
    rw [List.take_of_length_le (by rw [← HE.out.len,HN.out]; exact Nat.le_refl _)] at h
    exact h)
   go_wp2_with fail
   go_ret2
   exact ⟨.inl ⟨HF.out.2,by rw [HF.out.1]; rfl⟩,bchain HW.out HB.out⟩
set_option maxHeartbeats 4000000 in
theorem bil_amount (bs : List Ba.T) (c : ByteArray) (ao : Option Addr) (n cap : Nat) (w0 w : World) (hw : Below w0.heap.size w0 w) (hL : Ba.Ls w ao n cap bs) (hS : Po.Sorted bs) :
  Calls Tryz.prog 102 #[.slice ao n cap,.string c] w fun e w' => e = .returned (.int .i64 (Po.val c bs)) ∧ Below w0.heap.size w0 w' := by
 have HW := Lib.hid hw
 have HL := Lib.hid hL
 have HN := Lib.hid hL.len
 have HSo := Lib.hid hS
 have hcap := hL.reach
 have hfit := hL.fits
 clear hL hw hS
 go_enter Tryz.func102,Tryz.ntmps102
 go_wp2_with fail
 go_loopw [6,9] (fun _ j wr => ∃ k : Nat,k ≤ n ∧ j = .int .i64 k ∧ Hid (∀ x ∈ bs.take k,x.acct ≠ c) ∧ Hid (Below w.heap.size w wr)) (fun _ j _ => n - (intOf j).toNat)
 case atStart => exact ⟨0,by omega,rfl,Lib.hid (fun _ h => by cases h),Lib.hid (Below.refl _ _)⟩
 case round =>
  obtain ⟨k,hk,rfl,HT,HB⟩ := hrel
  by_cases hlt : k < n
  ·
   obtain ⟨b,off,rfl⟩ := HL.out.at (by omega)
   have hkl : k < bs.length := HN.out ▸ hlt
   have hrow := (HL.out.row k hkl).below HB.out
   have HS := Lib.hid (List.take_succ_eq_append_getElem hkl)
   have HM := Lib.hid (List.getElem_mem hkl)
   obtain ⟨r,hr⟩ : ∃ r,bs[k] = r := ⟨_,rfl⟩
   rw [hr] at hrow HS HM
   clear hr
   obtain ⟨g0,g1⟩ := hrow
   obtain ⟨W,hW,hbW,hA⟩ := Ba.boxed1 wr r
   have HBW := Lib.hid (bchain HB.out hbW)
   clear hbW
   unfold Ba.C at hA
   obtain ⟨a0,a1⟩ := hA
   by_cases he : r.acct = c
   ·
    have q0 := Bl.tl_eq he
    have HF : Hid (Po.val c bs = r.amt) := Lib.hid (by
     unfold Po.val
     rw [(Po.look HSo.out HM.out he).1])
    clear he
    go_wp2_with fail
    go_ret
    exact ⟨by rw [HF.out]; rfl,bchain HW.out HBW.out⟩
   ·
    have q0 := Bl.tl_ne he
    have HE := Lib.hid he
    clear he
    go_wp2_with fail
    go_roundw
    case rel =>
     refine ⟨k + 1,by omega,by go_num,Lib.hid ?_,HBW⟩
     rw [HS.out]
     intro x hx
     rcases List.mem_append.1 hx with h | h
     · exact HT.out x h
     ·
      rw [List.mem_singleton.1 h]
      exact HE.out
    case measure => simp [intOf]; omega
  ·
   obtain rfl : k = n := by omega
   have HF : Hid (Po.val c bs = 0) := Lib.hid (by
    refine Po.val_no ?_
    cases q : Po.has c bs
    · rfl
    ·
     obtain ⟨x,hx,e⟩ := Po.has_mem q
     exact absurd e (HT.out x (by rw [List.take_of_length_le (by rw [HN.out]; exact Nat.le_refl _)]; exact hx)))
   go_wp2_with fail
   go_ret
   exact ⟨by rw [HF.out]; rfl,bchain HW.out HB.out⟩
end Go.Proofs.YtjpfpojbalepeabGreat
namespace Go.Proofs.YtjpfpojbalepeabGreat
open Go.RowKit
open Mem
structure KpP (P : Nat → Prop) (w v : World) : Prop where
 cell : ∀ b o,P b → b < w.heap.size → v.cell? ⟨b,o,none⟩ = w.cell? ⟨b,o,none⟩
 size : w.heap.size ≤ v.heap.size
theorem KpP.of {P : Nat → Prop} {w v : World} (h : Below w.heap.size w v) : KpP P w v := ⟨fun b o _ hb => (bcell h).1 b o hb,h.size⟩
theorem KpP.trans {P : Nat → Prop} {u v w : World} (h : KpP P u v) (k : KpP P v w) : KpP P u w := ⟨fun b o ha hb => (k.cell b o ha (Nat.lt_of_lt_of_le hb h.size)).trans (h.cell b o ha hb),Nat.le_trans h.size k.size⟩
theorem KpP.set {P : Nat → Prop} {g : Nat} (w : World) (hg : ¬ P g) (o : Nat) (x : Value) : KpP P w (w.setCell ⟨g,o,none⟩ x) :=
 ⟨fun b o' ha _ => World.cell?_setCell_other _ _ _ _ (by intro k; simp only [Addr.mk.injEq] at k; exact hg (k.1 ▸ ha)),by simp⟩
theorem KpP.row {P : Nat → Prop} {g : Nat} (w : World) (hg : ¬ P g) (vs : Array Value) : KpP P w (w.setRow g vs) := by
 refine ⟨fun b o ha hb => ?_,by simp [World.setRow]⟩
 have e : (w.setRow g vs).heap[b]? = w.heap[b]? := setRow_other w g b _ (by intro k; exact hg (k ▸ ha))
 unfold World.cell?
 simp only [e]
def InP (P : Nat → Prop) (ao : Option Addr) (n : Nat) : Prop := 0 < n → ∀ b off,ao = some ⟨b,off,none⟩ → P b
theorem InP.mono {P Q : Nat → Prop} {ao : Option Addr} {n : Nat} (h : InP P ao n) (k : ∀ b,P b → Q b) : InP Q ao n := fun hn b off e => k b (h hn b off e)
theorem inP_nil (P : Nat → Prop) (ao : Option Addr) : InP P ao 0 := fun h => absurd h (Nat.lt_irrefl _)
def nw (P : Nat → Prop) (w : World) (b : Nat) : Prop := P b ∨ w.heap.size ≤ b
theorem InA.nw {A : Nat} {ao : Option Addr} {n : Nat} (h : InA A ao n) (P : Nat → Prop) {w : World} (k : w.heap.size ≤ A) : InP (Go.Proofs.YtjpfpojbalepeabGreat.nw P w) ao n := fun hn b off e => .inr (Nat.le_trans k (h hn b off e))
theorem Sr.Ls.kpP {P : Nat → Prop} {w v : World} {ao : Option Addr} {n cap : Nat} {rs : List Sr.T} (h : Sr.Ls w ao n cap rs) (hi : InP P ao n) (k : KpP P w v) : Sr.Ls v ao n cap rs := by
 refine ⟨h.len,h.fits,h.reach,h.nil,?_,h.short⟩
 rcases h.seg with e | ⟨b,off,e,hc⟩
 · exact .inl e
 ·
  refine .inr ⟨b,off,e,fun i hr => ?_⟩
  have hA := hi (by rw [h.len]; omega) b off e
  have hl := cell_lt (hc i hr).c0
  exact ⟨(k.cell b _ hA hl).trans (hc i hr).c0,(k.cell b _ hA hl).trans (hc i hr).c1,(k.cell b _ hA hl).trans (hc i hr).c2,(k.cell b _ hA hl).trans (hc i hr).c3⟩
theorem Ba.Ls.kpP {P : Nat → Prop} {w v : World} {ao : Option Addr} {n cap : Nat} {rs : List Ba.T} (h : Ba.Ls w ao n cap rs) (hi : InP P ao n) (k : KpP P w v) : Ba.Ls v ao n cap rs := by
 refine ⟨h.len,h.fits,h.reach,h.nil,?_,h.short⟩
 rcases h.seg with e | ⟨b,off,e,hc⟩
 · exact .inl e
 ·
  refine .inr ⟨b,off,e,fun i hr => ?_⟩
  have hA := hi (by rw [h.len]; omega) b off e
  have hl := cell_lt (hc i hr).c0
  exact ⟨(k.cell b _ hA hl).trans (hc i hr).c0,(k.cell b _ hA hl).trans (hc i hr).c1⟩
theorem Sn.Ls.kpP {P : Nat → Prop} {w v : World} {ao : Option Addr} {n cap : Nat} {rs : List Sn.T} (h : Sn.Ls w ao n cap rs) (hi : InP P ao n) (k : KpP P w v) : Sn.Ls v ao n cap rs := by
 refine ⟨h.len,h.fits,h.reach,h.nil,?_,h.short⟩
 rcases h.seg with e | ⟨b,off,e,hc⟩
 · exact .inl e
 ·
  refine .inr ⟨b,off,e,fun i hr => ?_⟩
  have hA := hi (by rw [h.len]; omega) b off e
  have hl := cell_lt (hc i hr).c0
  exact ⟨(k.cell b _ hA hl).trans (hc i hr).c0,(k.cell b _ hA hl).trans (hc i hr).c1,(k.cell b _ hA hl).trans (hc i hr).c2,(k.cell b _ hA hl).trans (hc i hr).c3,(k.cell b _ hA hl).trans (hc i hr).c4⟩
theorem Pt.Ls.kpP {P : Nat → Prop} {w v : World} {ao : Option Addr} {n cap : Nat} {rs : List Pt.T} (h : Pt.Ls w ao n cap rs) (hi : InP P ao n) (k : KpP P w v) : Pt.Ls v ao n cap rs := by
 refine ⟨h.len,h.fits,h.reach,h.nil,?_,h.short⟩
 rcases h.seg with e | ⟨b,off,e,hc⟩
 · exact .inl e
 ·
  refine .inr ⟨b,off,e,fun i hr => ?_⟩
  have hA := hi (by rw [h.len]; omega) b off e
  have hl := cell_lt (hc i hr).c0
  exact ⟨(k.cell b _ hA hl).trans (hc i hr).c0,(k.cell b _ hA hl).trans (hc i hr).c1,(k.cell b _ hA hl).trans (hc i hr).c2,(k.cell b _ hA hl).trans (hc i hr).c3⟩
theorem Pd.Ls.kpP {P : Nat → Prop} {w v : World} {ao : Option Addr} {n cap : Nat} {rs : List Pd.T} (h : Pd.Ls w ao n cap rs) (hi : InP P ao n) (k : KpP P w v) : Pd.Ls v ao n cap rs := by
 refine ⟨h.len,h.fits,h.reach,h.nil,?_,h.short⟩
 rcases h.seg with e | ⟨b,off,e,hc⟩
 · exact .inl e
 ·
  refine .inr ⟨b,off,e,fun i hr => ?_⟩
  have hA := hi (by rw [h.len]; omega) b off e
  have hl := cell_lt (hc i hr).c0
  exact ⟨(k.cell b _ hA hl).trans (hc i hr).c0,(k.cell b _ hA hl).trans (hc i hr).c1,(k.cell b _ hA hl).trans (hc i hr).c2,(k.cell b _ hA hl).trans (hc i hr).c3,(k.cell b _ hA hl).trans (hc i hr).c4,(k.cell b _ hA hl).trans (hc i hr).c5,(k.cell b _ hA hl).trans (hc i hr).c6,(k.cell b _ hA hl).trans (hc i hr).c7,(k.cell b _ hA hl).trans (hc i hr).c8,(k.cell b _ hA hl).trans (hc i hr).c9,(k.cell b _ hA hl).trans (hc i hr).c10,(k.cell b _ hA hl).trans (hc i hr).c11⟩
theorem Ca.Ls.kpP {P : Nat → Prop} {w v : World} {ao : Option Addr} {n cap : Nat} {rs : List Ca.T} (h : Ca.Ls w ao n cap rs) (hi : InP P ao n) (k : KpP P w v) : Ca.Ls v ao n cap rs := by
 refine ⟨h.len,h.fits,h.reach,h.nil,?_,h.short⟩
 rcases h.seg with e | ⟨b,off,e,hc⟩
 · exact .inl e
 ·
  refine .inr ⟨b,off,e,fun i hr => ?_⟩
  have hA := hi (by rw [h.len]; omega) b off e
  have hl := cell_lt (hc i hr).c0
  exact ⟨(k.cell b _ hA hl).trans (hc i hr).c0,(k.cell b _ hA hl).trans (hc i hr).c1,(k.cell b _ hA hl).trans (hc i hr).c2,(k.cell b _ hA hl).trans (hc i hr).c3,(k.cell b _ hA hl).trans (hc i hr).c4,(k.cell b _ hA hl).trans (hc i hr).c5,(k.cell b _ hA hl).trans (hc i hr).c6,(k.cell b _ hA hl).trans (hc i hr).c7,(k.cell b _ hA hl).trans (hc i hr).c8,(k.cell b _ hA hl).trans (hc i hr).c9,(k.cell b _ hA hl).trans (hc i hr).c10,(k.cell b _ hA hl).trans (hc i hr).c11,(k.cell b _ hA hl).trans (hc i hr).c12,(k.cell b _ hA hl).trans (hc i hr).c13,(k.cell b _ hA hl).trans (hc i hr).c14,(k.cell b _ hA hl).trans (hc i hr).c15,(k.cell b _ hA hl).trans (hc i hr).c16⟩
theorem Rts.kpP {P : Nat → Prop} {w v : World} {ao : Option Addr} {n cap : Nat} {rs : List Vt.Rt} (h : Rts w ao n cap rs) (hi : InP P ao n) (k : KpP P w v) : Rts v ao n cap rs := by
 refine ⟨h.len,h.fits,h.reach,h.nil,?_,h.short⟩
 rcases h.seg with e | ⟨b,off,e,hc⟩
 · exact .inl e
 ·
  refine .inr ⟨b,off,e,fun i hr => ?_⟩
  have hA := hi (by rw [h.len]; omega) b off e
  have hl := cell_lt (hc i hr).c0
  exact ⟨(k.cell b _ hA hl).trans (hc i hr).c0,(k.cell b _ hA hl).trans (hc i hr).c1,(k.cell b _ hA hl).trans (hc i hr).c2,(k.cell b _ hA hl).trans (hc i hr).c3,(k.cell b _ hA hl).trans (hc i hr).c4⟩
theorem Sr.Ls.inp {w : World} {ao : Option Addr} {n cap : Nat} {rs : List Sr.T} (h : Sr.Ls w ao n cap rs) : InP (· < w.heap.size) ao n := fun hn b off e => by
 rcases h.seg with z | ⟨b',off',e',hc⟩
 ·
  rw [h.len,z] at hn
  exact absurd hn (Nat.lt_irrefl _)
 ·
  rw [e'] at e
  cases e
  exact cell_lt (hc 0 (by rw [← h.len]; exact hn)).c0
theorem Ba.Ls.inp {w : World} {ao : Option Addr} {n cap : Nat} {rs : List Ba.T} (h : Ba.Ls w ao n cap rs) : InP (· < w.heap.size) ao n := fun hn b off e => by
 rcases h.seg with z | ⟨b',off',e',hc⟩
 ·
  rw [h.len,z] at hn
  exact absurd hn (Nat.lt_irrefl _)
 ·
  rw [e'] at e
  cases e
  exact cell_lt (hc 0 (by rw [← h.len]; exact hn)).c0
theorem Sn.Ls.inp {w : World} {ao : Option Addr} {n cap : Nat} {rs : List Sn.T} (h : Sn.Ls w ao n cap rs) : InP (· < w.heap.size) ao n := fun hn b off e => by
 rcases h.seg with z | ⟨b',off',e',hc⟩
 ·
  rw [h.len,z] at hn
  exact absurd hn (Nat.lt_irrefl _)
 ·
  rw [e'] at e
  cases e
  exact cell_lt (hc 0 (by rw [← h.len]; exact hn)).c0
theorem Pt.Ls.inp {w : World} {ao : Option Addr} {n cap : Nat} {rs : List Pt.T} (h : Pt.Ls w ao n cap rs) : InP (· < w.heap.size) ao n := fun hn b off e => by
 rcases h.seg with z | ⟨b',off',e',hc⟩
 ·
  rw [h.len,z] at hn
  exact absurd hn (Nat.lt_irrefl _)
 ·
  rw [e'] at e
  cases e
  exact cell_lt (hc 0 (by rw [← h.len]; exact hn)).c0
theorem Pd.Ls.inp {w : World} {ao : Option Addr} {n cap : Nat} {rs : List Pd.T} (h : Pd.Ls w ao n cap rs) : InP (· < w.heap.size) ao n := fun hn b off e => by
 rcases h.seg with z | ⟨b',off',e',hc⟩
 ·
  rw [h.len,z] at hn
  exact absurd hn (Nat.lt_irrefl _)
 ·
  rw [e'] at e
  cases e
  exact cell_lt (hc 0 (by rw [← h.len]; exact hn)).c0
theorem Rts.inp {w : World} {ao : Option Addr} {n cap : Nat} {rs : List Vt.Rt} (h : Rts w ao n cap rs) : InP (· < w.heap.size) ao n := fun hn b off e => by
 rcases h.seg with z | ⟨b',off',e',hc⟩
 ·
  rw [h.len,z] at hn
  exact absurd hn (Nat.lt_irrefl _)
 ·
  rw [e'] at e
  cases e
  exact cell_lt (hc 0 (by rw [← h.len]; exact hn)).c0
namespace Bl
structure Lp (P : Nat → Prop) (w : World) (h : Sv) (s : St) : Prop where
 tab : Rts w h.tab.ao h.tab.n h.tab.cap s.tab
 ser : Sr.Ls w h.ser.ao h.ser.n h.ser.cap s.ser
 post : ∃ rs,Pd.Ls w h.post.ao h.post.n h.post.cap rs ∧ Each w rs s.post ∧ ∀ r ∈ rs,InP P r.parts.ao r.parts.n
 book : Ba.Ls w h.book.ao h.book.n h.book.cap s.book
 sess : Sn.Ls w h.sess.ao h.sess.n h.sess.cap s.sess
 next : h.next = s.next
 fit : Fit s.next
 ptab : InP P h.tab.ao h.tab.n
 pser : InP P h.ser.ao h.ser.n
 ppost : InP P h.post.ao h.post.n
 pbook : InP P h.book.ao h.book.n
 psess : InP P h.sess.ao h.sess.n
variable {P Q : Nat → Prop} {w v : World} {h : Sv} {s : St}
theorem Lp.lies (l : Lp P w h s) : Lies w h s := by
 obtain ⟨rs,h1,h2,_⟩ := l.post
 exact ⟨l.tab,l.ser,⟨rs,h1,h2⟩,l.book,l.sess,l.next,l.fit⟩
theorem Lp.mono (l : Lp P w h s) (k : ∀ b,P b → Q b) : Lp Q w h s := by
 obtain ⟨rs,h1,h2,h3⟩ := l.post
 exact ⟨l.tab,l.ser,⟨rs,h1,h2,fun r hr => (h3 r hr).mono k⟩,l.book,l.sess,l.next,l.fit,l.ptab.mono k,l.pser.mono k,l.ppost.mono k,l.pbook.mono k,l.psess.mono k⟩
theorem Lp.wide (l : Lp P v h s) (w : World) : Lp (Go.Proofs.YtjpfpojbalepeabGreat.nw P w) v h s := l.mono fun _ h => .inl h
theorem Lies.lp (l : Lies w h s) : Lp (· < w.heap.size) w h s := by
 obtain ⟨rs,h1,h2⟩ := l.post
 refine ⟨l.tab,l.ser,⟨rs,h1,h2,fun r hr => ?_⟩,l.book,l.sess,l.next,l.fit,l.tab.inp,l.ser.inp,h1.inp,l.book.inp,l.sess.inp⟩
 obtain ⟨i,hi,rfl⟩ := List.getElem_of_mem hr
 exact (h2.each i hi).parts.inp
theorem InP.both {P Q : Nat → Prop} {ao : Option Addr} {n : Nat} (h : InP P ao n) (k : InP Q ao n) : InP (fun b => P b ∧ Q b) ao n := fun hn b off e => ⟨h hn b off e,k hn b off e⟩
theorem Lp.lt (l : Lp P w h s) : Lp (fun b => P b ∧ b < w.heap.size) w h s := by
 obtain ⟨rs,h1,h2,h3⟩ := l.post
 refine ⟨l.tab,l.ser,⟨rs,h1,h2,fun r hr => ?_⟩,l.book,l.sess,l.next,l.fit,InP.both l.ptab l.tab.inp,InP.both l.pser l.ser.inp,InP.both l.ppost h1.inp,InP.both l.pbook l.book.inp,InP.both l.psess l.sess.inp⟩
 refine InP.both (h3 r hr) ?_
 obtain ⟨i,hi,rfl⟩ := List.getElem_of_mem hr
 exact (h2.each i hi).parts.inp
theorem IsP.kpP {r : Pd.T} {p : Ps} (h : IsP w r p) (hi : InP P r.parts.ao r.parts.n) (k : KpP P w v) : IsP v r p :=
 ⟨h.ser,h.num,h.y,h.m,h.d,h.net,h.tax,h.gross,h.parts.kpP hi k,h.ofS,h.ofN,h.back⟩
theorem Lp.kp (l : Lp P w h s) (k : KpP P w v) : Lp P v h s := by
 obtain ⟨rs,h1,h2,h3⟩ := l.post
 exact ⟨l.tab.kpP l.ptab k,l.ser.kpP l.pser k,⟨rs,h1.kpP l.ppost k,⟨h2.len,fun i hi => (h2.each i hi).kpP (h3 _ (List.getElem_mem hi)) k⟩,h3⟩,l.book.kpP l.pbook k,l.sess.kpP l.psess k,l.next,l.fit,l.ptab,l.pser,l.ppost,l.pbook,l.psess⟩
theorem Lp.below (l : Lp P w h s) (k : Below w.heap.size w v) : Lp P v h s := l.kp (KpP.of k)
theorem Lp.liesA {A : Nat} (l : Lp (fun b => A ≤ b) w h s) : LiesA A w h s := by
 obtain ⟨rs,h1,h2,h3⟩ := l.post
 exact ⟨l.tab,l.ser,⟨rs,h1,h2,h3⟩,l.book,l.sess,l.next,l.fit,l.ptab,l.pser,l.ppost,l.pbook,l.psess⟩
end Bl
end Go.Proofs.YtjpfpojbalepeabGreat
set_option maxRecDepth 100000
namespace Go.Proofs.YtjpfpojbalepeabGreat
open Go.RowKit
open Mem
open Go.Sort (grow)
def Bl.zsv : Bl.Sv := ⟨⟨none,0,0⟩,⟨none,0,0⟩,⟨none,0,0⟩,⟨none,0,0⟩,⟨none,0,0⟩,0⟩
def Rp.Bk (u : World) (g : Nat) (r : Rp.T) : Prop := u.heap[g]? = some (.cells #[.int .i64 r.why,.int .i64 r.num,.int .i64 r.gross] 48 (0,0))
theorem Rp.Bk.lt {u : World} {g : Nat} {r : Rp.T} (h : Rp.Bk u g r) : g < u.heap.size := by
 obtain ⟨hl,_⟩ := Array.getElem?_eq_some_iff.1 h
 exact hl
theorem Rp.Bk.below {u v : World} {g : Nat} {r : Rp.T} (h : Rp.Bk u g r) (b : Below u.heap.size u v) : Rp.Bk v g r := (b.block g h.lt).trans h
structure Bl.Fr (w wr : World) (gs gr : Nat) : Prop where
 bel : Below w.heap.size w wr
 lo : w.heap.size ≤ gs
 nxt : gr = gs + 1
 st : Bl.At wr gs Bl.zsv
 rp : Rp.Bk wr gr ⟨0,0,0⟩
theorem Bl.Fr.below {w wr v : World} {gs gr : Nat} (h : Bl.Fr w wr gs gr) (k : Below wr.heap.size wr v) : Bl.Fr w v gs gr := ⟨bchain h.bel k,h.lo,h.nxt,h.st.below k,h.rp.below k⟩
theorem Bl.Fr.set {w wr : World} {gs gr g : Nat} (h : Bl.Fr w wr gs gr) (hl : w.heap.size ≤ g) (hn : g ≠ gs ∧ g ≠ gr) (o : Nat) (x : Value) : Bl.Fr w (wr.setCell ⟨g,o,none⟩ x) gs gr := by
 refine ⟨bset h.bel hl _ _,h.lo,h.nxt,?_,?_⟩
 ·
  unfold Bl.At
  rw [heap_setCell_other wr ⟨g,o,none⟩ gs x (Ne.symm hn.1)]
  exact h.st
 ·
  unfold Rp.Bk
  rw [heap_setCell_other wr ⟨g,o,none⟩ gr x (Ne.symm hn.2)]
  exact h.rp
theorem Bl.fr3 (w : World) (h : Bl.Sv) : ∃ U,((w.alloc (.cells #[.slice h.tab.ao h.tab.n h.tab.cap,.slice h.ser.ao h.ser.n h.ser.cap,.slice h.post.ao h.post.n h.post.cap,.slice h.book.ao h.book.n h.book.cap,.slice h.sess.ao h.sess.n h.sess.cap,.int .i64 h.next] 40)).alloc (.cells #[.slice none 0 0,.slice none 0 0,.slice none 0 0,.slice none 0 0,.slice none 0 0,.int .i64 0] 40)).alloc (.cells #[.int .i64 0,.int .i64 0,.int .i64 0] 48) = U ∧ Bl.At U w.heap.size h ∧ Bl.Fr w U (w.heap.size + 1) (w.heap.size + 1 + 1) := by
 have b1 := Bl.below_own w h
 have b2 := Bl.below_own (Bl.box w h) Bl.zsv
 have b3 : Below (Bl.box (Bl.box w h) Bl.zsv).heap.size (Bl.box (Bl.box w h) Bl.zsv) ((Bl.box (Bl.box w h) Bl.zsv).alloc (.cells #[.int .i64 0,.int .i64 0,.int .i64 0] 48)) := (Below.refl _ _).alloc (Nat.le_refl _) _
 refine ⟨_,rfl,((Bl.at_box w h).below b2).below b3,⟨bchain (bchain b1 b2) b3,Nat.le_succ _,rfl,?_,?_⟩⟩
 ·
  have := (Bl.at_box (Bl.box w h) Bl.zsv).below b3
  rw [Bl.box_size] at this
  exact this
 ·
  have := heap_alloc_new (Bl.box (Bl.box w h) Bl.zsv) (.cells #[.int .i64 0,.int .i64 0,.int .i64 0] 48)
  rw [Bl.box_size,Bl.box_size] at this
  exact this
theorem Bl.fr4 (w : World) (h : Bl.Sv) (o : Obj) : ∃ U,(((w.alloc (.cells #[.slice h.tab.ao h.tab.n h.tab.cap,.slice h.ser.ao h.ser.n h.ser.cap,.slice h.post.ao h.post.n h.post.cap,.slice h.book.ao h.book.n h.book.cap,.slice h.sess.ao h.sess.n h.sess.cap,.int .i64 h.next] 40)).alloc o).alloc (.cells #[.slice none 0 0,.slice none 0 0,.slice none 0 0,.slice none 0 0,.slice none 0 0,.int .i64 0] 40)).alloc (.cells #[.int .i64 0,.int .i64 0,.int .i64 0] 48) = U ∧ Bl.At U w.heap.size h ∧ Bl.Fr w U (w.heap.size + 1 + 1) (w.heap.size + 1 + 1 + 1) ∧ U.heap[w.heap.size + 1]? = some o := by
 have b1 := Bl.below_own w h
 have s1 : (Bl.box w h).heap.size = w.heap.size + 1 := Bl.box_size w h
 have b2 : Below (Bl.box w h).heap.size (Bl.box w h) ((Bl.box w h).alloc o) := (Below.refl _ _).alloc (Nat.le_refl _) _
 have s2 : ((Bl.box w h).alloc o).heap.size = w.heap.size + 1 + 1 := by rw [← s1]; simp
 obtain ⟨W,hW⟩ : ∃ W,(Bl.box w h).alloc o = W := ⟨_,rfl⟩
 have hO : W.heap[w.heap.size + 1]? = some o := by rw [← hW,← s1]; exact heap_alloc_new _ _
 rw [hW] at b2 s2
 have b3 := Bl.below_own W Bl.zsv
 have s3 : (Bl.box W Bl.zsv).heap.size = W.heap.size + 1 := Bl.box_size _ _
 have b4 : Below (Bl.box W Bl.zsv).heap.size (Bl.box W Bl.zsv) ((Bl.box W Bl.zsv).alloc (.cells #[.int .i64 0,.int .i64 0,.int .i64 0] 48)) := (Below.refl _ _).alloc (Nat.le_refl _) _
 refine ⟨_,rfl,?_⟩
 change Bl.At ((Bl.box ((Bl.box w h).alloc o) Bl.zsv).alloc (.cells #[.int .i64 0,.int .i64 0,.int .i64 0] 48)) w.heap.size h ∧ Bl.Fr w ((Bl.box ((Bl.box w h).alloc o) Bl.zsv).alloc (.cells #[.int .i64 0,.int .i64 0,.int .i64 0] 48)) _ _ ∧ ((Bl.box ((Bl.box w h).alloc o) Bl.zsv).alloc (.cells #[.int .i64 0,.int .i64 0,.int .i64 0] 48)).heap[w.heap.size + 1]? = _
 rw [hW]
 refine ⟨(((Bl.at_box w h).below b2).below b3).below b4,⟨bchain (bchain (bchain b1 b2) b3) b4,by omega,rfl,?_,?_⟩,?_⟩
 ·
  have := (Bl.at_box W Bl.zsv).below b4
  rw [s2] at this
  exact this
 ·
  have := heap_alloc_new (Bl.box W Bl.zsv) (.cells #[.int .i64 0,.int .i64 0,.int .i64 0] 48)
  rw [s3,s2] at this
  exact this
 ·
  rw [b4.block _ (by omega),b3.block _ (by omega)]
  exact hO
theorem Bl.al1 (w : World) (o : Obj) : Below w.heap.size w (w.alloc o) ∧ (w.alloc o).heap[w.heap.size]? = some o ∧ (w.alloc o).heap.size = w.heap.size + 1 := ⟨(Below.refl _ _).alloc (Nat.le_refl _) _,heap_alloc_new w o,by simp⟩
theorem Bl.al2 (w : World) (o0 o1 : Obj) : ∃ U,(w.alloc o0).alloc o1 = U ∧ Below w.heap.size w U ∧ U.heap[w.heap.size]? = some o0 ∧ U.heap[w.heap.size + 1]? = some o1 ∧ U.heap.size = w.heap.size + 1 + 1 := by
 obtain ⟨b1,h1,s1⟩ := Bl.al1 w o0
 obtain ⟨b2,h2,s2⟩ := Bl.al1 (w.alloc o0) o1
 rw [s1] at h2 s2
 exact ⟨_,rfl,bchain b1 b2,(b2.block _ (by omega)).trans h1,h2,s2⟩
theorem Bl.al3 (w : World) (o0 o1 o2 : Obj) : ∃ U,((w.alloc o0).alloc o1).alloc o2 = U ∧ Below w.heap.size w U ∧ U.heap[w.heap.size]? = some o0 ∧ U.heap[w.heap.size + 1]? = some o1 ∧ U.heap[w.heap.size + 1 + 1]? = some o2 ∧ U.heap.size = w.heap.size + 1 + 1 + 1 := by
 obtain ⟨V,rfl,b1,h0,h1,s1⟩ := Bl.al2 w o0 o1
 obtain ⟨b2,h2,s2⟩ := Bl.al1 ((w.alloc o0).alloc o1) o2
 rw [s1] at h2 s2
 exact ⟨_,rfl,bchain b1 b2,(b2.block _ (by omega)).trans h0,(b2.block _ (by omega)).trans h1,h2,s2⟩
theorem Bl.al4 (w : World) (o0 o1 o2 o3 : Obj) : ∃ U,(((w.alloc o0).alloc o1).alloc o2).alloc o3 = U ∧ Below w.heap.size w U ∧ U.heap[w.heap.size]? = some o0 ∧ U.heap[w.heap.size + 1]? = some o1 ∧ U.heap[w.heap.size + 1 + 1]? = some o2 ∧ U.heap[w.heap.size + 1 + 1 + 1]? = some o3 ∧ U.heap.size = w.heap.size + 1 + 1 + 1 + 1 := by
 obtain ⟨V,rfl,b1,h0,h1,h2,s1⟩ := Bl.al3 w o0 o1 o2
 obtain ⟨b2,h3,s2⟩ := Bl.al1 (((w.alloc o0).alloc o1).alloc o2) o3
 rw [s1] at h3 s2
 exact ⟨_,rfl,bchain b1 b2,(b2.block _ (by omega)).trans h0,(b2.block _ (by omega)).trans h1,(b2.block _ (by omega)).trans h2,h3,s2⟩
def Rp.rw' (r : Rp.T) : List Value := [.int .i64 r.why,.int .i64 r.num,.int .i64 r.gross]
def Rp.lay (w : World) (g : Nat) (r : Rp.T) : World := w.setRow g (Rp.rw' r).toArray
theorem Rp.infoR : (Tryz.prog.info? 48).map (·.size) = some 3 := by kernel_rfl
theorem Rp.one_cellR (r : Rp.T) : ∀ v ∈ Rp.rw' r,v.oneCell' = true := by
 intro v hv
 unfold Rp.rw' at hv
 simp only [List.mem_cons,List.not_mem_nil,or_false] at hv
 rcases hv with rfl | rfl | rfl <;> rfl
theorem Rp.Bk.lay {w : World} {g : Nat} {r0 : Rp.T} (hA : Rp.Bk w g r0) (r : Rp.T) : Rp.Bk (Rp.lay w g r) g r := setRow_heap w g _ _ 48 _ hA
theorem Rp.below_lay {B g : Nat} {w0 w : World} (hb : Below B w0 w) (hg : B ≤ g) (r : Rp.T) : Below B w0 (Rp.lay w g r) := below_setRow hb hg _
theorem Rp.wpl_load {ops : Array Oper} {rest : List Oper} {op : Oper} {a : Act} {w : World} {Q : Exit → Act → World → Prop} {t : Tmp} {g : Nat} {r : Rp.T} (hA : Rp.Bk w g r) (ho : op.op = .load 48 (.tmp t)) (hgd : op.guard = none)
  (hx : a.tmps.toList[t]? = some (.pointer (some ⟨g,0,none⟩))) (k : wpList Tryz.prog ops Q rest (a.put op.dst (Rp.val r)) w) : wpList Tryz.prog ops Q (op :: rest) a w :=
 wpList_load_row hgd 48 (.tmp t) ho g (Ca.evT hx) 48 (Rp.rw' r).toArray (0,0) _ hA Tryz.underlying48 rfl (by rw [Rp.infoR]; rfl) k
theorem Rp.wpl_put {ops : Array Oper} {rest : List Oper} {op : Oper} {a : Act} {w : World} {Q : Exit → Act → World → Prop} {t s : Tmp} {g : Nat} {r0 r : Rp.T} (hA : Rp.Bk w g r0) (ho : op.op = .store 48 (.tmp t) (.tmp s)) (hgd : op.guard = none)
  (hx : a.tmps.toList[t]? = some (.pointer (some ⟨g,0,none⟩))) (hy : a.tmps.toList[s]? = some (Rp.val r))
  (k : wpList Tryz.prog ops Q rest (a.put op.dst undef) (Rp.lay w g r)) : wpList Tryz.prog ops Q (op :: rest) a w :=
 wpList_store_row hgd 48 (.tmp t) (.tmp s) ho g (Rp.rw' r).toArray (Ca.evT hx) (Ca.evT hy) 48 (Rp.rw' r0).toArray hA (by rw [Rp.infoR]; rfl) rfl (all_oneCell_toArray (Rp.one_cellR r)) k
theorem Rp.wpl_new {ops : Array Oper} {rest : List Oper} {op : Oper} {a : Act} {w : World} {Q : Exit → Act → World → Prop} {t s : Tmp} {old : Array Value} {g : Nat} {r : Rp.T} (ho : op.op = .store 48 (.tmp t) (.tmp s)) (hgd : op.guard = none)
  (hx : a.tmps.toList[t]? = some (.pointer (some ⟨g,0,none⟩))) (hg : g = w.heap.size) (hy : a.tmps.toList[s]? = some (Rp.val r)) (hold : old.size = 3)
  (k : wpList Tryz.prog ops Q rest (a.put op.dst undef) (w.alloc (.cells (Rp.rw' r).toArray 48))) : wpList Tryz.prog ops Q (op :: rest) a (w.alloc (.cells old 48)) := by
 subst hg
 refine wpList_store_row hgd 48 (.tmp t) (.tmp s) ho w.heap.size (Rp.rw' r).toArray (Ca.evT hx) (Ca.evT hy) 48 old (heap_alloc_new w _) (by rw [Rp.infoR]; rfl) (by rw [hold]; rfl) (all_oneCell_toArray (Rp.one_cellR r)) ?_
 rw [Ca.set_rowW]
 exact k
theorem Bl.results2 {fn : Func} {p q : Tmp} (hf : fn.results = #[.cell p 40,.cell q 48]) {tmps : Array Value} {w : World} {gS gR : Nat} {h : Bl.Sv} {r : Rp.T} (hp : tmps.getD p undef = .pointer (some ⟨gS,0,none⟩)) (hq : tmps.getD q undef = .pointer (some ⟨gR,0,none⟩))
  (hS : Bl.At w gS h) (hR : Rp.Bk w gR r) : (results fn tmps).run Tryz.prog w = .ok (.tuple #[h.val,Rp.val r]) w := by
 have hp' : tmps[p]?.getD undef = .pointer (some ⟨gS,0,none⟩) := by simpa using hp
 have hq' : tmps[q]?.getD undef = .pointer (some ⟨gR,0,none⟩) := by simpa using hq
 have e1 := run_loadVar_row (P := Tryz.prog) w gS 40 40 (Bl.rv h).toArray (0,0) _ hS Tryz.underlying40 rfl (by rw [Bl.info]; rfl)
 have e2 := run_loadVar_row (P := Tryz.prog) w gR 48 48 (Rp.rw' r).toArray (0,0) _ hR Tryz.underlying48 rfl (by rw [Rp.infoR]; rfl)
 simp [results,hf,hp',hq',asAddr,e1,e2]
 exact ⟨rfl,rfl⟩
theorem Bl.results1 {fn : Func} {p : Tmp} (hf : fn.results = #[.cell p 40]) {tmps : Array Value} {w : World} {gS : Nat} {h : Bl.Sv} (hp : tmps.getD p undef = .pointer (some ⟨gS,0,none⟩)) (hS : Bl.At w gS h) : (results fn tmps).run Tryz.prog w = .ok h.val w :=
 results_cell_row hf tmps w gS 40 (Bl.rv h).toArray (0,0) _ hp hS Tryz.underlying40 rfl (by rw [Bl.info]; rfl)
theorem Rp.results1 {fn : Func} {p : Tmp} (hf : fn.results = #[.cell p 48]) {tmps : Array Value} {w : World} {g : Nat} {r : Rp.T} (hp : tmps.getD p undef = .pointer (some ⟨g,0,none⟩)) (hS : Rp.Bk w g r) : (results fn tmps).run Tryz.prog w = .ok (Rp.val r) w :=
 results_cell_row hf tmps w g 48 (Rp.rw' r).toArray (0,0) _ hp hS Tryz.underlying48 rfl (by rw [Rp.infoR]; rfl)
theorem Bl.At.away {u : World} {g : Nat} {h : Bl.Sv} (a : Bl.At u g h) {b : Nat} (hne : g ≠ b) (o : Nat) (x : Value) : Bl.At (u.setCell ⟨b,o,none⟩ x) g h := by
 unfold Bl.At
 rw [heap_setCell_other u ⟨b,o,none⟩ g x hne]
 exact a
theorem Rp.Bk.away {u : World} {g : Nat} {r : Rp.T} (a : Rp.Bk u g r) {b : Nat} (hne : g ≠ b) (o : Nat) (x : Value) : Rp.Bk (u.setCell ⟨b,o,none⟩ x) g r := by
 unfold Rp.Bk
 rw [heap_setCell_other u ⟨b,o,none⟩ g x hne]
 exact a
theorem Bl.At.other {w : World} {g b : Nat} {h : Bl.Sv} (hA : Bl.At w g h) (hne : g ≠ b) (vs : Array Value) : Bl.At (w.setRow b vs) g h := (setRow_other w b g vs hne).trans hA
theorem Rp.Bk.other {w : World} {g b : Nat} {r : Rp.T} (hA : Rp.Bk w g r) (hne : g ≠ b) (vs : Array Value) : Rp.Bk (w.setRow b vs) g r := (setRow_other w b g vs hne).trans hA
theorem Bl.Fr.rpS {w wr : World} {gS gR : Nat} (f : Bl.Fr w wr gS gR) (h : Bl.Sv) : Rp.Bk (Bl.lay wr gS h) gR ⟨0,0,0⟩ := f.rp.other (by have := f.nxt; omega) _
def Bl.out2 (w : World) (gS gR : Nat) (h : Bl.Sv) (r : Rp.T) : World := Rp.lay (Bl.lay w gS h) gR r
theorem Bl.kp_out2 {A gS gR : Nat} (w : World) (h1 : gS < A) (h2 : gR < A) (h : Bl.Sv) (r : Rp.T) : Kp A w (Bl.out2 w gS gR h r) := by
 refine (Bl.kp_lay w h1 h).trans ⟨fun b o ha hb => ?_,by simp [Bl.out2,Rp.lay,World.setRow]⟩
 have e : (Rp.lay (Bl.lay w gS h) gR r).heap[b]? = (Bl.lay w gS h).heap[b]? := setRow_other _ gR b _ (by omega)
 unfold Bl.out2 World.cell?
 simp only [e]
theorem Bl.Fr.out2 {w wr : World} {gS gR : Nat} (f : Bl.Fr w wr gS gR) (h : Bl.Sv) (r : Rp.T) : Below w.heap.size w (Bl.out2 wr gS gR h r) ∧ Bl.At (Bl.out2 wr gS gR h r) gS h ∧ Rp.Bk (Bl.out2 wr gS gR h r) gR r := by
 have hl := f.lo
 have hn := f.nxt
 exact ⟨Rp.below_lay (Bl.below_lay f.bel hl h) (by omega) r,(f.st.lay h).other (by omega) _,(f.rp.other (by omega) _).lay r⟩
theorem Bl.Fr.ret {w wr : World} {gS gR : Nat} (f : Bl.Fr w wr gS gR) {fn : Func} {p q : Tmp} (hf : fn.results = #[.cell p 40,.cell q 48]) {a : Act} {R : Ending → World → Prop} (h : Bl.Sv) (r : Rp.T)
  (hp : a.tmps.getD p undef = .pointer (some ⟨gS,0,none⟩)) (hq : a.tmps.getD q undef = .pointer (some ⟨gR,0,none⟩)) (hd : a.defers = []) (k : Below w.heap.size w (Bl.out2 wr gS gR h r) → R (.returned (.tuple #[h.val,Rp.val r])) (Bl.out2 wr gS gR h r)) :
  bodyPost Tryz.prog fn R .ret a (Bl.out2 wr gS gR h r) := by
 obtain ⟨h1,h2,h3⟩ := f.out2 h r
 exact bodyPost_ret (Bl.results2 hf hp hq h2 h3) hd (k h1)
theorem nw_nw {P : Nat → Prop} {u w : World} (h : u.heap.size ≤ w.heap.size) (b : Nat) (k : nw (nw P u) w b) : nw P u b := k.elim id fun q => .inr (Nat.le_trans h q)
theorem Bl.Lp.out2 {P : Nat → Prop} {w u v : World} {gS gR : Nat} {h h' : Bl.Sv} {s' : Bl.St} {r : Rp.T} (l : Bl.Lp (nw P u) v h' s') (hP : ∀ b,P b → b < w.heap.size) (h1 : w.heap.size ≤ gS) (h2 : gS < u.heap.size) (h3 : w.heap.size ≤ gR) (h4 : gR < u.heap.size) : Bl.Lp (nw P w) (Bl.out2 v gS gR h r) h' s' := by
 have n1 : ¬ nw P u gS := fun q => q.elim (fun z => by have := hP _ z; omega) (fun z => by omega)
 have n2 : ¬ nw P u gR := fun q => q.elim (fun z => by have := hP _ z; omega) (fun z => by omega)
 have hk : KpP (nw P u) v (Bl.out2 v gS gR h r) := (KpP.row v n1 _).trans (KpP.row _ n2 _)
 exact (l.kp hk).mono fun b q => q.elim .inl fun z => .inr (by omega)
section
variable {ops : Array Oper} {o : Oper} {a : Act} {w : World} {K : Act → World → Prop} {Q : Exit → Act → World → Prop} {E : Prop} {S : World → Prop}
theorem Bl.y_move {t : Tmp} {v : Value} (hgd : o.guard = none) (ho : o.op = .move (.tmp t)) (hp : a.tmps.toList[t]? = some v) : YieldsIf Tryz.prog ops S o v a := by
 refine .inl ⟨by simp [Region.wanted,hgd],fun u _ => ?_⟩
 simp only [execOp,ho,Ca.evT hp]
 simp [go_sem]
theorem Bl.y_load {t : Tmp} {g : Nat} {h : Bl.Sv} (hgd : o.guard = none) (ho : o.op = .load 40 (.tmp t)) (hp : a.tmps.toList[t]? = some (.pointer (some ⟨g,0,none⟩))) (hS : ∀ u,S u → Bl.At u g h) : YieldsIf Tryz.prog ops S o h.val a := by
 refine .inl ⟨by simp [Region.wanted,hgd],fun u hu => ?_⟩
 have e := Bl.run_load (hS u hu)
 simp only [execOp,ho,Ca.evT hp,Sem.run_bind,e,Result.andThen_ok]
 rfl
theorem Rp.y_load {t : Tmp} {g : Nat} {r : Rp.T} (hgd : o.guard = none) (ho : o.op = .load 48 (.tmp t)) (hp : a.tmps.toList[t]? = some (.pointer (some ⟨g,0,none⟩))) (hS : ∀ u,S u → Rp.Bk u g r) : YieldsIf Tryz.prog ops S o (Rp.val r) a := by
 refine .inl ⟨by simp [Region.wanted,hgd],fun u hu => ?_⟩
 have e := run_loadVar_row (P := Tryz.prog) u g 48 48 (Rp.rw' r).toArray (0,0) _ (hS u hu) Tryz.underlying48 rfl (by rw [Rp.infoR]; rfl)
 simp only [execOp,ho,Ca.evT hp,Instr.loadAt,Instr.sureAddr,Sem.run_bind,Sem.run_pure,Result.andThen_ok,e]
 rfl
theorem Bl.step_put {x y : Tmp} {g : Nat} {h0 h : Bl.Sv} (hgd : o.guard = none) (ho : o.op = .store 40 (.tmp x) (.tmp y)) (hd : o.dst = none) (hx : a.tmps.toList[x]? = some (.pointer (some ⟨g,0,none⟩))) (hy : a.tmps.toList[y]? = some h.val) (hA : Bl.At w g h0)
  (k : K a (Bl.lay w g h)) : if Region.wanted o (yielded ops a.tmps) = true then Oper.wp Tryz.prog o a w K Q else E := by
 have hw : Region.wanted o (yielded ops a.tmps) = true := by simp [Region.wanted,hgd]
 rw [if_pos hw]
 refine wp_store_row 40 (.tmp x) (.tmp y) ho g (Bl.rv h).toArray (Ca.evT hx) (Ca.evT hy) 40 (Bl.rv h0).toArray hA (by rw [Bl.info]; rfl) rfl (all_oneCell_toArray (Bl.one_cellS h)) ?_
 rw [hd]
 exact k
theorem Rp.step_put {x y : Tmp} {g : Nat} {r0 r : Rp.T} (hgd : o.guard = none) (ho : o.op = .store 48 (.tmp x) (.tmp y)) (hd : o.dst = none) (hx : a.tmps.toList[x]? = some (.pointer (some ⟨g,0,none⟩))) (hy : a.tmps.toList[y]? = some (Rp.val r)) (hA : Rp.Bk w g r0)
  (k : K a (Rp.lay w g r)) : if Region.wanted o (yielded ops a.tmps) = true then Oper.wp Tryz.prog o a w K Q else E := by
 have hw : Region.wanted o (yielded ops a.tmps) = true := by simp [Region.wanted,hgd]
 rw [if_pos hw]
 refine wp_store_row 48 (.tmp x) (.tmp y) ho g (Rp.rw' r).toArray (Ca.evT hx) (Ca.evT hy) 48 (Rp.rw' r0).toArray hA (by rw [Rp.infoR]; rfl) rfl (all_oneCell_toArray (Rp.one_cellR r)) ?_
 rw [hd]
 exact k
theorem Bl.step_call {f : FuncId} {args : Array Value} (hgd : o.guard = none) (hrun : (execOp a.eval o).run Tryz.prog w = .ok (.enter f args) w) (k : Calls Tryz.prog f args w fun e w' => ∃ v,e = .returned v ∧ K (a.put o.dst v) w') :
  if Region.wanted o (yielded ops a.tmps) = true then Oper.wp Tryz.prog o a w K Q else E := by
 have hw : Region.wanted o (yielded ops a.tmps) = true := by simp [Region.wanted,hgd]
 rw [if_pos hw]
 unfold Oper.wp
 rw [hrun,Oper.upon_enter]
 refine k.mono fun e w' hh => ?_
 obtain ⟨v,rfl,hk⟩ := hh
 exact hk
end
theorem Bl.enters {f : FuncId} {fn : Func} {c : Code} {o : Oper} {a : Act} {xs : Array Operand} {ty : Array TypeId} {vs : Array Value} (ho : o.op = .call { callee := .value (.func f), args := xs, argTypes := ty }) (hx : xs.map a.eval = vs) (hf : Tryz.prog.funcs[f]? = some fn) (hname : (fn.name == "runtime.NumGoroutine") = false) (hb : fn.body = some c) (u : World) :
  (execOp a.eval o).run Tryz.prog u = .ok (.enter f vs) u := by
 have h1 : fn.name ≠ "runtime.NumGoroutine" := by simpa using hname
 simp only [execOp,ho]
 simp [resolve,invoke,callFunc,hf,h1,hb,hx,go_sem]
def Bl.tk (ops : Array Oper) (l : List Bool) (i : Nat) : Bool := Region.free .any ops l.toArray i && (Region.ready .any ops l.toArray).contains i
theorem Bl.take_if {ops : Array Oper} {Q : Exit → Act → World → Prop} {S : World → Prop} {i : Nat} {oi : Oper} {v : Value} {fuel : Nat} {l : List Bool} {a : Act} {w : World} (hi : ops[i]? = some oi) (hs : Region.noSelect ops = true) (ht : Bl.tk ops l i = true)
  (hQ : ∀ c a w,Q (.panic c) (Act.put a oi.dst v) w → Q (.panic c) a w) (hy : YieldsIf Tryz.prog ops S oi v a) (hS : S w)
  (h : wpAnyH Tryz.prog .any ops Q S fuel (l.set i true).toArray (a.put oi.dst v) w) : wpAnyH Tryz.prog .any ops Q S (fuel + 1) l.toArray a w := by
 unfold Bl.tk at ht
 rw [Bool.and_eq_true] at ht
 refine wpAnyH_take hi hs ht.1 ht.2 hQ hy hS ?_
 simpa using h
theorem Bl.one_if {ops : Array Oper} {Q : Exit → Act → World → Prop} {S : World → Prop} {i : Nat} {oi : Oper} {fuel : Nat} {l : List Bool} {a : Act} {w : World} (hi : ops[i]? = some oi) (hr : Region.ready .any ops l.toArray = [i])
  (h : ∀ K' : Act → World → Prop,Shut (∀ a w,S w → (S w → wpAnyH Tryz.prog .any ops Q S fuel (l.set i true).toArray a w) → K' a w) → if Region.wanted oi (yielded ops a.tmps) = true then Oper.wp Tryz.prog oi a w K' Q else K' (a.put oi.dst undef) w) :
  wpAnyH Tryz.prog .any ops Q S (fuel + 1) l.toArray a w := by
 refine wpAnyH_ready (rs := [i]) hr (by simp) (AllReadyH.cons hi (fun K' hK => h K' ?_) AllReadyH.nil)
 intro a w hS hW
 exact hK.out a w hS fun hS => by simpa using hW hS
section
variable {id : Nat} {o0 o1 o2 o3 o4 : Oper} {a : Act} {w : World} {Q : Exit → Act → World → Prop}
def Bl.chk5 (ops : Array Oper) : Bool := Region.noSelect ops && Bl.tk ops [false,false,false,false,false] 0 && Bl.tk ops [true,false,false,false,false] 1 && (Region.ready .any ops #[true,true,false,false,false] == [2]) && (Region.ready .any ops #[true,true,true,false,false] == [3]) && (Region.ready .any ops #[true,true,true,true,false] == [4]) && (Region.ready .any ops #[true,true,true,true,true] == [])
theorem Bl.wp_refuse (g gS gR : Nat) (h h0 : Bl.Sv) (r0 : Rp.T) (n : Int) {x0 x1 x3 x4 y3 y4 : Tmp} (hA : Bl.At w g h) (hS : Bl.At w gS h0) (hR : Rp.Bk w gR r0) (hn : gS ≠ gR ∧ g ≠ gS ∧ g ≠ gR)
  (ho0 : o0.op = .load 40 (.tmp x0)) (hg0 : o0.guard = none) (ho1 : o1.op = .move (.tmp x1)) (hg1 : o1.guard = none) {x2 : Operand} {ty : Array TypeId} (ho2 : o2.op = .call { callee := .value (.func 20),args := #[x2],argTypes := ty }) (hg2 : o2.guard = none)
  (ho3 : o3.op = .store 40 (.tmp x3) (.tmp y3)) (hg3 : o3.guard = none) (hd3 : o3.dst = none) (ho4 : o4.op = .store 48 (.tmp x4) (.tmp y4)) (hg4 : o4.guard = none) (hd4 : o4.dst = none)
  (hc : Bl.chk5 #[o0,o1,o2,o3,o4] = true) (hQ0 : ∀ c a w,Q (.panic c) (Act.put a o0.dst h.val) w → Q (.panic c) a w) (hQ1 : ∀ c a w,Q (.panic c) (Act.put a o1.dst (.int .i64 n)) w → Q (.panic c) a w)
  (e0 : a.tmps.toList[x0]? = some (.pointer (some ⟨g,0,none⟩))) (e1 : (a.put o0.dst h.val).tmps.toList[x1]? = some (.int .i64 n))
  (e2 : ((a.put o0.dst h.val).put o1.dst (.int .i64 n)).eval x2 = .int .i64 n)
  (e3 : (((a.put o0.dst h.val).put o1.dst (.int .i64 n)).put o2.dst (Rp.val ⟨n,0,0⟩)).tmps.toList[x3]? = some (.pointer (some ⟨gS,0,none⟩)))
  (f3 : (((a.put o0.dst h.val).put o1.dst (.int .i64 n)).put o2.dst (Rp.val ⟨n,0,0⟩)).tmps.toList[y3]? = some h.val)
  (e4 : (((a.put o0.dst h.val).put o1.dst (.int .i64 n)).put o2.dst (Rp.val ⟨n,0,0⟩)).tmps.toList[x4]? = some (.pointer (some ⟨gR,0,none⟩)))
  (f4 : (((a.put o0.dst h.val).put o1.dst (.int .i64 n)).put o2.dst (Rp.val ⟨n,0,0⟩)).tmps.toList[y4]? = some (Rp.val ⟨n,0,0⟩))
  (k : ∀ w',Below w.heap.size w w' → Q .normal (((a.put o0.dst h.val).put o1.dst (.int .i64 n)).put o2.dst (Rp.val ⟨n,0,0⟩)) (Bl.out2 w' gS gR h ⟨n,0,0⟩)) :
  (Code.region id #[o0,o1,o2,o3,o4] true).wp Tryz.prog Q a w := by
 unfold Bl.chk5 at hc
 simp only [Bool.and_eq_true,beq_iff_eq] at hc
 obtain ⟨⟨⟨⟨⟨⟨c0,c1⟩,c2⟩,c3⟩,c4⟩,c5⟩,c6⟩ := hc
 refine wp_region_held_drew (S := fun u => Bl.At u g h) (by kernel_rfl) hA (fun hH => ?_)
 show wpAnyH Tryz.prog .any #[o0,o1,o2,o3,o4] Q _ 5 [false,false,false,false,false].toArray a w.drew
 refine Bl.take_if (i := 0) (oi := o0) rfl c0 c1 hQ0 (Bl.y_load hg0 ho0 e0 fun u hu => hu) hH ?_
 refine Bl.take_if (i := 1) (oi := o1) rfl c0 c2 hQ1 (Bl.y_move hg1 ho1 e1) hH ?_
 refine Bl.one_if (i := 2) (oi := o2) rfl c3 (fun K hK => ?_)
 refine Bl.step_call hg2 (Bl.enters ho2 (by simp [e2]) Tryz.func20 (by kernel_rfl) rfl _) ((bil_refusal n w w.drew (Below.refl _ _).drew).mono ?_)
 rintro e w' ⟨rfl,b⟩
 refine ⟨_,rfl,hK.out _ _ (hA.below b) fun hH' => ?_⟩
 clear hK K
 refine Bl.one_if (i := 3) (oi := o3) rfl c4 (fun K hK => ?_)
 refine Bl.step_put hg3 ho3 hd3 e3 f3 (hS.below b) (hK.out _ _ (hH'.other hn.2.1 _) fun hH2 => ?_)
 clear hK K
 refine Bl.one_if (i := 4) (oi := o4) rfl c5 (fun K hK => ?_)
 refine Rp.step_put hg4 ho4 hd4 e4 f4 ((hR.below b).other (Ne.symm hn.1) _) (hK.out _ _ (hH2.other hn.2.2 _) fun hH3 => ?_)
 clear hK K
 exact wpAnyH_done c6 (k w' b) _
def Bl.chk4 (ops : Array Oper) : Bool := Region.noSelect ops && Bl.tk ops [false,false,false,false] 0 && (Region.ready .any ops #[true,false,false,false] == [1]) && (Region.ready .any ops #[true,true,false,false] == [2]) && (Region.ready .any ops #[true,true,true,false] == [3]) && (Region.ready .any ops #[true,true,true,true] == [])
theorem Bl.wp_refuseC (g gS gR : Nat) (h h0 : Bl.Sv) (r0 : Rp.T) (n : Int) {x0 x3 x4 y3 y4 : Tmp} (hA : Bl.At w g h) (hS : Bl.At w gS h0) (hR : Rp.Bk w gR r0) (hn : gS ≠ gR ∧ g ≠ gS ∧ g ≠ gR)
  (ho0 : o0.op = .load 40 (.tmp x0)) (hg0 : o0.guard = none) {x2 : Operand} {ty : Array TypeId} (ho2 : o2.op = .call { callee := .value (.func 20),args := #[x2],argTypes := ty }) (hg2 : o2.guard = none)
  (ho3 : o3.op = .store 40 (.tmp x3) (.tmp y3)) (hg3 : o3.guard = none) (hd3 : o3.dst = none) (ho4 : o4.op = .store 48 (.tmp x4) (.tmp y4)) (hg4 : o4.guard = none) (hd4 : o4.dst = none)
  (hc : Bl.chk4 #[o0,o2,o3,o4] = true) (hQ0 : ∀ c a w,Q (.panic c) (Act.put a o0.dst h.val) w → Q (.panic c) a w)
  (e0 : a.tmps.toList[x0]? = some (.pointer (some ⟨g,0,none⟩)))
  (e2 : (a.put o0.dst h.val).eval x2 = .int .i64 n)
  (e3 : ((a.put o0.dst h.val).put o2.dst (Rp.val ⟨n,0,0⟩)).tmps.toList[x3]? = some (.pointer (some ⟨gS,0,none⟩)))
  (f3 : ((a.put o0.dst h.val).put o2.dst (Rp.val ⟨n,0,0⟩)).tmps.toList[y3]? = some h.val)
  (e4 : ((a.put o0.dst h.val).put o2.dst (Rp.val ⟨n,0,0⟩)).tmps.toList[x4]? = some (.pointer (some ⟨gR,0,none⟩)))
  (f4 : ((a.put o0.dst h.val).put o2.dst (Rp.val ⟨n,0,0⟩)).tmps.toList[y4]? = some (Rp.val ⟨n,0,0⟩))
  (k : ∀ w',Below w.heap.size w w' → Q .normal ((a.put o0.dst h.val).put o2.dst (Rp.val ⟨n,0,0⟩)) (Bl.out2 w' gS gR h ⟨n,0,0⟩)) :
  (Code.region id #[o0,o2,o3,o4] true).wp Tryz.prog Q a w := by
 unfold Bl.chk4 at hc
 simp only [Bool.and_eq_true,beq_iff_eq] at hc
 obtain ⟨⟨⟨⟨⟨c0,c1⟩,c3⟩,c4⟩,c5⟩,c6⟩ := hc
 refine wp_region_held_drew (S := fun u => Bl.At u g h) (by kernel_rfl) hA (fun hH => ?_)
 show wpAnyH Tryz.prog .any #[o0,o2,o3,o4] Q _ 4 [false,false,false,false].toArray a w.drew
 refine Bl.take_if (i := 0) (oi := o0) rfl c0 c1 hQ0 (Bl.y_load hg0 ho0 e0 fun u hu => hu) hH ?_
 refine Bl.one_if (i := 1) (oi := o2) rfl c3 (fun K hK => ?_)
 refine Bl.step_call hg2 (Bl.enters ho2 (by simp [e2]) Tryz.func20 (by kernel_rfl) rfl _) ((bil_refusal n w w.drew (Below.refl _ _).drew).mono ?_)
 rintro e w' ⟨rfl,b⟩
 refine ⟨_,rfl,hK.out _ _ (hA.below b) fun hH' => ?_⟩
 clear hK K
 refine Bl.one_if (i := 2) (oi := o3) rfl c4 (fun K hK => ?_)
 refine Bl.step_put hg3 ho3 hd3 e3 f3 (hS.below b) (hK.out _ _ (hH'.other hn.2.1 _) fun hH2 => ?_)
 clear hK K
 refine Bl.one_if (i := 3) (oi := o4) rfl c5 (fun K hK => ?_)
 refine Rp.step_put hg4 ho4 hd4 e4 f4 ((hR.below b).other (Ne.symm hn.1) _) (hK.out _ _ (hH2.other hn.2.2 _) fun hH3 => ?_)
 clear hK K
 exact wpAnyH_done c6 (k w' b) _
def Bl.chkP (ops : Array Oper) : Bool := Region.noSelect ops && Bl.tk ops [false,false,false,false] 0 && Bl.tk ops [true,false,false,false] 1 && (Region.ready .any ops #[true,true,false,false] == [2]) && (Region.ready .any ops #[true,true,true,false] == [3]) && (Region.ready .any ops #[true,true,true,true] == [])
theorem Bl.wp_pair (g gr gS gR : Nat) (h h0 : Bl.Sv) (r r0 : Rp.T) {x0 x1 x3 x4 y3 y4 : Tmp} (hA : Bl.At w g h) (hB : Rp.Bk w gr r) (hS : Bl.At w gS h0) (hR : Rp.Bk w gR r0) (hn : gS ≠ gR ∧ g ≠ gS ∧ g ≠ gR ∧ gr ≠ gS ∧ gr ≠ gR)
  (ho0 : o0.op = .load 40 (.tmp x0)) (hg0 : o0.guard = none) (ho1 : o1.op = .load 48 (.tmp x1)) (hg1 : o1.guard = none)
  (ho3 : o3.op = .store 40 (.tmp x3) (.tmp y3)) (hg3 : o3.guard = none) (hd3 : o3.dst = none) (ho4 : o4.op = .store 48 (.tmp x4) (.tmp y4)) (hg4 : o4.guard = none) (hd4 : o4.dst = none)
  (hc : Bl.chkP #[o0,o1,o3,o4] = true) (hQ0 : ∀ c a w,Q (.panic c) (Act.put a o0.dst h.val) w → Q (.panic c) a w) (hQ1 : ∀ c a w,Q (.panic c) (Act.put a o1.dst (Rp.val r)) w → Q (.panic c) a w)
  (e0 : a.tmps.toList[x0]? = some (.pointer (some ⟨g,0,none⟩))) (e1 : (a.put o0.dst h.val).tmps.toList[x1]? = some (.pointer (some ⟨gr,0,none⟩)))
  (e3 : ((a.put o0.dst h.val).put o1.dst (Rp.val r)).tmps.toList[x3]? = some (.pointer (some ⟨gS,0,none⟩)))
  (f3 : ((a.put o0.dst h.val).put o1.dst (Rp.val r)).tmps.toList[y3]? = some h.val)
  (e4 : ((a.put o0.dst h.val).put o1.dst (Rp.val r)).tmps.toList[x4]? = some (.pointer (some ⟨gR,0,none⟩)))
  (f4 : ((a.put o0.dst h.val).put o1.dst (Rp.val r)).tmps.toList[y4]? = some (Rp.val r))
  (k : Q .normal ((a.put o0.dst h.val).put o1.dst (Rp.val r)) (Bl.out2 w.drew gS gR h r)) :
  (Code.region id #[o0,o1,o3,o4] true).wp Tryz.prog Q a w := by
 unfold Bl.chkP at hc
 simp only [Bool.and_eq_true,beq_iff_eq] at hc
 obtain ⟨⟨⟨⟨⟨c0,c1⟩,c2⟩,c4⟩,c5⟩,c6⟩ := hc
 refine wp_region_held_drew (S := fun u => Bl.At u g h ∧ Rp.Bk u gr r) (by kernel_rfl) ⟨hA,hB⟩ (fun hH => ?_)
 show wpAnyH Tryz.prog .any #[o0,o1,o3,o4] Q _ 4 [false,false,false,false].toArray a w.drew
 refine Bl.take_if (i := 0) (oi := o0) rfl c0 c1 hQ0 (Bl.y_load hg0 ho0 e0 fun u hu => hu.1) hH ?_
 refine Bl.take_if (i := 1) (oi := o1) rfl c0 c2 hQ1 (Rp.y_load hg1 ho1 e1 fun u hu => hu.2) hH ?_
 refine Bl.one_if (i := 2) (oi := o3) rfl c4 (fun K hK => ?_)
 refine Bl.step_put hg3 ho3 hd3 e3 f3 hS (hK.out _ _ ⟨hH.1.other hn.2.1 _,hH.2.other hn.2.2.2.1 _⟩ fun hH2 => ?_)
 clear hK K
 refine Bl.one_if (i := 3) (oi := o4) rfl c5 (fun K hK => ?_)
 refine Rp.step_put hg4 ho4 hd4 e4 f4 (Rp.Bk.other (w := w.drew) hR (Ne.symm hn.1) _) (hK.out _ _ ⟨hH2.1.other hn.2.2.1 _,hH2.2.other hn.2.2.2.2 _⟩ fun hH3 => ?_)
 clear hK K
 exact wpAnyH_done c6 k _
end
end Go.Proofs.YtjpfpojbalepeabGreat
namespace Go.Proofs.YtjpfpojbalepeabGreat
open Go.RowKit
section
variable {P : Program} {ops : Array Oper} {Q : Exit → Act → World → Prop} {md : Region.Mode} {S : World → Prop} {x : Nat}
def anyG (P : Program) (md : Region.Mode) (ops : Array Oper) (Q : Exit → Act → World → Prop) (S : World → Prop) (x : Nat) : Nat → Array Bool → Act → World → Prop
 | 0,listed,a,w => Region.ready md ops listed = [] ∧ Q .normal a w
 | n + 1,listed,a,w => (Region.ready md ops listed = [] → Q .normal a w) ∧
  ∀ i ∈ Region.ready md ops listed,wpOp P ops Q i (fun a' w' => (x ≤ i ∨ S w') ∧ anyG P md ops Q S x n (listed.setIfInBounds i true) a' w') a w
theorem any_of_g : ∀ (n : Nat) (listed : Array Bool) (a : Act) (w : World),anyG P md ops Q S x n listed a w → wpAny P md ops Q n listed a w
 | 0,_,_,_,h => h
 | n + 1,_,_,_,h => ⟨h.1,fun i hi => wpOp_mono (fun a' w' k => any_of_g n _ a' w' k.2) (h.2 i hi)⟩
def waitsG (md : Region.Mode) (ops : Array Oper) (x i : Nat) (D : List Nat) : Bool := (D.all fun k => waits md ops k i || D.any fun m => waits md ops k m) && ((List.range ops.size).all fun j => decide (j < x) || D.contains j)
def openG (listed : Array Bool) (D : List Nat) : Bool := D.all fun k => listed.getD k true == false
theorem not_ready_of {i j : Nat} {listed : Array Bool} (hw : waits md ops j i = true) (hu : listed.getD i true = false) : j ∉ Region.ready md ops listed := by
 intro hx
 obtain ⟨_,ox,hox,hall⟩ := mem_ready.1 hx
 unfold waits at hw
 rw [hox] at hw
 simp only [Array.any_eq_true] at hw
 obtain ⟨k,hk,hb⟩ := hw
 rw [Bool.and_eq_true,beq_iff_eq] at hb
 have h1 := hall _ (Array.getElem_mem hk) hb.1
 rw [hb.2] at h1
 rcases Nat.lt_or_ge i listed.size with h' | h'
 ·
  simp [h'] at hu h1
  rw [hu] at h1
  cases h1
 · simp [Array.getElem?_eq_none h'] at h1
theorem not_readyG {i j : Nat} {listed : Array Bool} {D : List Nat} (hw : waitsG md ops x i D = true) (ho : openG listed D = true) (hr : i ∈ Region.ready md ops listed) (hj : j ∈ Region.ready md ops listed) : j ∉ D ∧ ¬ x ≤ j := by
 unfold waitsG at hw
 rw [Bool.and_eq_true] at hw
 have hD : j ∉ D := by
  intro hd
  have h1 := List.all_eq_true.1 hw.1 j hd
  rw [Bool.or_eq_true] at h1
  rcases h1 with h1 | h1
  · exact not_ready_of h1 (mem_ready.1 hr).1 hj
  ·
   obtain ⟨m,hm,h2⟩ := List.any_eq_true.1 h1
   unfold openG at ho
   have h3 := List.all_eq_true.1 ho m hm
   exact not_ready_of h2 (beq_iff_eq.1 h3) hj
 refine ⟨hD,fun hx => ?_⟩
 obtain ⟨_,oj,hoj,_⟩ := mem_ready.1 hj
 obtain ⟨hlt,_⟩ := Array.getElem?_eq_some_iff.1 hoj
 have h1 := List.all_eq_true.1 hw.2 j (List.mem_range.2 hlt)
 rw [Bool.or_eq_true,decide_eq_true_iff] at h1
 rcases h1 with h1 | h1
 · omega
 · exact hD (by simpa using h1)
theorem openG_set {listed : Array Bool} {D : List Nat} {j : Nat} (h : openG listed D = true) (hj : j ∉ D) : openG (listed.setIfInBounds j true) D = true := by
 unfold openG at h ⊢
 refine List.all_eq_true.2 fun k hk => ?_
 have h1 := List.all_eq_true.1 h k hk
 have hne : j ≠ k := fun e => hj (e ▸ hk)
 rw [getD_set_ne true hne]
 exact h1
theorem anyG_first {i : Nat} {oi : Oper} {v : Value} (hi : ops[i]? = some oi) (hsel : ∀ (j : Nat) (o : Oper) cs b,ops[j]? = some o → o.op ≠ .select cs b)
  (hQ : ∀ c a w,Q (.panic c) (a.put oi.dst v) w → Q (.panic c) a w) {D : List Nat} (hwt : waitsG md ops x i D = true) :
  ∀ (n : Nat) (listed : Array Bool) (a : Act) (w : World),openG listed D = true →
   (∀ j oj,ops[j]? = some oj → j ≠ i → listed.getD j true = false → (∀ e ∈ oj.after,Region.binds md e = true → e.on ≠ i) → oi.apart ops oj = true) →
   i ∈ Region.ready md ops listed → YieldsIf P ops S oi v a → S w →
   anyG P md ops Q S x n (listed.setIfInBounds i true) (a.put oi.dst v) w → anyG P md ops Q S x (n + 1) listed a w := by
 intro n
 induction n with
 | zero =>
  intro listed a w _ _ hr hy hS H
  refine ⟨fun h => (by rw [h] at hr; cases hr),fun j hj => ?_⟩
  by_cases e : j = i
  ·
   subst e
   exact hy.wpOp hi hS ⟨.inr hS,H⟩
  ·
   have k := ready_mono hj e
   rw [H.1] at k
   cases k
 | succ n ih =>
  intro listed a w ho hfree hr hy hS H
  refine ⟨fun h => (by rw [h] at hr; cases hr),fun j hj => ?_⟩
  by_cases e : j = i
  ·
   subst e
   exact hy.wpOp hi hS ⟨.inr hS,H⟩
  ·
   obtain ⟨hjD,hjx⟩ := not_readyG hwt ho hr hj
   have h1 := H.2 j (ready_mono hj e)
   obtain ⟨hjun,oj,hoj,hall⟩ := mem_ready.1 hj
   have hnot : ∀ e ∈ oj.after,Region.binds md e = true → e.on ≠ i := fun e he hb heq => by
    have h1 := hall e he hb
    have h0 := (mem_ready.1 hr).1
    rw [heq] at h1
    rcases Nat.lt_or_ge i listed.size with h' | h'
    ·
     simp [h'] at h0 h1
     rw [h0] at h1
     cases h1
    · simp [Array.getElem?_eq_none h'] at h1
   have h2 := wpOp_putIf hoj (hfree j oj hoj e hjun hnot) (fun cs b => hsel i oi cs b hi) (fun cs b => hsel j oj cs b hoj) hQ hy h1
   refine wpOp_mono (fun a' w' h3 => ?_) h2
   have hS' : S w' := h3.2.1.resolve_left hjx
   refine ⟨.inr hS',ih (listed.setIfInBounds j true) a' w' (openG_set ho hjD) ?_ (ready_mono hr (Ne.symm e)) h3.1 hS' ?_⟩
   ·
    intro k ok hk hki hun hno
    refine hfree k ok hk hki ?_ hno
    by_cases hjk : j = k
    ·
     subst hjk
     exact hjun
    ·
     rw [getD_set_ne true hjk] at hun
     exact hun
   ·
    rw [Array.setIfInBounds_comm _ _ e]
    exact h3.2.2
theorem anyG_done {listed : Array Bool} {a : Act} {w : World} (hr : Region.ready md ops listed = []) (h : Q .normal a w) : ∀ n,anyG P md ops Q S x n listed a w
 | 0 => ⟨hr,h⟩
 | _ + 1 => ⟨fun _ => h,by rw [hr]; simp⟩
end
theorem Bl.tkG {ops : Array Oper} {Q : Exit → Act → World → Prop} {S : World → Prop} {x i : Nat} {oi : Oper} {v : Value} {fuel : Nat} {l : List Bool} {a : Act} {w : World} (hi : ops[i]? = some oi) (hs : Region.noSelect ops = true) (ht : Bl.tk ops l i = true) {D : List Nat} (hwt : (waitsG .any ops x i D && openG l.toArray D) = true)
  (hQ : ∀ c a w,Q (.panic c) (Act.put a oi.dst v) w → Q (.panic c) a w) (hy : YieldsIf Tryz.prog ops S oi v a) (hS : S w)
  (h : anyG Tryz.prog .any ops Q S x fuel (l.set i true).toArray (a.put oi.dst v) w) : anyG Tryz.prog .any ops Q S x (fuel + 1) l.toArray a w := by
 unfold Bl.tk at ht
 rw [Bool.and_eq_true] at ht
 rw [Bool.and_eq_true] at hwt
 refine anyG_first hi (Region.noSelect_spec hs) hQ hwt.1 fuel _ a w hwt.2 (Region.free_spec hi ht.1) (by simpa using ht.2) hy hS ?_
 simpa using h
theorem Bl.oneG {ops : Array Oper} {Q : Exit → Act → World → Prop} {S : World → Prop} {x i : Nat} {oi : Oper} {fuel : Nat} {l : List Bool} {a : Act} {w : World} (hi : ops[i]? = some oi) (hr : Region.ready .any ops l.toArray = [i])
  (h : ∀ K' : Act → World → Prop,Shut (∀ a w,(x ≤ i ∨ S w) → anyG Tryz.prog .any ops Q S x fuel (l.set i true).toArray a w → K' a w) → if Region.wanted oi (yielded ops a.tmps) = true then Oper.wp Tryz.prog oi a w K' Q else K' (a.put oi.dst undef) w) :
  anyG Tryz.prog .any ops Q S x (fuel + 1) l.toArray a w := by
 refine ⟨fun k => (by rw [hr] at k; cases k),fun j hj => ?_⟩
 rw [hr] at hj
 obtain rfl := List.mem_singleton.1 hj
 refine wpOp_step hi (fun K' hK => h K' fun a w hS hW => hK a w ⟨hS,?_⟩)
 simpa using hW
theorem Bl.startG {ops : Array Oper} {Q : Exit → Act → World → Prop} {S : World → Prop} {x id : Nat} {a : Act} {w : World} (h : anyG Tryz.prog .any ops Q S x ops.size (Array.replicate ops.size false) a w.drew) : (Code.region id ops true).wp Tryz.prog Q a w :=
 wp_region_any (by kernel_rfl) (any_of_g _ _ _ _ h)
end Go.Proofs.YtjpfpojbalepeabGreat
namespace Go.Proofs.YtjpfpojbalepeabGreat.Sn
open Go.RowKit
open Mem
def Block (w : World) (g : Nat) (ts : List T) : Prop := w.heap[g]? = some (.cells (ts.flatMap rv).toArray 80 (0,0))
theorem Block.lt {w : World} {g : Nat} {ts : List T} (h : Block w g ts) : g < w.heap.size := by
 obtain ⟨hg,_⟩ := Array.getElem?_eq_some_iff.1 h
 exact hg
theorem Block.below {w u : World} {g : Nat} {ts : List T} (h : Block w g ts) (k : Below w.heap.size w u) : Block u g ts := (k.block g h.lt).trans h
theorem Block.row {w : World} {g : Nat} {ts : List T} (h : Block w g ts) (k : Nat) (hk : k < ts.length) : At w g (k * 5) ts[k] := by
 have hcell : ∀ p,p < 5 → w.cell? ⟨g,k * 5 + p,none⟩ = (rv ts[k])[p]? := by
  intro p hp
  rw [cell_of_row w g _ _ _ _ h,← flat_at ts k p hk hp]
  simp
 exact ⟨hcell 0 (by omega),hcell 1 (by omega),hcell 2 (by omega),hcell 3 (by omega),hcell 4 (by omega)⟩
theorem Block.ls {w : World} {g : Nat} {ts zs : List T} (h : Block w g (ts ++ zs)) (n cap : Nat) (hn : n = ts.length) (hc : n ≤ cap) (hm : cap ≤ 9223372036854775807) (hs : ∀ r ∈ ts,Short r) : Ls w (some ⟨g,0,none⟩) n cap ts := by
 refine ⟨hn,hc,hm,(fun k => by cases k),.inr ⟨g,0,rfl,fun k hk => ?_⟩,hs⟩
 have hr := h.row k (by rw [List.length_append]; omega)
 rw [List.getElem_append_left hk] at hr
 rw [Nat.zero_add]
 exact hr
def zeros (n : Nat) : Array Value := ((List.replicate n zero).flatMap rv).toArray
theorem sizeZ : (Tryz.prog.info? 80).map (·.size) = some 5 := by kernel_rfl
theorem made (n : Nat) : madeCells zeroV.cells (n * 5) = zeros n := by
 apply Array.ext_getElem?
 intro j
 by_cases hj : j < n * 5
 ·
  obtain ⟨k,p,rfl,hp⟩ : ∃ k p,j = k * 5 + p ∧ p < 5 := ⟨j / 5,j % 5,by omega,by omega⟩
  have hk : k < n := by omega
  have hz : (zeros n)[k * 5 + p]? = (rv zero)[p]? := by
   unfold zeros
   rw [List.getElem?_toArray,flat_at (List.replicate n zero) k p (by simpa using hk) hp,List.getElem_replicate]
  rw [hz]
  have e : (k * 5 + p) % 5 = p := by omega
  have hp' : p = 0 ∨ p = 1 ∨ p = 2 ∨ p = 3 ∨ p = 4 := by omega
  unfold madeCells
  rw [Array.getElem?_map,Array.getElem?_range,if_pos hj]
  simp only [Option.map_some]
  rw [show zeroV.cells.size = 5 from rfl,e]
  rcases hp' with rfl | rfl | rfl | rfl | rfl <;> rfl
 ·
  rw [Array.getElem?_eq_none (by rw [size_madeCells]; omega),Array.getElem?_eq_none]
  unfold zeros
  rw [List.size_toArray,flat_len,List.length_replicate]
  omega
theorem make (n : Nat) (hn : n ≤ 100000) (u : World) : (Instr.makeSlice 38 (.int .i64 (n : Int)) (.int .i64 (n : Int))).run Tryz.prog u =
  .ok (.slice (some ⟨u.heap.size,0,none⟩) n n) (u.alloc (.cells (zeros n) 80)) := by
 obtain ⟨i0,hi,hz0,hz1,hz2⟩ := info_parts info
 have h := run_make (P := Tryz.prog) u 38 80 i0 zeroV Tryz.underlying38 hi hz0 .i64 .i64 (n : Int) (n : Int) (by omega) (Int.le_refl _) (by rw [hz2]; omega) (by omega)
 rw [hz1,Int.toNat_natCast,made] at h
 exact h
theorem block_made (u : World) (n : Nat) : Block (u.alloc (.cells (zeros n) 80)) u.heap.size (List.replicate n zero) := heap_alloc_new u _
theorem copy (u : World) (g : Nat) (ts : List T) (dCap : Nat) (ao : Option Addr) (n cap : Nat) (rs : List T) (hb : Block u g (List.replicate n zero ++ ts)) (hn : n = rs.length) (hs : Seg u ao rs) :
  ∃ u',(Builtin.copy_ #[38,38] 3 #[.slice (some ⟨g,0,none⟩) (n + ts.length) dCap,.slice ao n cap]).run Tryz.prog u = .ok (goInt n) u' ∧ Block u' g (rs ++ ts) ∧ (∀ B w0,Below B w0 u → B ≤ g → Below B w0 u') ∧ u'.heap.size = u.heap.size := by
 obtain ⟨i0,hi,hiK⟩ := Option.map_eq_some_iff.1 sizeZ
 have hmin : Nat.min n (n + ts.length) = n := Nat.min_eq_left (by omega)
 rcases hs with e | ⟨b,off,rfl,hc⟩
 ·
  subst e
  obtain rfl : n = 0 := hn
  refine ⟨u,?_,by simpa using hb,fun _ _ h _ => h,rfl⟩
  have hl : ∀ (x : Addr),(loadCells x 0).run Tryz.prog u = .ok #[] u := fun x => by simpa using run_loadCells_list (P := Tryz.prog) u x [] (by simp)
  cases ao <;> simp [Builtin.copy_,run_underlying Tryz.underlying38,Builtin.lenOf,Builtin.firstCells,sizeOf,typeInfo,hi,storeCells,hl]
 ·
  have hl := run_loadCells_list (P := Tryz.prog) u ⟨b,off,none⟩ (rs.flatMap rv) (fun j v hv => news_of hc j v hv)
  have hst := run_storeCells_at Tryz.prog g 0 80 (rs.flatMap rv) 0 _ u hb (by rw [List.size_toArray,flat_len,flat_len,List.length_append,List.length_replicate]; omega) (one_cell rs)
  have hlen : (rs.flatMap rv).length = n * 5 := by rw [flat_len,hn]
  have e : (((List.replicate n zero ++ ts).flatMap rv).toArray.toList.take (0 + 0) ++ rs.flatMap rv ++ ((List.replicate n zero ++ ts).flatMap rv).toArray.toList.drop (0 + 0 + (rs.flatMap rv).length)) = (rs ++ ts).flatMap rv := by
   rw [List.toList_toArray,List.take_zero,List.nil_append,Nat.zero_add,hlen,List.flatMap_append,List.flatMap_append,List.drop_left' (by rw [flat_len,List.length_replicate])]
  rw [e] at hst
  refine ⟨u.setRow g ((rs ++ ts).flatMap rv).toArray,?_,setRow_heap u g _ _ 80 _ hb,fun B w0 h hB => below_setRow h hB _,by simp [World.setRow]⟩
  rw [hlen] at hl
  simp [Builtin.copy_,run_underlying Tryz.underlying38,Builtin.lenOf,Builtin.firstCells,sizeOf,typeInfo,hi,hiK,hmin,hl,hst]
theorem set_right {a : T} (X : List Value) (k p : Nat) (v : Value) : (rv a ++ X).set ((k + 1) * 5 + p) v = rv a ++ X.set (k * 5 + p) v := by
 rw [List.set_append_right _ _ (by rw [rv_len]; omega),rv_len,show (k + 1) * 5 + p - 5 = k * 5 + p by omega]
theorem flat_set : ∀ (ts : List T) (k : Nat) (r : T),k < ts.length → (ts.set k r).flatMap rv = ((((((ts.flatMap rv).set (k * 5) (.int .i64 r.id)).set (k * 5 + 1) (.int .i64 r.last)).set (k * 5 + 2) (.int .i64 r.why)).set (k * 5 + 3) (.int .i64 r.num)).set (k * 5 + 4) (.int .i64 r.gross))
 | a :: l,0,r,_ => rfl
 | a :: l,k + 1,r,h => by
  have ih := flat_set l k r (by simpa using h)
  have e0 := fun (X : List Value) (v : Value) => set_right (a := a) X k 0 v
  simp only [Nat.add_zero] at e0
  rw [List.set_cons_succ,List.flatMap_cons,ih,List.flatMap_cons,e0,set_right,set_right,set_right,set_right]
theorem below_store {B g : Nat} {w0 w : World} (h : Below B w0 w) (hg : B ≤ g) (k : Nat) (x0 x1 x2 x3 x4 : Value) :
  Below B w0 (((((w.setCell ⟨g,k * 5,none⟩ x0).setCell ⟨g,k * 5 + 1,none⟩ x1).setCell ⟨g,k * 5 + 2,none⟩ x2).setCell ⟨g,k * 5 + 3,none⟩ x3).setCell ⟨g,k * 5 + 4,none⟩ x4) :=
 (((((h.setCell hg x0).setCell hg x1).setCell hg x2).setCell hg x3).setCell hg x4)
theorem own_store {w : World} {B g n cap : Nat} {M : List T} (h : Own w B (.slice (some ⟨g,0,none⟩) n cap) M) (k : Nat) (hk : k < M.length) (r : T) :
  Own (((((w.setCell ⟨g,k * 5,none⟩ (.int .i64 r.id)).setCell ⟨g,k * 5 + 1,none⟩ (.int .i64 r.last)).setCell ⟨g,k * 5 + 2,none⟩ (.int .i64 r.why)).setCell ⟨g,k * 5 + 3,none⟩ (.int .i64 r.num)).setCell ⟨g,k * 5 + 4,none⟩ (.int .i64 r.gross)) B (.slice (some ⟨g,0,none⟩) n cap) (M.set k r) := by
 rcases h.2 with ⟨h',_⟩ | ⟨g',cap',cur,h',hb,hg,hnc,hcm,hcs,htake⟩
 · cases h'
 ·
  simp only [Value.slice.injEq,Option.some.injEq,Addr.mk.injEq,and_true] at h'
  obtain ⟨e1,e2,e3⟩ := h'
  subst e1 e3
  have h1 := heap_setCell_same _ g (k * 5) _ _ (.int .i64 r.id) hg
  have h2 := heap_setCell_same _ g (k * 5 + 1) _ _ (.int .i64 r.last) h1
  have h3 := heap_setCell_same _ g (k * 5 + 2) _ _ (.int .i64 r.why) h2
  have h4 := heap_setCell_same _ g (k * 5 + 3) _ _ (.int .i64 r.num) h3
  have h5 := heap_setCell_same _ g (k * 5 + 4) _ _ (.int .i64 r.gross) h4
  refine ⟨by rw [flat_len],.inr ⟨g,cap,_,by rw [List.length_set,e2],hb,h5,by rw [List.length_set]; exact hnc,hcm,by simpa using hcs,?_⟩⟩
  rw [List.length_set,flat_set M k r hk]
  simp only [Array.toList_setIfInBounds]
  rw [← htake]
  simp only [List.take_set]
theorem own_at {w : World} {B g n cap : Nat} {M : List T} (h : Own w B (.slice (some ⟨g,0,none⟩) n cap) M) (k : Nat) (hk : k < M.length) : At w g (k * 5) M[k] ∧ (∀ o,w.frozen? ⟨g,o,none⟩ = false) ∧ B ≤ g := by
 rcases h.2 with ⟨h',_⟩ | ⟨g',cap',cur,h',hb,hg,hnc,hcm,hcs,htake⟩
 · cases h'
 ·
  simp only [Value.slice.injEq,Option.some.injEq,Addr.mk.injEq,and_true] at h'
  obtain ⟨e1,e2,e3⟩ := h'
  subst e1 e3
  have hcell : ∀ p,p < 5 → w.cell? ⟨g,k * 5 + p,none⟩ = (rv M[k])[p]? := by
   intro p hp
   rw [cell_of_row w g _ _ _ _ hg,← flat_at M k p hk hp,← htake,List.getElem?_take_of_lt (by omega)]
   simp
  exact ⟨⟨hcell 0 (by omega),hcell 1 (by omega),hcell 2 (by omega),hcell 3 (by omega),hcell 4 (by omega)⟩,fun o => frozen_of_row w g o _ _ hg,hb⟩
theorem own_of_block {w : World} {B g n : Nat} {M : List T} (h : Block w g M) (hB : B ≤ g) (hn : n = M.length) (hm : n ≤ 100000) : Own w B (.slice (some ⟨g,0,none⟩) n n) M := by
 subst hn
 exact ⟨by rw [flat_len],.inr ⟨g,M.length,_,rfl,hB,h,Nat.le_refl _,by have : maxLen = 9223372036854775807 := rfl; omega,by rw [List.size_toArray,flat_len],List.take_of_length_le (by show (M.flatMap rv).length ≤ _; rw [flat_len]; exact Nat.le_refl _)⟩⟩
theorem make_cap (n : Nat) (hn : n ≤ 1000) (u : World) : (Instr.makeSlice 38 (.int .i64 0) (.int .i64 ((n : Int) + 1))).run Tryz.prog u =
  .ok (.slice (some ⟨u.heap.size,0,none⟩) 0 (n + 1)) (u.alloc (.cells (zeros (n + 1)) 80)) := by
 obtain ⟨i0,hi,hz0,hz1,hz2⟩ := info_parts info
 have h := run_make (P := Tryz.prog) u 38 80 i0 zeroV Tryz.underlying38 hi hz0 .i64 .i64 0 ((n : Int) + 1) (by omega) (by omega) (by rw [hz2]; omega) (by omega)
 rw [hz1,show ((n : Int) + 1).toNat = n + 1 from by omega,made] at h
 exact h
theorem own_cap (u : World) (B c : Nat) (hB : B ≤ u.heap.size) (hc : c ≤ 1000) : Own (u.alloc (.cells (zeros c) 80)) B (.slice (some ⟨u.heap.size,0,none⟩) 0 c) [] :=
 ⟨rfl,.inr ⟨u.heap.size,c,zeros c,rfl,hB,heap_alloc_new u _,Nat.zero_le _,by have : maxLen = 9223372036854775807 := rfl; omega,by unfold zeros; rw [List.size_toArray,flat_len,List.length_replicate],rfl⟩⟩
end Go.Proofs.YtjpfpojbalepeabGreat.Sn
namespace Go.Proofs.YtjpfpojbalepeabGreat
open Go.RowKit
def Sp.rep (r : Sn.T) : Rp.T := ⟨r.why,r.num,r.gross⟩
def JoinE (w : World) (l : List Sn.T) (i : Int) (e : Ending) (w' : World) : Prop := ∃ v,e = .returned (.tuple #[v,.int .i64 (Sp.joinE l i)]) ∧ Sn.Own w' w.heap.size v (Sp.joinR l i) ∧ Below w.heap.size w w'
def LeaveE (w : World) (l : List Sn.T) (i : Int) (e : Ending) (w' : World) : Prop := ∃ v,e = .returned (.tuple #[v,.int .i64 (Sp.leaveE l i)]) ∧ Sn.Own w' w.heap.size v (Sp.leaveR l i) ∧ Below w.heap.size w w'
def LookE (w0 : World) (l : List Sn.T) (i q : Int) (e : Ending) (w' : World) : Prop := e = .returned (.tuple #[Rp.val (Sp.rep (Sp.lookT l i q)),.bool (Sp.lookO l i q),.int .i64 (Sp.lookE l i q)]) ∧ Below w0.heap.size w0 w'
def KeepE (w : World) (l : List Sn.T) (i q : Int) (r : Rp.T) (e : Ending) (w' : World) : Prop := ∃ v,e = .returned (.tuple #[v,.int .i64 (Sp.keepE l i q)]) ∧ Sn.Own w' w.heap.size v (Sp.keepR l i q r.why r.num r.gross) ∧ Below w.heap.size w w'
theorem Sn.short_new {i : Int} (h : Fit i) : Sn.Short (Sp.new i) := ⟨h,⟨by show (-9223372036854775808 : Int) ≤ 0; omega,by show (0 : Int) ≤ 9223372036854775807; omega⟩,⟨by show (-9223372036854775808 : Int) ≤ 0; omega,by show (0 : Int) ≤ 9223372036854775807; omega⟩,⟨by show (-9223372036854775808 : Int) ≤ 0; omega,by show (0 : Int) ≤ 9223372036854775807; omega⟩,⟨by show (-9223372036854775808 : Int) ≤ 0; omega,by show (0 : Int) ≤ 9223372036854775807; omega⟩⟩
theorem Sp.join_short {l : List Sn.T} {i : Int} (hs : ∀ r ∈ l,Sn.Short r) (hi : Fit i) : ∀ r ∈ Sp.joinR l i,Sn.Short r := by
 intro r hr
 unfold Sp.joinR at hr
 split at hr
 ·
  rcases Sp.openL_mem.1 hr with rfl | hr
  · exact Sn.short_new hi
  · exact hs r hr
 · cases hr
theorem Sp.leave_short {l : List Sn.T} {i : Int} (hs : ∀ r ∈ l,Sn.Short r) : ∀ r ∈ Sp.leaveR l i,Sn.Short r := by
 intro r hr
 unfold Sp.leaveR at hr
 split at hr
 · exact hs r (Sp.cut_mem hr)
 · cases hr
theorem Sp.set_short {l : List Sn.T} {k : Nat} {r : Sn.T} (hs : ∀ r ∈ l,Sn.Short r) (hr : Sn.Short r) : ∀ x ∈ l.set k r,Sn.Short x := by
 intro x hx
 rcases List.mem_or_eq_of_mem_set hx with hx | rfl
 · exact hs x hx
 · exact hr
theorem Sp.keep_short {l : List Sn.T} {i q : Int} {r : Rp.T} (hs : ∀ r ∈ l,Sn.Short r) (hi : Fit i) (hq : Fit q) (hr : Rp.Short r) : ∀ x ∈ Sp.keepR l i q r.why r.num r.gross,Sn.Short x := by
 intro x hx
 unfold Sp.keepR at hx
 split at hx
 · exact Sp.set_short hs ⟨hi,hq,hr.1,hr.2.1,hr.2.2⟩ x hx
 · cases hx
end Go.Proofs.YtjpfpojbalepeabGreat
