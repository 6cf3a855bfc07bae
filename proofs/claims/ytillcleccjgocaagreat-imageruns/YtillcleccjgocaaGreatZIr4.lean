import Derived.Deep.RegionHeld3
import Derived.Deep.MidRow
import Derived.Lib.SlicesCompact
import Derived.Lib.Bytealg
import Derived.Test.YtillcleccjgocaaGreatZIr1
import Derived.Test.YtillcleccjgocaaGreatZIr2
import Derived.Test.YtillcleccjgocaaGreatZIr3
namespace Go.Proofs.YtillcleccjgocaaGreat.Pd
open Go.RowKit
open Mem
theorem evT {a : Act} {t : Tmp} {v : Value} (h : a.tmps.toList[t]? = some v) : a.eval (.tmp t) = v := by
 show a.tmps.getD t undef = v
 rw [Array.getElem?_toList] at h
 simp [Array.getD_eq_getD_getElem?,h]
theorem infoW : (Tryz.prog.info? 100).map (·.size) = some 12 := by kernel_rfl
theorem At.range {w : World} {b o : Nat} {r : T} (h : At w b o r) : w.rangeAt b o (rv r) := by
 intro j v hv
 have hj : j < 12 := by
  have := (List.getElem?_eq_some_iff.1 hv).1
  rwa [rv_len] at this
 match j,hj with
 | 0,_ => exact (h.c0).trans hv
 | 1,_ => exact (h.c1).trans hv
 | 2,_ => exact (h.c2).trans hv
 | 3,_ => exact (h.c3).trans hv
 | 4,_ => exact (h.c4).trans hv
 | 5,_ => exact (h.c5).trans hv
 | 6,_ => exact (h.c6).trans hv
 | 7,_ => exact (h.c7).trans hv
 | 8,_ => exact (h.c8).trans hv
 | 9,_ => exact (h.c9).trans hv
 | 10,_ => exact (h.c10).trans hv
 | 11,_ => exact (h.c11).trans hv
theorem C.range {w : World} {b : Nat} {r : T} (h : C w b r) : w.rangeAt b 0 (rv r) := by
 obtain ⟨h0,h1,h2,h3,h4,h5,h6,h7,h8,h9,h10,h11⟩ := h
 exact At.range ⟨(h0 : _),(h1 : _),(h2 : _),(h3 : _),(h4 : _),(h5 : _),(h6 : _),(h7 : _),(h8 : _),(h9 : _),(h10 : _),(h11 : _)⟩
theorem wpl_load {ops : Array Oper} {rest : List Oper} {op : Oper} {a : Act} {w : World} {Q : Exit → Act → World → Prop} {t : Tmp} {b o : Nat} {r : T} (h : At w b o r) (ho : op.op = .load 100 (.tmp t)) (hgd : op.guard = none)
  (hx : a.tmps.toList[t]? = some (.pointer (some ⟨b,o,none⟩))) (k : wpList Tryz.prog ops Q rest (a.put op.dst (val r)) w) : wpList Tryz.prog ops Q (op :: rest) a w :=
 wpList_load_mid hgd 100 (.tmp t) ho b o (evT hx) (rv r) _ h.range Tryz.underlying100 rfl (by rw [infoW,rv_len]) k
theorem wpl_loadC {ops : Array Oper} {rest : List Oper} {op : Oper} {a : Act} {w : World} {Q : Exit → Act → World → Prop} {t : Tmp} {b : Nat} {r : T} (h : C w b r) (ho : op.op = .load 100 (.tmp t)) (hgd : op.guard = none)
  (hx : a.tmps.toList[t]? = some (.pointer (some ⟨b,0,none⟩))) (k : wpList Tryz.prog ops Q rest (a.put op.dst (val r)) w) : wpList Tryz.prog ops Q (op :: rest) a w :=
 wpList_load_mid hgd 100 (.tmp t) ho b 0 (evT hx) (rv r) _ h.range Tryz.underlying100 rfl (by rw [infoW,rv_len]) k
theorem set_rowW (w : World) (old cs : Array Value) (t : TypeId) : (w.alloc (.cells old t)).setRow w.heap.size cs = w.alloc (.cells cs t) := by
 unfold World.setRow World.alloc
 simp only [World.mk.injEq,and_true]
 apply Array.ext_getElem?
 intro i
 rw [Array.getElem?_modify]
 by_cases hi : w.heap.size = i
 ·
  subst hi
  simp
 · rw [if_neg hi,Array.getElem?_push,Array.getElem?_push,if_neg (Ne.symm hi),if_neg (Ne.symm hi)]
theorem wpl_store {ops : Array Oper} {rest : List Oper} {op : Oper} {a : Act} {w : World} {Q : Exit → Act → World → Prop} {t s : Tmp} {old : Array Value} {g : Nat} {r : T} (ho : op.op = .store 100 (.tmp t) (.tmp s)) (hgd : op.guard = none)
  (hx : a.tmps.toList[t]? = some (.pointer (some ⟨g,0,none⟩))) (hg : g = w.heap.size) (hy : a.tmps.toList[s]? = some (val r)) (hold : old.size = 12)
  (k : wpList Tryz.prog ops Q rest (a.put op.dst undef) (box w r)) : wpList Tryz.prog ops Q (op :: rest) a (w.alloc (.cells old 100)) := by
 subst hg
 refine wpList_store_row hgd 100 (.tmp t) (.tmp s) ho w.heap.size (rv r).toArray (evT hx) (evT hy) 100 old (heap_alloc_new w _) (by rw [infoW]; rfl) (by rw [hold]; rfl) (all_oneCell_toArray fun v hv => one_cell [r] v (by simpa using hv)) ?_
 rw [set_rowW]
 exact k
theorem wpl_put {ops : Array Oper} {rest : List Oper} {op : Oper} {a : Act} {w : World} {Q : Exit → Act → World → Prop} {t s : Tmp} {old : Array Value} {g : Nat} {r : T} (hg : w.heap[g]? = some (.cells old 100 (0,0))) (hold : old.size = 12) (ho : op.op = .store 100 (.tmp t) (.tmp s)) (hgd : op.guard = none)
  (hx : a.tmps.toList[t]? = some (.pointer (some ⟨g,0,none⟩))) (hy : a.tmps.toList[s]? = some (val r))
  (k : wpList Tryz.prog ops Q rest (a.put op.dst undef) (w.setRow g (rv r).toArray)) : wpList Tryz.prog ops Q (op :: rest) a w :=
 wpList_store_row hgd 100 (.tmp t) (.tmp s) ho g (rv r).toArray (evT hx) (evT hy) 100 old hg (by rw [infoW]; rfl) (by rw [hold]; rfl) (all_oneCell_toArray fun v hv => one_cell [r] v (by simpa using hv)) k
theorem heap_put {w : World} {old : Array Value} {g : Nat} (r : T) (hg : w.heap[g]? = some (.cells old 100 (0,0))) : (w.setRow g (rv r).toArray).heap[g]? = some (block r) := setRow_heap w g _ _ 100 _ hg
theorem results_put {fn : Func} {p : Tmp} (h : fn.results = #[.cell p 100]) {tmps : Array Value} {w : World} {g : Nat} {r : T} (hp : tmps.getD p undef = .pointer (some ⟨g,0,none⟩))
  (hg : w.heap[g]? = some (block r)) : (results fn tmps).run Tryz.prog w = .ok (val r) w :=
 results_cell_row h tmps w g 100 (rv r).toArray (0,0) _ hp hg Tryz.underlying100 rfl (by rw [infoW]; rfl)
theorem run_one (r : T) (u : World) : (Instr.buildSlice 26 1 #[(0,val r)]).run Tryz.prog u = .ok (.slice (some ⟨u.heap.size,0,none⟩) 1 1) (u.alloc (block r)) := by
 kernel_rfl
theorem wpl_one {ops : Array Oper} {rest : List Oper} {op : Oper} {a : Act} {w : World} {Q : Exit → Act → World → Prop} {t : Tmp} {r : T} (ho : op.op = .buildSlice 26 1 #[(0,.tmp t)]) (hgd : op.guard = none)
  (hx : a.tmps.toList[t]? = some (val r)) (k : wpList Tryz.prog ops Q rest (a.put op.dst (.slice (some ⟨w.heap.size,0,none⟩) 1 1)) (w.alloc (block r))) : wpList Tryz.prog ops Q (op :: rest) a w :=
 wpList_plain hgd fun _ hK => by
  have e : (#[(0,Operand.tmp t)] : Array (Nat × Operand)).map (fun (i,x) => (i,a.eval x)) = #[(0,val r)] := by simp [evT hx]
  unfold Oper.wp execOp
  simp only [ho,Sem.run_bind,e,run_one,Result.andThen_ok]
  exact hK _ _ k
end Go.Proofs.YtillcleccjgocaaGreat.Pd
set_option linter.unusedVariables false
namespace Go.Proofs.YtillcleccjgocaaGreat.Po
instance : Inhabited Ba.T := ⟨Ba.zero⟩
instance : DecidableEq Ba.T := fun a b => decidable_of_iff (Ba.eqB a b = true) (Ba.eqB_iff a b)
theorem spot_before {c : ByteArray} : ∀ {l : List Ba.T} {i : Nat},i < spot c l → ∃ h : i < l.length,lt l[i].acct c = true
 | [],i,h => by
  unfold spot at h
  omega
 | a :: l,i,h => by
  unfold spot at h
  by_cases k : lt a.acct c = true
  ·
   rw [if_pos k] at h
   cases i with
   | zero => exact ⟨by simp,k⟩
   | succ i =>
    obtain ⟨h1,h2⟩ := spot_before (c := c) (l := l) (i := i) (by omega)
    exact ⟨by simpa using h1,by simpa using h2⟩
  ·
   rw [if_neg k] at h
   omega
theorem spot_behind {c : ByteArray} : ∀ {l : List Ba.T},Sorted l → ∀ {i : Nat} (hi : i < l.length),spot c l ≤ i → lt l[i].acct c = false
 | a :: l,h,i,hi,k => by
  have h1 := (List.pairwise_cons.1 h).1
  have h2 := (List.pairwise_cons.1 h).2
  unfold spot at k
  by_cases q : lt a.acct c = true
  ·
   rw [if_pos q] at k
   cases i with
   | zero => omega
   | succ i =>
    have := spot_behind (c := c) h2 (i := i) (by simpa using hi) (by omega)
    simpa using this
  ·
   rw [Bool.not_eq_true] at q
   cases i with
   | zero => exact q
   | succ i =>
    have hi' : i < l.length := by simpa using hi
    rw [Bool.eq_false_iff]
    intro m
    rw [List.getElem_cons_succ] at m
    have := lt_trans (h1 _ (List.getElem_mem hi')) m
    rw [q] at this
    cases this
theorem half_up {c : ByteArray} {l : List Ba.T} (h : Sorted l) {m : Nat} (hm : m < l.length) (k : lt l[m].acct c = true) : m + 1 ≤ spot c l := by
 rcases Nat.lt_or_ge m (spot c l) with q | q
 · exact q
 ·
  rw [spot_behind h hm q] at k
  cases k
theorem half_down {c : ByteArray} {l : List Ba.T} {m : Nat} (hm : m < l.length) (k : lt l[m].acct c = false) : spot c l ≤ m := by
 rcases Nat.lt_or_ge m (spot c l) with q | q
 ·
  obtain ⟨_,h2⟩ := spot_before q
  rw [h2] at k
  cases k
 · exact q
theorem mem_iff {l : List Ba.T} (h : Sorted l) (x : Ba.T) : x ∈ l ↔ has x.acct l = true ∧ val x.acct l = x.amt := by
 constructor
 ·
  intro hx
  obtain ⟨p,q⟩ := look h hx rfl
  exact ⟨q,by unfold val; rw [p]⟩
 ·
  rintro ⟨h1,h2⟩
  obtain ⟨y,hy,e⟩ := has_mem h1
  obtain ⟨p,_⟩ := look h hy e
  unfold val at h2
  rw [p] at h2
  cases x
  cases y
  simp only at e h2
  subst e h2
  exact hy
theorem ext_mem : ∀ {l m : List Ba.T},Sorted l → Sorted m → (∀ x,x ∈ l ↔ x ∈ m) → l = m
 | [],[],_,_,_ => rfl
 | [],b :: m,_,_,h => by
  have := (h b).2 (by simp)
  simp at this
 | a :: l,[],_,_,h => by
  have := (h a).1 (by simp)
  simp at this
 | a :: l,b :: m,hl,hm,h => by
  have l1 := (List.pairwise_cons.1 hl).1
  have l2 := (List.pairwise_cons.1 hl).2
  have m1 := (List.pairwise_cons.1 hm).1
  have m2 := (List.pairwise_cons.1 hm).2
  have e : a = b := by
   rcases List.mem_cons.1 ((h a).1 (by simp)) with e | e
   · exact e
   ·
    rcases List.mem_cons.1 ((h b).2 (by simp)) with e' | e'
    · exact e'.symm
    ·
     have := lt_trans (m1 a e) (l1 b e')
     rw [lt_irrefl] at this
     cases this
  subst e
  have no : ∀ {k : List Ba.T},(∀ x ∈ k,lt a.acct x.acct = true) → a ∉ k := fun {k} hk ha => by
   have := hk a ha
   rw [lt_irrefl] at this
   cases this
  have t : l = m := ext_mem l2 m2 fun x => by
   constructor
   ·
    intro hx
    rcases List.mem_cons.1 ((h x).1 (by simp [hx])) with e | e
    · exact absurd (e ▸ hx) (no l1)
    · exact e
   ·
    intro hx
    rcases List.mem_cons.1 ((h x).2 (by simp [hx])) with e | e
    · exact absurd (e ▸ hx) (no m1)
    · exact e
  rw [t]
theorem ext_val {l m : List Ba.T} (hl : Sorted l) (hm : Sorted m) (h : ∀ c,has c l = has c m ∧ val c l = val c m) : l = m :=
 ext_mem hl hm fun x => by rw [mem_iff hl,mem_iff hm,(h _).1,(h _).2]
theorem has_iff {l : List Ba.T} (h : Sorted l) (c : ByteArray) : has c l = true ↔ ∃ x ∈ l,x.acct = c :=
 ⟨has_mem,fun ⟨_,hx,e⟩ => (look h hx e).2⟩
def news (b : List Ba.T) : List Ba.T → List Ba.T
 | [] => []
 | x :: l => if has x.acct b = true then news b l else ⟨x.acct,0⟩ :: news b l
theorem news_app (b : List Ba.T) : ∀ l m : List Ba.T,news b (l ++ m) = news b l ++ news b m
 | [],m => rfl
 | x :: l,m => by
  rw [List.cons_append,news,news,news_app b l m]
  split <;> rfl
theorem news_step (b ls : List Ba.T) (k : Nat) (h : k < ls.length) : news b (ls.take (k + 1)) = news b (ls.take k) ++ (if has ls[k].acct b = true then [] else [⟨ls[k].acct,0⟩]) := by
 rw [List.take_succ_eq_append_getElem h,news_app]
 congr 1
theorem news_len (b : List Ba.T) : ∀ l : List Ba.T,(news b l).length ≤ l.length
 | [] => Nat.le_refl _
 | x :: l => by
  have := news_len b l
  unfold news
  split <;> simp <;> omega
theorem mem_news {b : List Ba.T} : ∀ {l : List Ba.T} {x : Ba.T},x ∈ news b l ↔ x.amt = 0 ∧ has x.acct b = false ∧ named x.acct l = true
 | [],x => by
  constructor
  ·
   intro h
   cases h
  ·
   rintro ⟨_,_,h⟩
   cases h
 | y :: l,x => by
  have ih := mem_news (b := b) (l := l) (x := x)
  have hn : named x.acct (y :: l) = (decide (y.acct = x.acct) || named x.acct l) := rfl
  unfold news
  rw [hn]
  by_cases h : has y.acct b = true
  ·
   rw [if_pos h,ih]
   constructor
   ·
    rintro ⟨h1,h2,h3⟩
    exact ⟨h1,h2,by rw [h3,Bool.or_true]⟩
   ·
    rintro ⟨h1,h2,h3⟩
    refine ⟨h1,h2,?_⟩
    rcases Bool.or_eq_true_iff.1 h3 with e | e
    ·
     rw [of_decide_eq_true e,h2] at h
     cases h
    · exact e
  ·
   rw [if_neg h,List.mem_cons,ih]
   rw [Bool.not_eq_true] at h
   constructor
   ·
    rintro (rfl | ⟨h1,h2,h3⟩)
    · exact ⟨rfl,h,by simp⟩
    · exact ⟨h1,h2,by rw [h3,Bool.or_true]⟩
   ·
    rintro ⟨h1,h2,h3⟩
    rcases Bool.or_eq_true_iff.1 h3 with e | e
    ·
     left
     cases x
     cases y
     simp only at h1 e
     have e' := of_decide_eq_true e
     subst h1 e'
     rfl
    · exact .inr ⟨h1,h2,e⟩
structure Opened (b ls M : List Ba.T) : Prop where
 sorted : Sorted M
 has : ∀ c,has c M = (has c b || named c ls)
 val : ∀ c,val c M = val c b
theorem opened_of {b ls M : List Ba.T} (hb : Sorted b) (hM : Sorted M) (h : ∀ x,x ∈ M ↔ x ∈ b ++ news b ls) : Opened b ls M := by
 have hh : ∀ c,Po.has c M = (Po.has c b || named c ls) := fun c => by
  rw [Bool.eq_iff_iff,has_iff hM,Bool.or_eq_true_iff]
  constructor
  ·
   rintro ⟨x,hx,rfl⟩
   rcases List.mem_append.1 ((h x).1 hx) with k | k
   · exact .inl ((has_iff hb _).2 ⟨x,k,rfl⟩)
   · exact .inr (mem_news.1 k).2.2
  ·
   intro k
   cases q : Po.has c b with
   | true =>
    obtain ⟨x,hx,e⟩ := (has_iff hb c).1 q
    exact ⟨x,(h x).2 (List.mem_append.2 (.inl hx)),e⟩
   | false =>
    rw [q] at k
    have k' : named c ls = true := by simpa using k
    exact ⟨⟨c,0⟩,(h _).2 (List.mem_append.2 (.inr (mem_news.2 ⟨rfl,q,k'⟩))),rfl⟩
 refine ⟨hM,hh,fun c => ?_⟩
 cases q : Po.has c M with
 | true =>
  obtain ⟨x,hx,e⟩ := (has_iff hM c).1 q
  have v1 : Po.val c M = x.amt := by unfold Po.val; rw [(look hM hx e).1]
  rcases List.mem_append.1 ((h x).1 hx) with k | k
  ·
   have v2 : Po.val c b = x.amt := by unfold Po.val; rw [(look hb k e).1]
   rw [v1,v2]
  ·
   obtain ⟨k1,k2,_⟩ := mem_news.1 k
   rw [e] at k2
   rw [v1,k1,val_no k2]
 | false =>
  have k := hh c
  rw [q] at k
  have k2 : Po.has c b = false := by
   cases z : Po.has c b with
   | false => rfl
   | true => rw [z] at k; cases k
  rw [val_no q,val_no k2]
theorem compact_spec (d : Array Ba.T) (hs : ∀ i j,i < j → j < d.size → lt d[j]!.acct d[i]!.acct = false) (h1 : ∀ i j,i < d.size → j < d.size → d[i]!.acct = d[j]!.acct → d[i]! = d[j]!) :
  ∀ m,m ≤ d.size → Sorted (Lib.compactUpTo d m) ∧ ∀ x,x ∈ Lib.compactUpTo d m ↔ ∃ i,i < m ∧ d[i]! = x
 | 0,_ => ⟨List.Pairwise.nil,fun x => ⟨fun h => (by cases h),fun ⟨i,h,_⟩ => by omega⟩⟩
 | m + 1,hm => by
  obtain ⟨ih1,ih2⟩ := compact_spec d hs h1 m (by omega)
  rw [Lib.compactUpTo_succ]
  by_cases hk : Lib.keeps d m = true
  ·
   rw [if_pos hk]
   refine ⟨List.pairwise_append.2 ⟨ih1,List.pairwise_singleton _ _,?_⟩,fun x => ?_⟩
   ·
    intro x hx y hy
    obtain rfl := List.mem_singleton.1 hy
    obtain ⟨i,hi,rfl⟩ := (ih2 x).1 hx
    rcases lt_tri d[i]!.acct d[m]!.acct with e | e | e
    · exact e
    ·
     exfalso
     have hne : d[m]! ≠ d[m - 1]! := by
      unfold Lib.keeps at hk
      rcases of_decide_eq_true hk with q | q
      · omega
      · exact q
     apply hne
     apply h1 _ _ (by omega) (by omega)
     rcases Nat.lt_or_ge i (m - 1) with q | q
     ·
      have a1 := hs i (m - 1) q (by omega)
      have a2 := hs (m - 1) m (by omega) (by omega)
      rw [e] at a1
      rcases lt_tri d[m]!.acct d[m - 1]!.acct with z | z | z
      · rw [a2] at z; cases z
      · exact z
      · rw [a1] at z; cases z
     ·
      rw [show m - 1 = i by omega]
      exact e.symm
    ·
     rw [hs i m hi (by omega)] at e
     cases e
   ·
    rw [List.mem_append,ih2 x,List.mem_singleton]
    constructor
    ·
     rintro (⟨i,hi,e⟩ | e)
     · exact ⟨i,by omega,e⟩
     · exact ⟨m,by omega,e.symm⟩
    ·
     rintro ⟨i,hi,e⟩
     rcases Nat.lt_or_ge i m with q | q
     · exact .inl ⟨i,q,e⟩
     ·
      obtain rfl : i = m := by omega
      exact .inr e.symm
  ·
   rw [if_neg hk,List.append_nil]
   refine ⟨ih1,fun x => ?_⟩
   rw [ih2 x]
   constructor
   ·
    rintro ⟨i,hi,e⟩
    exact ⟨i,by omega,e⟩
   ·
    rintro ⟨i,hi,e⟩
    rcases Nat.lt_or_ge i m with q | q
    · exact ⟨i,q,e⟩
    ·
     obtain rfl : i = m := by omega
     unfold Lib.keeps at hk
     rw [decide_eq_true_iff] at hk
     have hm0 : i ≠ 0 := fun h => hk (.inl h)
     have he : d[i]! = d[i - 1]! := Classical.byContradiction fun h => hk (.inr h)
     exact ⟨i - 1,by omega,by rw [← he]; exact e⟩
theorem cmp_lt : ∀ a b : List UInt8,decide (Lib.compareBytes a b < 0) = Op.bytesLess a b
 | [],[] => rfl
 | [],_ :: _ => rfl
 | _ :: _,[] => rfl
 | a :: x,b :: y => by
  have ih := cmp_lt x y
  unfold Lib.compareBytes Op.bytesLess
  by_cases h : a < b
  ·
   rw [if_pos h,decide_eq_true h]
   rfl
  ·
   rw [if_neg h,decide_eq_false h,Bool.false_or]
   by_cases k : b < a
   ·
    rw [if_pos k]
    have hne : (a == b) = false := beq_eq_false_iff_ne.2 fun e => by subst e; exact UInt8.lt_irrefl a k
    rw [hne]
    rfl
   ·
    rw [if_neg k,ih]
    have he : a = b := UInt8.le_antisymm (UInt8.not_lt.1 k) (UInt8.not_lt.1 h)
    rw [beq_iff_eq.2 he,Bool.true_and]
end Go.Proofs.YtillcleccjgocaaGreat.Po
namespace Go.Proofs.YtillcleccjgocaaGreat
open Go.RowKit
open Mem
open Go.Sort (grow)
theorem Bl.ref_box (w : World) (c : ByteArray) (m : Int) : ∃ V,w.alloc (.cells #[.string c,.int .i64 m] 76) = V ∧ Below w.heap.size w V ∧ V.cell? ⟨w.heap.size,0,none⟩ = some (.string c) ∧ V.cell? ⟨w.heap.size,1,none⟩ = some (.int .i64 m) := by
 refine ⟨_,rfl,(Below.refl _ _).alloc (Nat.le_refl _) _,?_,?_⟩
 ·
  rw [cell_of_row _ w.heap.size 0 _ _ _ (heap_alloc_new w _)]
  rfl
 ·
  rw [cell_of_row _ w.heap.size 1 _ _ _ (heap_alloc_new w _)]
  rfl
theorem Bl.pix_at {c : ByteArray} {n : Int} : ∀ {l : List Bl.Ps} {k : Nat} (hk : k < l.length),(∀ p ∈ l.take k,¬ (p.ser = c ∧ p.num = n)) → (l[k].ser = c ∧ l[k].num = n) → Bl.pix c n l = k
 | [],k,hk,_,_ => absurd hk (Nat.not_lt_zero _)
 | p :: l,0,_,_,h => if_pos h
 | p :: l,k + 1,hk,hn,h => by
  rw [Bl.pix,if_neg (hn p (by simp)),Bl.pix_at (l := l) (k := k) (by rw [List.length_cons] at hk; omega) (fun q hq => hn q (by rw [List.take_succ_cons]; simp [hq])) h]
theorem Bl.tl_ne {a b : ByteArray} (h : ¬ a = b) : (a.toList == b.toList) = false := beq_eq_false_iff_ne.2 fun k => h (txt_ext (by rw [← tl,← tl,k]))
theorem Bl.tl_eq {a b : ByteArray} (h : a = b) : (a.toList == b.toList) = true := by rw [h]; exact beq_self_eq_true _
theorem Bl.liesA_new (A : Nat) (w : World) : Bl.LiesA A w ⟨⟨none,0,0⟩,⟨none,0,0⟩,⟨none,0,0⟩,⟨none,0,0⟩,⟨none,0,0⟩,1⟩ Bl.new := by
 have h := Bl.lies_new w
 exact ⟨h.tab,h.ser,⟨[],Pd.ls_nil w,Bl.each_nil w,fun r hr => by cases hr⟩,h.book,h.sess,h.next,h.fit,inA_nil _ _,inA_nil _ _,inA_nil _ _,inA_nil _ _,inA_nil _ _⟩
set_option maxHeartbeats 2000000 in
theorem bil_new (w0 w : World) (hw : Below w0.heap.size w0 w) : Calls Tryz.prog 7 #[] w (Bl.NewE w0 w) := by
 have HW := Lib.hid hw
 clear hw
 go_enter Tryz.func7,Tryz.ntmps7
 go_wp2_with fail
 exact bodyPost_ret (v := .agg #[.slice none 0 0,.slice none 0 0,.slice none 0 0,.slice none 0 0,.slice none 0 0,.int .i64 1]) (by simp [results,Tryz.results7,go_sem]) rfl ⟨⟨⟨none,0,0⟩,⟨none,0,0⟩,⟨none,0,0⟩,⟨none,0,0⟩,⟨none,0,0⟩,1⟩,rfl,Bl.liesA_new _ _,below_box HW.out _⟩
set_option maxHeartbeats 4000000 in
theorem bil_index (ps : List Bl.Ps) (rs : List Pd.T) (c : ByteArray) (m : Int) (ao : Option Addr) (n cap : Nat) (w0 w : World) (hw : Below w0.heap.size w0 w) (hL : Pd.Ls w ao n cap rs) (hE : Bl.Each w rs ps) :
  Calls Tryz.prog 119 #[.slice ao n cap,.agg #[.string c,.int .i64 m]] w fun e w' => e = .returned (.int .i64 (Bl.pix c m ps : Nat)) ∧ Below w0.heap.size w0 w' := by
 have HW := Lib.hid hw
 have HL := Lib.hid hL
 have HN := Lib.hid hL.len
 have HE := Lib.hid hE
 have hcap := hL.reach
 have hfit := hL.fits
 clear hL hw hE
 obtain ⟨V,hV,hbV,v0,v1⟩ := Bl.ref_box w c m
 have HV := Lib.hid hbV
 have HC := Lib.hid (And.intro v0 v1)
 clear hbV v0 v1
 go_enter Tryz.func119,Tryz.ntmps119
 go_wp2_with fail
 clear hV
 go_loopw [5,6,9] (fun _ _ j wr => ∃ k : Nat,k ≤ n ∧ j = .int .i64 k ∧ Hid (∀ p ∈ ps.take k,¬ (p.ser = c ∧ p.num = m)) ∧ Hid (Below V.heap.size V wr)) (fun _ _ j _ => n - (intOf j).toNat)
 case atStart => exact ⟨0,by omega,rfl,Lib.hid (fun _ h => by cases h),Lib.hid (Below.refl _ _)⟩
 case round =>
  obtain ⟨k,hk,rfl,HT,HB⟩ := hrel
  by_cases hlt : k < n
  ·
   obtain ⟨b,off,rfl⟩ := HL.out.at (by omega)
   have hkl : k < rs.length := HN.out ▸ hlt
   have hkp : k < ps.length := HE.out.len ▸ hkl
   have hrow := (HL.out.row k hkl).below (bchain HV.out HB.out)
   have hI := HE.out.each k hkl
   obtain ⟨r,hr⟩ : ∃ r,rs[k] = r := ⟨_,rfl⟩
   obtain ⟨p,hp⟩ : ∃ p,ps[k] = p := ⟨_,rfl⟩
   rw [hr] at hrow hI
   rw [hp] at hI
   have e1 := hI.ser
   have e2 := hI.num
   clear hr hI
   have hA := Pd.c_box wr r
   have HBW := Lib.hid (bchain HB.out (Pd.below_own wr r))
   have x0 := (bcell (bchain HB.out (Pd.below_own wr r))).1 _ 0 (cell_lt HC.out.1) |>.trans HC.out.1
   have x1 := (bcell (bchain HB.out (Pd.below_own wr r))).1 _ 1 (cell_lt HC.out.1) |>.trans HC.out.2
   have hA' := hA
   unfold Pd.C at hA'
   obtain ⟨a0,a1,_⟩ := hA'
   have HS := Lib.hid (List.take_succ_eq_append_getElem hkp)
   rw [hp] at HS
   by_cases he : r.ser = c
   ·
    have q0 := Bl.tl_eq he
    by_cases hm : r.num = m
    ·
     have HF := Lib.hid (Bl.pix_at hkp HT.out (by rw [hp]; exact ⟨e1 ▸ he,e2 ▸ hm⟩))
     have q1 : (r.num == m) = true := beq_iff_eq.2 hm
     clear he hm e1 e2
     go_wp2_with (first | ((with_reducible apply Pd.wpl_load hrow); rfl; rfl; rfl) | ((with_reducible apply Pd.wpl_store (r := r) (g := wr.heap.size)); rfl; rfl; rfl; rfl; rfl; rfl))
     go_ret
     exact ⟨by rw [HF.out]; rfl,bchain HW.out (bchain HV.out HBW.out)⟩
    ·
     have HNo : Hid (¬ (p.ser = c ∧ p.num = m)) := Lib.hid fun h => hm (e2.trans h.2)
     have q1 : (r.num == m) = false := beq_eq_false_iff_ne.2 hm
     clear he hm e1 e2
     go_wp2_with (first | ((with_reducible apply Pd.wpl_load hrow); rfl; rfl; rfl) | ((with_reducible apply Pd.wpl_store (r := r) (g := wr.heap.size)); rfl; rfl; rfl; rfl; rfl; rfl))
     go_roundw
     case rel =>
      refine ⟨k + 1,by omega,by go_num,Lib.hid ?_,HBW⟩
      rw [HS.out]
      intro x hx
      rcases List.mem_append.1 hx with h | h
      · exact HT.out x h
      ·
       rw [List.mem_singleton.1 h]
       exact HNo.out
     case measure => simp [intOf]; omega
   ·
    have q0 := Bl.tl_ne he
    have HNo : Hid (¬ (p.ser = c ∧ p.num = m)) := Lib.hid fun h => he (e1.trans h.1)
    clear he e1 e2
    go_wp2_with (first | ((with_reducible apply Pd.wpl_load hrow); rfl; rfl; rfl) | ((with_reducible apply Pd.wpl_store (r := r) (g := wr.heap.size)); rfl; rfl; rfl; rfl; rfl; rfl))
    go_roundw
    case rel =>
     refine ⟨k + 1,by omega,by go_num,Lib.hid ?_,HBW⟩
     rw [HS.out]
     intro x hx
     rcases List.mem_append.1 hx with h | h
     · exact HT.out x h
     ·
      rw [List.mem_singleton.1 h]
      exact HNo.out
    case measure => simp [intOf]; omega
  ·
   obtain rfl : k = n := by omega
   have HF : Hid (Bl.pix c m ps = k) := Lib.hid (by
    rw [Bl.pix_none,← HE.out.len,HN.out]
    intro p hp
    exact HT.out p (by rw [List.take_of_length_le (by rw [← HE.out.len,HN.out]; exact Nat.le_refl _)]; exact hp))
   go_wp2_with fail
   go_ret
   exact ⟨by rw [HF.out]; rfl,bchain HW.out (bchain HV.out HB.out)⟩
set_option maxHeartbeats 4000000 in
theorem bil_credits (ps : List Bl.Ps) (rs : List Pd.T) (c : ByteArray) (m : Int) (ao : Option Addr) (n cap : Nat) (w0 w : World) (hw : Below w0.heap.size w0 w) (hL : Pd.Ls w ao n cap rs) (hE : Bl.Each w rs ps) :
  Calls Tryz.prog 79 #[.slice ao n cap,.agg #[.string c,.int .i64 m]] w fun e w' => e = .returned (.int .i64 (Bl.crd c m ps : Nat)) ∧ Below w0.heap.size w0 w' := by
 have HW := Lib.hid hw
 have HL := Lib.hid hL
 have HN := Lib.hid hL.len
 have HE := Lib.hid hE
 have hcap := hL.reach
 have hfit := hL.fits
 clear hL hw hE
 obtain ⟨V,hV,hbV,v0,v1⟩ := Bl.ref_box w c m
 have HV := Lib.hid hbV
 have HC := Lib.hid (And.intro v0 v1)
 clear hbV v0 v1
 go_enter Tryz.func79,Tryz.ntmps79
 go_wp2_with fail
 clear hV
 go_loopw [5,7,10] (fun a _ j wr => ∃ k t : Nat,k ≤ n ∧ t ≤ k ∧ j = .int .i64 k ∧ a = .int .i64 t ∧ Hid (Bl.crd c m (ps.take k) = t) ∧ Hid (Below V.heap.size V wr)) (fun _ _ j _ => n - (intOf j).toNat)
 case atStart => exact ⟨0,0,by omega,by omega,rfl,rfl,Lib.hid rfl,Lib.hid (Below.refl _ _)⟩
 case round =>
  obtain ⟨k,t,hk,htk,rfl,rfl,HT,HB⟩ := hrel
  by_cases hlt : k < n
  ·
   obtain ⟨b,off,rfl⟩ := HL.out.at (by omega)
   have hkl : k < rs.length := HN.out ▸ hlt
   have hkp : k < ps.length := HE.out.len ▸ hkl
   have hrow := (HL.out.row k hkl).below (bchain HV.out HB.out)
   have hI := HE.out.each k hkl
   obtain ⟨r,hr⟩ : ∃ r,rs[k] = r := ⟨_,rfl⟩
   have HS := Lib.hid (Bl.crd_take c m ps k hkp)
   obtain ⟨p,hp⟩ : ∃ p,ps[k] = p := ⟨_,rfl⟩
   rw [hr] at hrow hI
   rw [hp] at hI HS
   have e1 := hI.ofS
   have e2 := hI.ofN
   clear hr hI hp
   have hA := Pd.c_box wr r
   have HBW := Lib.hid (bchain HB.out (Pd.below_own wr r))
   have x0 := (bcell (bchain HB.out (Pd.below_own wr r))).1 _ 0 (cell_lt HC.out.1) |>.trans HC.out.1
   have x1 := (bcell (bchain HB.out (Pd.below_own wr r))).1 _ 1 (cell_lt HC.out.1) |>.trans HC.out.2
   have hA' := hA
   unfold Pd.C at hA'
   obtain ⟨_,_,_,_,_,_,_,_,_,a9,a10,_⟩ := hA'
   by_cases he : r.ofS = c
   ·
    have q0 := Bl.tl_eq he
    by_cases hm : r.ofN = m
    ·
     have HF : Hid (Bl.crd c m (ps.take (k + 1)) = t + 1) := Lib.hid (by rw [HS.out,HT.out,if_pos ⟨e1 ▸ he,e2 ▸ hm⟩])
     have q1 : (r.ofN == m) = true := beq_iff_eq.2 hm
     clear he hm e1 e2
     go_wp2_with (first | ((with_reducible apply Pd.wpl_load hrow); rfl; rfl; rfl) | ((with_reducible apply Pd.wpl_store (r := r) (g := wr.heap.size)); rfl; rfl; rfl; rfl; rfl; rfl))
     go_roundw
     case rel => exact ⟨k + 1,t + 1,by omega,by omega,by go_num,by go_num,HF,HBW⟩
     case measure => simp [intOf]; omega
    ·
     have HF : Hid (Bl.crd c m (ps.take (k + 1)) = t) := Lib.hid (by rw [HS.out,HT.out,if_neg (fun h => hm (e2.trans h.2)),Nat.add_zero])
     have q1 : (r.ofN == m) = false := beq_eq_false_iff_ne.2 hm
     clear he hm e1 e2
     go_wp2_with (first | ((with_reducible apply Pd.wpl_load hrow); rfl; rfl; rfl) | ((with_reducible apply Pd.wpl_store (r := r) (g := wr.heap.size)); rfl; rfl; rfl; rfl; rfl; rfl))
     go_roundw
     case rel => exact ⟨k + 1,t,by omega,by omega,by go_num,rfl,HF,HBW⟩
     case measure => simp [intOf]; omega
   ·
    have q0 := Bl.tl_ne he
    have HF : Hid (Bl.crd c m (ps.take (k + 1)) = t) := Lib.hid (by rw [HS.out,HT.out,if_neg (fun h => he (e1.trans h.1)),Nat.add_zero])
    clear he e1 e2
    go_wp2_with (first | ((with_reducible apply Pd.wpl_load hrow); rfl; rfl; rfl) | ((with_reducible apply Pd.wpl_store (r := r) (g := wr.heap.size)); rfl; rfl; rfl; rfl; rfl; rfl))
    go_roundw
    case rel => exact ⟨k + 1,t,by omega,by omega,by go_num,rfl,HF,HBW⟩
    case measure => simp [intOf]; omega
  ·
   obtain rfl : k = n := by omega
   have HF : Hid (Bl.crd c m ps = t) := Lib.hid (by
    rw [← HT.out,List.take_of_length_le (by rw [← HE.out.len,HN.out]; exact Nat.le_refl _)])
   go_wp2_with fail
   go_ret
   exact ⟨by rw [HF.out]; rfl,bchain HW.out (bchain HV.out HB.out)⟩
def Bl.CountE (w0 : World) (c : ByteArray) (ps : List Bl.Ps) (e : Ending) (w' : World) : Prop := (Bl.CntOk c ps ∧ e = .returned (.tuple #[.int .i64 (Bl.cnt c ps : Nat),.bool true]) ∨ ¬ Bl.CntOk c ps ∧ e = .returned (.tuple #[.int .i64 0,.bool false])) ∧ Below w0.heap.size w0 w'
theorem Bl.cntOk_step {c : ByteArray} {l : List Bl.Ps} {k : Nat} (hk : k < l.length) (h : Bl.CntOk c (l.take k)) (hn : l[k].ser = c → l[k].num = (Bl.cnt c (l.take k) : Int) + 1) : Bl.CntOk c (l.take (k + 1)) := by
 intro i hi e
 rw [List.length_take] at hi
 rw [List.getElem_take] at e
 rw [List.getElem_take]
 have ht : ((l.take (k + 1)).take i) = l.take i := by rw [List.take_take,Nat.min_eq_left (by omega)]
 rw [ht]
 by_cases q : i = k
 ·
  subst q
  exact hn e
 ·
  have := h i (by rw [List.length_take]; omega) (by rw [List.getElem_take]; exact e)
  have hm : min i k = i := by omega
  simp only [List.getElem_take,List.take_take,hm] at this
  exact this
set_option maxHeartbeats 4000000 in
theorem bil_count (ps : List Bl.Ps) (rs : List Pd.T) (c : ByteArray) (ao : Option Addr) (n cap : Nat) (w0 w : World) (hw : Below w0.heap.size w0 w) (hL : Pd.Ls w ao n cap rs) (hE : Bl.Each w rs ps) :
  Calls Tryz.prog 74 #[.slice ao n cap,.string c] w (Bl.CountE w0 c ps) := by
 have HW := Lib.hid hw
 have HL := Lib.hid hL
 have HN := Lib.hid hL.len
 have HE := Lib.hid hE
 have hcap := hL.reach
 have hfit := hL.fits
 clear hL hw hE
 go_enter Tryz.func74,Tryz.ntmps74
 go_wp2_with fail
 go_loopw [6,8,11] (fun a _ j wr => ∃ k t : Nat,k ≤ n ∧ t ≤ k ∧ j = .int .i64 k ∧ a = .int .i64 t ∧ Hid (Bl.cnt c (ps.take k) = t ∧ Bl.CntOk c (ps.take k)) ∧ Hid (Below w.heap.size w wr)) (fun _ _ j _ => n - (intOf j).toNat)
 case atStart => exact ⟨0,0,by omega,by omega,rfl,rfl,Lib.hid ⟨rfl,fun i hi => absurd hi (Nat.not_lt_zero _)⟩,Lib.hid (Below.refl _ _)⟩
 case round =>
  obtain ⟨k,t,hk,htk,rfl,rfl,HT,HB⟩ := hrel
  by_cases hlt : k < n
  ·
   obtain ⟨b,off,rfl⟩ := HL.out.at (by omega)
   have hkl : k < rs.length := HN.out ▸ hlt
   have hkp : k < ps.length := HE.out.len ▸ hkl
   have hrow := (HL.out.row k hkl).below HB.out
   have hI := HE.out.each k hkl
   obtain ⟨r,hr⟩ : ∃ r,rs[k] = r := ⟨_,rfl⟩
   have HS := Lib.hid (Bl.cnt_take c ps k hkp)
   have HSt := Lib.hid (Bl.cntOk_step hkp HT.out.2)
   have HNo : Hid (ps[k].ser = c → ¬ ps[k].num = (t : Int) + 1 → ¬ Bl.CntOk c ps) := Lib.hid fun e q h => q (by have := h k hkp e; rw [HT.out.1] at this; exact this)
   obtain ⟨p,hp⟩ : ∃ p,ps[k] = p := ⟨_,rfl⟩
   rw [hr] at hrow hI
   rw [hp] at hI HS HSt HNo
   have e1 := hI.ser
   have e2 := hI.num
   clear hr hI hp
   have hA := Pd.c_box wr r
   have HBW := Lib.hid (bchain HB.out (Pd.below_own wr r))
   have hA' := hA
   unfold Pd.C at hA'
   obtain ⟨a0,a1,_⟩ := hA'
   by_cases he : r.ser = c
   ·
    have q0 := Bl.tl_eq he
    have HF : Hid (Bl.cnt c (ps.take (k + 1)) = t + 1) := Lib.hid (by rw [HS.out,HT.out.1,if_pos (e1 ▸ he)])
    by_cases hm : r.num = (t : Int) + 1
    ·
     have HG := Lib.hid (HSt.out fun _ => by rw [HT.out.1,← e2]; exact hm)
     have q1 : (r.num == (t : Int) + 1) = true := beq_iff_eq.2 hm
     clear he hm e1 e2
     go_wp2_with (first | ((with_reducible apply Pd.wpl_load hrow); rfl; rfl; rfl) | ((with_reducible apply Pd.wpl_store (r := r) (g := wr.heap.size)); rfl; rfl; rfl; rfl; rfl; rfl))
     go_roundw
     case rel => exact ⟨k + 1,t + 1,by omega,by omega,by go_num,by go_num,Lib.hid ⟨HF.out,HG.out⟩,HBW⟩
     case measure => simp [intOf]; omega
    ·
     have HG := Lib.hid (HNo.out (e1 ▸ he) (e2 ▸ hm))
     have q1 : (r.num == (t : Int) + 1) = false := beq_eq_false_iff_ne.2 hm
     clear he hm e1 e2
     go_wp2_with (first | ((with_reducible apply Pd.wpl_load hrow); rfl; rfl; rfl) | ((with_reducible apply Pd.wpl_store (r := r) (g := wr.heap.size)); rfl; rfl; rfl; rfl; rfl; rfl))
     go_ret2
     exact ⟨.inr ⟨HG.out,rfl⟩,bchain HW.out HBW.out⟩
   ·
    have q0 := Bl.tl_ne he
    have HF : Hid (Bl.cnt c (ps.take (k + 1)) = t) := Lib.hid (by rw [HS.out,HT.out.1,if_neg (fun h => he (e1.trans h)),Nat.add_zero])
    have HG := Lib.hid (HSt.out fun h => absurd (e1.trans h) he)
    clear he e1 e2
    go_wp2_with (first | ((with_reducible apply Pd.wpl_load hrow); rfl; rfl; rfl) | ((with_reducible apply Pd.wpl_store (r := r) (g := wr.heap.size)); rfl; rfl; rfl; rfl; rfl; rfl))
    go_roundw
    case rel => exact ⟨k + 1,t,by omega,by omega,by go_num,rfl,Lib.hid ⟨HF.out,HG.out⟩,HBW⟩
    case measure => simp [intOf]; omega
  ·
   obtain rfl : k = n := by omega
   have HF : Hid (Bl.cnt c ps = t ∧ Bl.CntOk c ps) := Lib.hid (by
    have h := HT.out
    rw [List.take_of_length_le (by rw [← HE.out.len,HN.out]; exact Nat.le_refl _)] at h
    exact h)
   go_wp2_with fail
   go_ret2
   exact ⟨.inl ⟨HF.out.2,by rw [HF.out.1]; rfl⟩,bchain HW.out HB.out⟩
end Go.Proofs.YtillcleccjgocaaGreat
namespace Go.Proofs.YtillcleccjgocaaGreat
open Go.RowKit
open Mem
structure KpP (P : Nat → Prop) (w v : World) : Prop where
 cell : ∀ b o,P b → b < w.heap.size → v.cell? ⟨b,o,none⟩ = w.cell? ⟨b,o,none⟩
 size : w.heap.size ≤ v.heap.size
theorem KpP.of {P : Nat → Prop} {w v : World} (h : Below w.heap.size w v) : KpP P w v := ⟨fun b o _ hb => (bcell h).1 b o hb,h.size⟩
theorem KpP.set {P : Nat → Prop} {g : Nat} (w : World) (hg : ¬ P g) (o : Nat) (x : Value) : KpP P w (w.setCell ⟨g,o,none⟩ x) :=
 ⟨fun b o' ha _ => World.cell?_setCell_other _ _ _ _ (by intro k; simp only [Addr.mk.injEq] at k; exact hg (k.1 ▸ ha)),by simp⟩
theorem KpP.row {P : Nat → Prop} {g : Nat} (w : World) (hg : ¬ P g) (vs : Array Value) : KpP P w (w.setRow g vs) := by
 refine ⟨fun b o ha hb => ?_,by simp [World.setRow]⟩
 have e : (w.setRow g vs).heap[b]? = w.heap[b]? := setRow_other w g b _ (by intro k; exact hg (k ▸ ha))
 unfold World.cell?
 simp only [e]
def InP (P : Nat → Prop) (ao : Option Addr) (n : Nat) : Prop := 0 < n → ∀ b off,ao = some ⟨b,off,none⟩ → P b
theorem InP.mono {P Q : Nat → Prop} {ao : Option Addr} {n : Nat} (h : InP P ao n) (k : ∀ b,P b → Q b) : InP Q ao n := fun hn b off e => k b (h hn b off e)
theorem inP_nil (P : Nat → Prop) (ao : Option Addr) : InP P ao 0 := fun h => absurd h (Nat.lt_irrefl _)
theorem Sr.Ls.kpP {P : Nat → Prop} {w v : World} {ao : Option Addr} {n cap : Nat} {rs : List Sr.T} (h : Sr.Ls w ao n cap rs) (hi : InP P ao n) (k : KpP P w v) : Sr.Ls v ao n cap rs := by
 refine ⟨h.len,h.fits,h.reach,h.nil,?_,h.short⟩
 rcases h.seg with e | ⟨b,off,e,hc⟩
 · exact .inl e
 ·
  refine .inr ⟨b,off,e,fun i hr => ?_⟩
  have hA := hi (by rw [h.len]; omega) b off e
  have hl := cell_lt (hc i hr).c0
  exact ⟨(k.cell b _ hA hl).trans (hc i hr).c0,(k.cell b _ hA hl).trans (hc i hr).c1,(k.cell b _ hA hl).trans (hc i hr).c2,(k.cell b _ hA hl).trans (hc i hr).c3⟩
theorem Ba.Ls.kpP {P : Nat → Prop} {w v : World} {ao : Option Addr} {n cap : Nat} {rs : List Ba.T} (h : Ba.Ls w ao n cap rs) (hi : InP P ao n) (k : KpP P w v) : Ba.Ls v ao n cap rs := by
 refine ⟨h.len,h.fits,h.reach,h.nil,?_,h.short⟩
 rcases h.seg with e | ⟨b,off,e,hc⟩
 · exact .inl e
 ·
  refine .inr ⟨b,off,e,fun i hr => ?_⟩
  have hA := hi (by rw [h.len]; omega) b off e
  have hl := cell_lt (hc i hr).c0
  exact ⟨(k.cell b _ hA hl).trans (hc i hr).c0,(k.cell b _ hA hl).trans (hc i hr).c1⟩
theorem Sn.Ls.kpP {P : Nat → Prop} {w v : World} {ao : Option Addr} {n cap : Nat} {rs : List Sn.T} (h : Sn.Ls w ao n cap rs) (hi : InP P ao n) (k : KpP P w v) : Sn.Ls v ao n cap rs := by
 refine ⟨h.len,h.fits,h.reach,h.nil,?_,h.short⟩
 rcases h.seg with e | ⟨b,off,e,hc⟩
 · exact .inl e
 ·
  refine .inr ⟨b,off,e,fun i hr => ?_⟩
  have hA := hi (by rw [h.len]; omega) b off e
  have hl := cell_lt (hc i hr).c0
  exact ⟨(k.cell b _ hA hl).trans (hc i hr).c0,(k.cell b _ hA hl).trans (hc i hr).c1,(k.cell b _ hA hl).trans (hc i hr).c2,(k.cell b _ hA hl).trans (hc i hr).c3,(k.cell b _ hA hl).trans (hc i hr).c4⟩
theorem Pt.Ls.kpP {P : Nat → Prop} {w v : World} {ao : Option Addr} {n cap : Nat} {rs : List Pt.T} (h : Pt.Ls w ao n cap rs) (hi : InP P ao n) (k : KpP P w v) : Pt.Ls v ao n cap rs := by
 refine ⟨h.len,h.fits,h.reach,h.nil,?_,h.short⟩
 rcases h.seg with e | ⟨b,off,e,hc⟩
 · exact .inl e
 ·
  refine .inr ⟨b,off,e,fun i hr => ?_⟩
  have hA := hi (by rw [h.len]; omega) b off e
  have hl := cell_lt (hc i hr).c0
  exact ⟨(k.cell b _ hA hl).trans (hc i hr).c0,(k.cell b _ hA hl).trans (hc i hr).c1,(k.cell b _ hA hl).trans (hc i hr).c2,(k.cell b _ hA hl).trans (hc i hr).c3⟩
theorem Pd.Ls.kpP {P : Nat → Prop} {w v : World} {ao : Option Addr} {n cap : Nat} {rs : List Pd.T} (h : Pd.Ls w ao n cap rs) (hi : InP P ao n) (k : KpP P w v) : Pd.Ls v ao n cap rs := by
 refine ⟨h.len,h.fits,h.reach,h.nil,?_,h.short⟩
 rcases h.seg with e | ⟨b,off,e,hc⟩
 · exact .inl e
 ·
  refine .inr ⟨b,off,e,fun i hr => ?_⟩
  have hA := hi (by rw [h.len]; omega) b off e
  have hl := cell_lt (hc i hr).c0
  exact ⟨(k.cell b _ hA hl).trans (hc i hr).c0,(k.cell b _ hA hl).trans (hc i hr).c1,(k.cell b _ hA hl).trans (hc i hr).c2,(k.cell b _ hA hl).trans (hc i hr).c3,(k.cell b _ hA hl).trans (hc i hr).c4,(k.cell b _ hA hl).trans (hc i hr).c5,(k.cell b _ hA hl).trans (hc i hr).c6,(k.cell b _ hA hl).trans (hc i hr).c7,(k.cell b _ hA hl).trans (hc i hr).c8,(k.cell b _ hA hl).trans (hc i hr).c9,(k.cell b _ hA hl).trans (hc i hr).c10,(k.cell b _ hA hl).trans (hc i hr).c11⟩
theorem Rts.kpP {P : Nat → Prop} {w v : World} {ao : Option Addr} {n cap : Nat} {rs : List Vt.Rt} (h : Rts w ao n cap rs) (hi : InP P ao n) (k : KpP P w v) : Rts v ao n cap rs := by
 refine ⟨h.len,h.fits,h.reach,h.nil,?_,h.short⟩
 rcases h.seg with e | ⟨b,off,e,hc⟩
 · exact .inl e
 ·
  refine .inr ⟨b,off,e,fun i hr => ?_⟩
  have hA := hi (by rw [h.len]; omega) b off e
  have hl := cell_lt (hc i hr).c0
  exact ⟨(k.cell b _ hA hl).trans (hc i hr).c0,(k.cell b _ hA hl).trans (hc i hr).c1,(k.cell b _ hA hl).trans (hc i hr).c2,(k.cell b _ hA hl).trans (hc i hr).c3,(k.cell b _ hA hl).trans (hc i hr).c4⟩
theorem Pt.Ls.inp {w : World} {ao : Option Addr} {n cap : Nat} {rs : List Pt.T} (h : Pt.Ls w ao n cap rs) : InP (· < w.heap.size) ao n := fun hn b off e => by
 rcases h.seg with z | ⟨b',off',e',hc⟩
 ·
  rw [h.len,z] at hn
  exact absurd hn (Nat.lt_irrefl _)
 ·
  rw [e'] at e
  cases e
  exact cell_lt (hc 0 (by rw [← h.len]; exact hn)).c0
namespace Bl
structure Lp (P : Nat → Prop) (w : World) (h : Sv) (s : St) : Prop where
 tab : Rts w h.tab.ao h.tab.n h.tab.cap s.tab
 ser : Sr.Ls w h.ser.ao h.ser.n h.ser.cap s.ser
 post : ∃ rs,Pd.Ls w h.post.ao h.post.n h.post.cap rs ∧ Each w rs s.post ∧ ∀ r ∈ rs,InP P r.parts.ao r.parts.n
 book : Ba.Ls w h.book.ao h.book.n h.book.cap s.book
 sess : Sn.Ls w h.sess.ao h.sess.n h.sess.cap s.sess
 next : h.next = s.next
 fit : Fit s.next
 ptab : InP P h.tab.ao h.tab.n
 pser : InP P h.ser.ao h.ser.n
 ppost : InP P h.post.ao h.post.n
 pbook : InP P h.book.ao h.book.n
 psess : InP P h.sess.ao h.sess.n
variable {P Q : Nat → Prop} {w v : World} {h : Sv} {s : St}
theorem Lp.lies (l : Lp P w h s) : Lies w h s := by
 obtain ⟨rs,h1,h2,_⟩ := l.post
 exact ⟨l.tab,l.ser,⟨rs,h1,h2⟩,l.book,l.sess,l.next,l.fit⟩
theorem Lp.mono (l : Lp P w h s) (k : ∀ b,P b → Q b) : Lp Q w h s := by
 obtain ⟨rs,h1,h2,h3⟩ := l.post
 exact ⟨l.tab,l.ser,⟨rs,h1,h2,fun r hr => (h3 r hr).mono k⟩,l.book,l.sess,l.next,l.fit,l.ptab.mono k,l.pser.mono k,l.ppost.mono k,l.pbook.mono k,l.psess.mono k⟩
theorem IsP.kpP {r : Pd.T} {p : Ps} (h : IsP w r p) (hi : InP P r.parts.ao r.parts.n) (k : KpP P w v) : IsP v r p :=
 ⟨h.ser,h.num,h.y,h.m,h.d,h.net,h.tax,h.gross,h.parts.kpP hi k,h.ofS,h.ofN,h.back⟩
theorem Lp.kp (l : Lp P w h s) (k : KpP P w v) : Lp P v h s := by
 obtain ⟨rs,h1,h2,h3⟩ := l.post
 exact ⟨l.tab.kpP l.ptab k,l.ser.kpP l.pser k,⟨rs,h1.kpP l.ppost k,⟨h2.len,fun i hi => (h2.each i hi).kpP (h3 _ (List.getElem_mem hi)) k⟩,h3⟩,l.book.kpP l.pbook k,l.sess.kpP l.psess k,l.next,l.fit,l.ptab,l.pser,l.ppost,l.pbook,l.psess⟩
theorem Lp.below (l : Lp P w h s) (k : Below w.heap.size w v) : Lp P v h s := l.kp (KpP.of k)
end Bl
end Go.Proofs.YtillcleccjgocaaGreat
set_option maxRecDepth 100000
namespace Go.Proofs.YtillcleccjgocaaGreat
open Go.RowKit
open Mem
open Go.Sort (grow)
def Bl.zsv : Bl.Sv := ⟨⟨none,0,0⟩,⟨none,0,0⟩,⟨none,0,0⟩,⟨none,0,0⟩,⟨none,0,0⟩,0⟩
theorem Bl.al1 (w : World) (o : Obj) : Below w.heap.size w (w.alloc o) ∧ (w.alloc o).heap[w.heap.size]? = some o ∧ (w.alloc o).heap.size = w.heap.size + 1 := ⟨(Below.refl _ _).alloc (Nat.le_refl _) _,heap_alloc_new w o,by simp⟩
theorem Bl.al2 (w : World) (o0 o1 : Obj) : ∃ U,(w.alloc o0).alloc o1 = U ∧ Below w.heap.size w U ∧ U.heap[w.heap.size]? = some o0 ∧ U.heap[w.heap.size + 1]? = some o1 ∧ U.heap.size = w.heap.size + 1 + 1 := by
 obtain ⟨b1,h1,s1⟩ := Bl.al1 w o0
 obtain ⟨b2,h2,s2⟩ := Bl.al1 (w.alloc o0) o1
 rw [s1] at h2 s2
 exact ⟨_,rfl,bchain b1 b2,(b2.block _ (by omega)).trans h1,h2,s2⟩
theorem Bl.al3 (w : World) (o0 o1 o2 : Obj) : ∃ U,((w.alloc o0).alloc o1).alloc o2 = U ∧ Below w.heap.size w U ∧ U.heap[w.heap.size]? = some o0 ∧ U.heap[w.heap.size + 1]? = some o1 ∧ U.heap[w.heap.size + 1 + 1]? = some o2 ∧ U.heap.size = w.heap.size + 1 + 1 + 1 := by
 obtain ⟨V,rfl,b1,h0,h1,s1⟩ := Bl.al2 w o0 o1
 obtain ⟨b2,h2,s2⟩ := Bl.al1 ((w.alloc o0).alloc o1) o2
 rw [s1] at h2 s2
 exact ⟨_,rfl,bchain b1 b2,(b2.block _ (by omega)).trans h0,(b2.block _ (by omega)).trans h1,h2,s2⟩
theorem Bl.results1 {fn : Func} {p : Tmp} (hf : fn.results = #[.cell p 30]) {tmps : Array Value} {w : World} {gS : Nat} {h : Bl.Sv} (hp : tmps.getD p undef = .pointer (some ⟨gS,0,none⟩)) (hS : Bl.At w gS h) : (results fn tmps).run Tryz.prog w = .ok h.val w :=
 results_cell_row hf tmps w gS 30 (Bl.rv h).toArray (0,0) _ hp hS Tryz.underlying30 rfl (by rw [Bl.info]; rfl)
section
variable {ops : Array Oper} {o : Oper} {a : Act} {w : World} {K : Act → World → Prop} {Q : Exit → Act → World → Prop} {E : Prop} {S : World → Prop}
theorem Bl.step_call {f : FuncId} {args : Array Value} (hgd : o.guard = none) (hrun : (execOp a.eval o).run Tryz.prog w = .ok (.enter f args) w) (k : Calls Tryz.prog f args w fun e w' => ∃ v,e = .returned v ∧ K (a.put o.dst v) w') :
  if Region.wanted o (yielded ops a.tmps) = true then Oper.wp Tryz.prog o a w K Q else E := by
 have hw : Region.wanted o (yielded ops a.tmps) = true := by simp [Region.wanted,hgd]
 rw [if_pos hw]
 unfold Oper.wp
 rw [hrun,Oper.upon_enter]
 refine k.mono fun e w' hh => ?_
 obtain ⟨v,rfl,hk⟩ := hh
 exact hk
end
theorem Bl.enters {f : FuncId} {fn : Func} {c : Code} {o : Oper} {a : Act} {xs : Array Operand} {ty : Array TypeId} {vs : Array Value} (ho : o.op = .call { callee := .value (.func f), args := xs, argTypes := ty }) (hx : xs.map a.eval = vs) (hf : Tryz.prog.funcs[f]? = some fn) (hname : (fn.name == "runtime.NumGoroutine") = false) (hb : fn.body = some c) (u : World) :
  (execOp a.eval o).run Tryz.prog u = .ok (.enter f vs) u := by
 have h1 : fn.name ≠ "runtime.NumGoroutine" := by simpa using hname
 simp only [execOp,ho]
 simp [resolve,invoke,callFunc,hf,h1,hb,hx,go_sem]
def Bl.tk (ops : Array Oper) (l : List Bool) (i : Nat) : Bool := Region.free .any ops l.toArray i && (Region.ready .any ops l.toArray).contains i
section
variable {id : Nat} {o0 o1 o2 o3 o4 : Oper} {a : Act} {w : World} {Q : Exit → Act → World → Prop}
end
end Go.Proofs.YtillcleccjgocaaGreat
namespace Go.Proofs.YtillcleccjgocaaGreat
open Go.RowKit
open Mem Pk Cm
theorem By.Ls.updN {w w' : World} {p : Nat} {ao : Option Addr} {n cap : Nat} {rs : List UInt8} (h : By.Ls w ao n cap rs) (k : Upd w p w') (hp : 0 < n → ∀ b off,ao = some ⟨b,off,none⟩ → b ≠ p) : By.Ls w' ao n cap rs := by
 by_cases h0 : 0 < n
 · exact h.upd k (hp h0)
 ·
  have e : rs = [] := List.length_eq_zero_iff.1 (by rw [← h.len]; omega)
  exact ⟨h.len,h.fits,h.reach,h.nil,.inl e⟩
structure Off (p q n : Nat) (ao : Option Addr) : Prop where
 ne : q ≠ p
 bytes : 0 < n → ∀ b off,ao = some ⟨b,off,none⟩ → b ≠ q
theorem Rd.off {w : World} {p : Nat} {ao : Option Addr} {n cap : Nat} {bs : List UInt8} {s : St} (h : Rd w p ao n cap bs s) {q : Nat} (hq : w.heap.size ≤ q) : Off p q n ao := by
 have hl := cell_lt h.c0
 refine ⟨by omega,fun h0 b off e => ?_⟩
 subst e
 have := cell_lt (h.ls.row 0 (by rw [← h.ls.len]; exact h0))
 omega
theorem Rd.other {u : World} {p q o n cap : Nat} {ao : Option Addr} {bs : List UInt8} {s : St} (h : Rd u p ao n cap bs s) (k : Off p q n ao) (x : Value) : Rd (u.setCell ⟨q,o,none⟩ x) p ao n cap bs s := by
 have U : Upd u q (u.setCell ⟨q,o,none⟩ x) := Upd.set x
 have hl := cell_lt h.c0
 have hp : p ≠ q := fun e => k.ne e.symm
 exact ⟨by rw [U.cell _ _ hl hp]; exact h.c0,by rw [U.cell _ _ hl hp]; exact h.c1,by rw [U.cell _ _ hl hp]; exact h.c2,fun o => by rw [U.frozen _ _ hl]; exact h.fz o,h.ls.updN U k.bytes,h.apart,h.place⟩
structure D3 (u : World) (b : Nat) (y m d : Int) : Prop where
 c0 : u.cell? ⟨b,0,none⟩ = some (.int .i64 y)
 c1 : u.cell? ⟨b,1,none⟩ = some (.int .i64 m)
 c2 : u.cell? ⟨b,2,none⟩ = some (.int .i64 d)
 fz : ∀ o,u.frozen? ⟨b,o,none⟩ = false
theorem D3.upd {u v : World} {p b : Nat} {y m d : Int} (h : D3 u b y m d) (k : Upd u p v) (hp : b ≠ p) : D3 v b y m d := by
 have hl := cell_lt h.c0
 exact ⟨by rw [k.cell _ _ hl hp]; exact h.c0,by rw [k.cell _ _ hl hp]; exact h.c1,by rw [k.cell _ _ hl hp]; exact h.c2,fun o => by rw [k.frozen _ _ hl]; exact h.fz o⟩
theorem D3.s0 {u : World} {b : Nat} {y m d : Int} (h : D3 u b y m d) (x : Int) : D3 (u.setCell ⟨b,0,none⟩ (.int .i64 x)) b x m d :=
 ⟨by simp [go_sem,h.c0],by simp [go_sem,h.c1],by simp [go_sem,h.c2],fun o => by simp [go_sem,h.fz]⟩
theorem D3.s1 {u : World} {b : Nat} {y m d : Int} (h : D3 u b y m d) (x : Int) : D3 (u.setCell ⟨b,1,none⟩ (.int .i64 x)) b y x d :=
 ⟨by simp [go_sem,h.c0],by simp [go_sem,h.c1],by simp [go_sem,h.c2],fun o => by simp [go_sem,h.fz]⟩
theorem ird_text (p : Nat) (ao : Option Addr) (n cap : Nat) (bs : List UInt8) (s : St) (w : World) (hR : Rd w p ao n cap bs s) :
  Calls Tryz.prog 90 #[.pointer (some ⟨p,0,none⟩)] w fun e w' => e = .returned (.string (rText bs 64 s).1) ∧ Rd w' p ao n cap bs (rText bs 64 s).2 ∧ Upd w p w' := by
 have HR := Lib.hid hR
 clear hR
 go_enter Tryz.func90,Tryz.ntmps90
 go_wp2_with fail
 refine (rd_text p ao n cap bs 64 s w HR.out).mono ?_
 rintro e w1 ⟨rfl,hR1,hU1⟩
 have HR1 := Lib.hid hR1
 have HU1 := Lib.hid hU1
 clear hR1 hU1
 go_wp2_with fail
 go_ret
 exact ⟨rfl,HR1.out,HU1.out⟩
set_option maxHeartbeats 2000000 in
theorem ird_day (p : Nat) (ao : Option Addr) (n cap : Nat) (bs : List UInt8) (s : St) (w : World) (hR : Rd w p ao n cap bs s) :
  Calls Tryz.prog 91 #[.pointer (some ⟨p,0,none⟩)] w fun e w' => e = .returned (.agg #[.int .i64 (rDay bs s).1.1,.int .i64 (rDay bs s).1.2.1,.int .i64 (rDay bs s).1.2.2]) ∧ Rd w' p ao n cap bs (rDay bs s).2 ∧ Upd w p w' := by
 have hlt := cell_lt hR.c0
 have HO0 := Lib.hid (hR.off (Nat.le_refl _))
 have HO1 := Lib.hid (hR.off (Nat.le_succ _))
 have hb0 : Below w.heap.size w ((w.alloc (.cells #[.int .i64 0,.int .i64 0,.int .i64 0] 61)).alloc (.cells #[.int .i64 0,.int .i64 0,.int .i64 0] 61)) := below_box (below_box (Below.refl _ _) _) _
 have HB0 := Lib.hid hb0
 have HR := Lib.hid (hR.below hb0)
 have HA : Hid (D3 ((w.alloc (.cells #[.int .i64 0,.int .i64 0,.int .i64 0] 61)).alloc (.cells #[.int .i64 0,.int .i64 0,.int .i64 0] 61)) w.heap.size 0 0 0) := Lib.hid ⟨by simp [go_sem],by simp [go_sem],by simp [go_sem],fun o => by simp [go_sem]⟩
 have HD : Hid (D3 ((w.alloc (.cells #[.int .i64 0,.int .i64 0,.int .i64 0] 61)).alloc (.cells #[.int .i64 0,.int .i64 0,.int .i64 0] 61)) (w.heap.size + 1) 0 0 0) := Lib.hid ⟨by simp [go_sem],by simp [go_sem],by simp [go_sem],fun o => by simp [go_sem]⟩
 have hnp : w.heap.size ≠ p := by omega
 have hnp1 : w.heap.size + 1 ≠ p := by omega
 have hn01 : w.heap.size ≠ w.heap.size + 1 := by omega
 clear hR hb0
 go_enter Tryz.func91,Tryz.ntmps91
 go_wp2_with fail
 refine (rd_num p ao n cap bs s _ HR.out).mono ?_
 rintro e w1 ⟨rfl,hR1,hU1⟩
 obtain ⟨v1,s1,hv1⟩ : ∃ v1 s1,rNum bs s = (v1,s1) := ⟨_,_,rfl⟩
 rw [hv1] at hR1 ⊢
 dsimp only at hR1 ⊢
 have D1 := HD.out.upd hU1 hnp1
 have HD1 := Lib.hid (D1.s0 v1)
 have HA1 := Lib.hid ((HA.out.upd hU1 hnp).upd (Upd.set (p := w.heap.size + 1) (o := 0) (.int .i64 v1)) hn01)
 have HR1 := Lib.hid (hR1.other (o := 0) HO1.out (.int .i64 v1))
 have HU1 := Lib.hid (((Upd.of p HB0.out).trans hU1).fresh (q := w.heap.size + 1) (o := 0) (by omega) (.int .i64 v1))
 obtain ⟨d0,d1,d2,df⟩ := D1
 clear hR1 hU1
 go_wp2_with fail
 refine (rd_num p ao n cap bs s1 _ HR1.out).mono ?_
 rintro e w2 ⟨rfl,hR2,hU2⟩
 obtain ⟨v2,s2,hv2⟩ : ∃ v2 s2,rNum bs s1 = (v2,s2) := ⟨_,_,rfl⟩
 rw [hv2] at hR2 ⊢
 dsimp only at hR2 ⊢
 have D2 := HD1.out.upd hU2 hnp1
 have HD2 := Lib.hid (D2.s1 v2)
 have HA2 := Lib.hid ((HA1.out.upd hU2 hnp).upd (Upd.set (p := w.heap.size + 1) (o := 1) (.int .i64 v2)) hn01)
 have HR2 := Lib.hid (hR2.other (o := 1) HO1.out (.int .i64 v2))
 have HU2 := Lib.hid ((HU1.out.trans hU2).fresh (q := w.heap.size + 1) (o := 1) (by omega) (.int .i64 v2))
 clear hR2 hU2 d0 d1 d2 df
 obtain ⟨d0,d1,d2,df⟩ := D2
 go_wp2_with fail
 refine (rd_num p ao n cap bs s2 _ HR2.out).mono ?_
 rintro e w3 ⟨rfl,hR3,hU3⟩
 obtain ⟨v3,s3,hv3⟩ : ∃ v3 s3,rNum bs s2 = (v3,s3) := ⟨_,_,rfl⟩
 rw [hv3] at hR3 ⊢
 dsimp only at hR3 ⊢
 have HV : Hid (rDay bs s = ((v1,v2,v3),s3)) := Lib.hid (by
  unfold rDay
  rw [hv1]
  dsimp only
  rw [hv2]
  dsimp only
  rw [hv3])
 have D3' := HD2.out.upd hU3 hnp1
 have A3 := HA2.out.upd hU3 hnp
 have HR3 := Lib.hid hR3
 have HU3 := Lib.hid (HU2.out.trans hU3)
 clear hR3 hU3 d0 d1 d2 df
 obtain ⟨d0,d1,d2,df⟩ := D3'
 obtain ⟨a0,a1,a2,af⟩ := A3
 go_wp2_with fail
 refine bodyPost_ret (v := .agg #[.int .i64 v1,.int .i64 v2,.int .i64 v3]) (by simp [results,Tryz.results91,go_sem,a0,a1,a2]) rfl ⟨by rw [HV.out],?_,?_⟩
 ·
  rw [HV.out]
  exact (((HR3.out.other HO1.out _).other HO0.out _).other HO0.out _).other HO0.out _
 · exact (((HU3.out.fresh (Nat.le_succ _) _).fresh (Nat.le_refl _) _).fresh (Nat.le_refl _) _).fresh (Nat.le_refl _) _
set_option maxHeartbeats 1000000 in
theorem rd_flag (p : Nat) (ao : Option Addr) (n cap : Nat) (bs : List UInt8) (s : St) (w : World) (hR : Rd w p ao n cap bs s) :
  Calls Tryz.prog 92 #[.pointer (some ⟨p,0,none⟩)] w fun e w' => e = .returned (.bool (Im.rFlag bs s).1) ∧ Rd w' p ao n cap bs (Im.rFlag bs s).2 ∧ Upd w p w' := by
 have HR := Lib.hid hR
 have hpl := hR.place
 have c1 := hR.c1
 clear hR
 go_enter Tryz.func92,Tryz.ntmps92
 go_wp2_with fail
 refine (rd_num p ao n cap bs s w HR.out).mono ?_
 rintro e w1 ⟨rfl,hR1,hU1⟩
 have HR1 := Lib.hid hR1
 have HU1 := Lib.hid hU1
 clear hR1 hU1 c1
 obtain ⟨v,s1,hv⟩ : ∃ v s1,rNum bs s = (v,s1) := ⟨_,_,rfl⟩
 have HV := Lib.hid hv
 rw [hv] at HR1
 rw [hv]
 dsimp only at HR1 ⊢
 clear hv
 by_cases h0 : v = 0
 ·
  subst h0
  have HN : Hid (Im.rFlag bs s = (false,s1)) := Lib.hid (by unfold Im.rFlag; rw [HV.out]; rfl)
  go_wp2_with fail
  go_ret
  exact ⟨by rw [HN.out]; rfl,by rw [HN.out]; exact HR1.out,HU1.out⟩
 ·
  by_cases h1 : v = 1
  ·
   subst h1
   have HN : Hid (Im.rFlag bs s = (true,s1)) := Lib.hid (by unfold Im.rFlag; rw [HV.out]; rfl)
   go_wp2_with fail
   go_ret
   exact ⟨by rw [HN.out]; rfl,by rw [HN.out]; exact HR1.out,HU1.out⟩
  ·
   have HN : Hid (Im.rFlag bs s = (false,⟨s.at',4⟩)) := Lib.hid (by unfold Im.rFlag; rw [HV.out]; exact if_pos ⟨h0,h1⟩)
   have q0 : (v != 0) = true := bne_iff_ne.2 h0
   have q1 : (v != 1) = true := bne_iff_ne.2 h1
   clear h0 h1
   go_wp2_with fail
   refine (rd_refuse p ao n cap bs s1 s.at' 4 w1 HR1.out hpl).mono ?_
   rintro e w2 ⟨rfl,hR2,hU2⟩
   have HR2 := Lib.hid hR2
   have HU2 := Lib.hid (HU1.out.trans hU2)
   clear hR2 hU2
   go_wp2_with fail
   go_ret
   exact ⟨by rw [HN.out]; rfl,by rw [HN.out]; exact HR2.out,HU2.out⟩
end Go.Proofs.YtillcleccjgocaaGreat
namespace Go.Proofs.YtillcleccjgocaaGreat
open Go.RowKit
open Mem Pk Cm
structure Rx (w u : World) (p : Nat) (ao : Option Addr) (n cap : Nat) (bs : List UInt8) (s : St) (T : TypeId) (zs cs : Array Value) : Prop where
 rd : Rd u p ao n cap bs s
 upd : Upd w p u
 res : u.heap[w.heap.size]? = some (.cells zs T (0,0))
 var : u.heap[w.heap.size + 1]? = some (.cells cs T (0,0))
 off : Off p (w.heap.size + 1) n ao
 off0 : Off p w.heap.size n ao
section
variable {w u v : World} {p : Nat} {ao : Option Addr} {n cap : Nat} {bs : List UInt8} {s s' : St} {T : TypeId} {zs cs : Array Value}
theorem Rx.start (hR : Rd w p ao n cap bs s) (zs : Array Value) (T : TypeId) : Rx w ((w.alloc (.cells zs T)).alloc (.cells zs T)) p ao n cap bs s T zs zs := by
 obtain ⟨U,hU,hb,h0,h1,hs⟩ := Bl.al2 w (.cells zs T) (.cells zs T)
 rw [hU]
 exact ⟨hR.below hb,Upd.of p hb,h0,h1,hR.off (Nat.le_succ _),hR.off (Nat.le_refl _)⟩
theorem Rx.call (h : Rx w u p ao n cap bs s T zs cs) (k : Upd u p v) (r : Rd v p ao n cap bs s') : Rx w v p ao n cap bs s' T zs cs := by
 have l1 := (Array.getElem?_eq_some_iff.1 h.var).1
 have l0 := (Array.getElem?_eq_some_iff.1 h.res).1
 exact ⟨r,h.upd.trans k,(k.block _ l0 h.off0.ne).trans h.res,(k.block _ l1 h.off.ne).trans h.var,h.off,h.off0⟩
theorem Rx.set (h : Rx w u p ao n cap bs s T zs cs) (i : Nat) (x : Value) : Rx w (u.setCell ⟨w.heap.size + 1,i,none⟩ x) p ao n cap bs s T zs (cs.setIfInBounds i x) :=
 ⟨h.rd.other h.off x,h.upd.fresh (Nat.le_succ _) x,by rw [heap_setCell_other u ⟨w.heap.size + 1,i,none⟩ w.heap.size x (by show w.heap.size ≠ w.heap.size + 1; omega)]; exact h.res,heap_setCell_same u _ i _ _ x h.var,h.off,h.off0⟩
theorem Rx.cell (h : Rx w u p ao n cap bs s T zs cs) (i : Nat) : u.cell? ⟨w.heap.size + 1,i,none⟩ = cs[i]? := cell_of_row u _ i _ _ _ h.var
theorem Rx.cell0 (h : Rx w u p ao n cap bs s T zs cs) (i : Nat) : u.cell? ⟨w.heap.size,i,none⟩ = zs[i]? := cell_of_row u _ i _ _ _ h.res
theorem Rx.fz (h : Rx w u p ao n cap bs s T zs cs) (o : Nat) : u.frozen? ⟨w.heap.size + 1,o,none⟩ = false := frozen_of_row u _ o _ _ h.var
theorem Rx.fz0 (h : Rx w u p ao n cap bs s T zs cs) (o : Nat) : u.frozen? ⟨w.heap.size,o,none⟩ = false := frozen_of_row u _ o _ _ h.res
end
set_option maxHeartbeats 2000000 in
theorem ird_rate (p : Nat) (ao : Option Addr) (n cap : Nat) (bs : List UInt8) (s : St) (w : World) (hR : Rd w p ao n cap bs s) :
  Calls Tryz.prog 45 #[.pointer (some ⟨p,0,none⟩)] w fun e w' => e = .returned (.agg #[.string (Im.rRate bs s).1.cat,.int .i64 (Im.rRate bs s).1.y,.int .i64 (Im.rRate bs s).1.m,.int .i64 (Im.rRate bs s).1.d,.int .i64 (Im.rRate bs s).1.bp]) ∧ Rd w' p ao n cap bs (Im.rRate bs s).2 ∧ Upd w p w' := by
 have HX0 := Lib.hid (Rx.start hR #[.string ⟨#[]⟩,.int .i64 0,.int .i64 0,.int .i64 0,.int .i64 0] 63)
 have hlt := cell_lt hR.c0
 have hnp : w.heap.size ≠ p := by omega
 have hnp1 : w.heap.size + 1 ≠ p := by omega
 obtain ⟨U,hU⟩ : ∃ U,(w.alloc (.cells #[.string ⟨#[]⟩,.int .i64 0,.int .i64 0,.int .i64 0,.int .i64 0] 63)).alloc (.cells #[.string ⟨#[]⟩,.int .i64 0,.int .i64 0,.int .i64 0,.int .i64 0] 63) = U := ⟨_,rfl⟩
 rw [hU] at HX0
 clear hR
 go_enter Tryz.func45,Tryz.ntmps45
 go_wp2_with fail
 clear hU
 refine (ird_text p ao n cap bs s U HX0.out.rd).mono ?_
 rintro e w1 ⟨rfl,r1,k1⟩
 obtain ⟨a1,s1,hv1⟩ : ∃ a s',rText bs 64 s = (a,s') := ⟨_,_,rfl⟩
 rw [hv1] at r1 ⊢
 dsimp only at r1 ⊢
 have HV1 := Lib.hid hv1
 have HC1 := Lib.hid (HX0.out.call k1 r1)
 clear r1 k1 hv1
 have c0 := HC1.out.cell 0
 have c1 := HC1.out.cell 1
 have c2 := HC1.out.cell 2
 have c3 := HC1.out.cell 3
 have c4 := HC1.out.cell 4
 simp only [List.getElem?_toArray,List.getElem?_cons_zero,List.getElem?_cons_succ] at c0 c1 c2 c3 c4
 have z0 := HC1.out.fz 0
 have HX1 : Hid (Rx w (w1.setCell ⟨w.heap.size + 1,0,none⟩ (.string a1)) p ao n cap bs s1 63 #[.string ⟨#[]⟩,.int .i64 0,.int .i64 0,.int .i64 0,.int .i64 0] #[.string a1,.int .i64 0,.int .i64 0,.int .i64 0,.int .i64 0]) := Lib.hid (HC1.out.set 0 (.string a1))
 obtain ⟨u1,hu1⟩ : ∃ u,(w1.setCell ⟨w.heap.size + 1,0,none⟩ (.string a1)) = u := ⟨_,rfl⟩
 rw [hu1] at HX1
 go_wp2_with fail
 clear hu1 c0 c1 c2 c3 c4 z0
 refine (ird_day p ao n cap bs s1 u1 HX1.out.rd).mono ?_
 rintro e w2 ⟨rfl,r2,k2⟩
 obtain ⟨a2,s2,hv2⟩ : ∃ a s',rDay bs s1 = (a,s') := ⟨_,_,rfl⟩
 rw [hv2] at r2 ⊢
 dsimp only at r2 ⊢
 have HV2 := Lib.hid hv2
 have HC2 := Lib.hid (HX1.out.call k2 r2)
 clear r2 k2 hv2
 have c0 := HC2.out.cell 0
 have c1 := HC2.out.cell 1
 have c2 := HC2.out.cell 2
 have c3 := HC2.out.cell 3
 have c4 := HC2.out.cell 4
 simp only [List.getElem?_toArray,List.getElem?_cons_zero,List.getElem?_cons_succ] at c0 c1 c2 c3 c4
 have z1 := HC2.out.fz 1
 have z2 := HC2.out.fz 2
 have z3 := HC2.out.fz 3
 have HX2 : Hid (Rx w (((w2.setCell ⟨w.heap.size + 1,1,none⟩ (.int .i64 a2.1)).setCell ⟨w.heap.size + 1,2,none⟩ (.int .i64 a2.2.1)).setCell ⟨w.heap.size + 1,3,none⟩ (.int .i64 a2.2.2)) p ao n cap bs s2 63 #[.string ⟨#[]⟩,.int .i64 0,.int .i64 0,.int .i64 0,.int .i64 0] #[.string a1,.int .i64 a2.1,.int .i64 a2.2.1,.int .i64 a2.2.2,.int .i64 0]) := Lib.hid (((HC2.out.set 1 (.int .i64 a2.1)).set 2 (.int .i64 a2.2.1)).set 3 (.int .i64 a2.2.2))
 obtain ⟨u2,hu2⟩ : ∃ u,(((w2.setCell ⟨w.heap.size + 1,1,none⟩ (.int .i64 a2.1)).setCell ⟨w.heap.size + 1,2,none⟩ (.int .i64 a2.2.1)).setCell ⟨w.heap.size + 1,3,none⟩ (.int .i64 a2.2.2)) = u := ⟨_,rfl⟩
 rw [hu2] at HX2
 go_wp2_with fail
 clear hu2 c0 c1 c2 c3 c4 z1 z2 z3
 refine (rd_num p ao n cap bs s2 u2 HX2.out.rd).mono ?_
 rintro e w3 ⟨rfl,r3,k3⟩
 obtain ⟨a3,s3,hv3⟩ : ∃ a s',rNum bs s2 = (a,s') := ⟨_,_,rfl⟩
 rw [hv3] at r3 ⊢
 dsimp only at r3 ⊢
 have HV3 := Lib.hid hv3
 have HC3 := Lib.hid (HX2.out.call k3 r3)
 clear r3 k3 hv3
 have c0 := HC3.out.cell 0
 have c1 := HC3.out.cell 1
 have c2 := HC3.out.cell 2
 have c3 := HC3.out.cell 3
 have c4 := HC3.out.cell 4
 simp only [List.getElem?_toArray,List.getElem?_cons_zero,List.getElem?_cons_succ] at c0 c1 c2 c3 c4
 have z4 := HC3.out.fz 4
 have HX3 : Hid (Rx w (w3.setCell ⟨w.heap.size + 1,4,none⟩ (.int .i64 a3)) p ao n cap bs s3 63 #[.string ⟨#[]⟩,.int .i64 0,.int .i64 0,.int .i64 0,.int .i64 0] #[.string a1,.int .i64 a2.1,.int .i64 a2.2.1,.int .i64 a2.2.2,.int .i64 a3]) := Lib.hid (HC3.out.set 4 (.int .i64 a3))
 obtain ⟨u3,hu3⟩ : ∃ u,(w3.setCell ⟨w.heap.size + 1,4,none⟩ (.int .i64 a3)) = u := ⟨_,rfl⟩
 rw [hu3] at HX3
 have x0 := HX3.out.cell 0
 have x1 := HX3.out.cell 1
 have x2 := HX3.out.cell 2
 have x3 := HX3.out.cell 3
 have x4 := HX3.out.cell 4
 have y0 := HX3.out.cell0 0
 have q0 := HX3.out.fz0 0
 have y1 := HX3.out.cell0 1
 have q1 := HX3.out.fz0 1
 have y2 := HX3.out.cell0 2
 have q2 := HX3.out.fz0 2
 have y3 := HX3.out.cell0 3
 have q3 := HX3.out.fz0 3
 have y4 := HX3.out.cell0 4
 have q4 := HX3.out.fz0 4
 simp only [List.getElem?_toArray,List.getElem?_cons_zero,List.getElem?_cons_succ] at x0 y0 x1 y1 x2 y2 x3 y3 x4 y4
 go_wp2_with fail
 clear hu3 c0 c1 c2 c3 c4 z4
 have HV : Hid (Im.rRate bs s = ((⟨a1,a2.1,a2.2.1,a2.2.2,a3⟩ : Vt.Rt),s3)) := Lib.hid (by
  unfold Im.rRate
  dsimp only
  rw [HV1.out]
  try dsimp only
  rw [HV2.out]
  try dsimp only
  rw [HV3.out]
  try dsimp only)
 refine bodyPost_ret (v := .agg #[.string a1,.int .i64 a2.1,.int .i64 a2.2.1,.int .i64 a2.2.2,.int .i64 a3]) (by simp [results,Tryz.results45,go_sem,y0,y1,y2,y3,y4]) rfl ⟨by rw [HV.out],?_,?_⟩
 ·
  rw [HV.out]
  exact (((((HX3.out.rd.other HX3.out.off0 _).other HX3.out.off0 _).other HX3.out.off0 _).other HX3.out.off0 _).other HX3.out.off0 _)
 · exact (((((HX3.out.upd.fresh (Nat.le_refl _) _).fresh (Nat.le_refl _) _).fresh (Nat.le_refl _) _).fresh (Nat.le_refl _) _).fresh (Nat.le_refl _) _)
set_option maxHeartbeats 2000000 in
theorem ird_series (p : Nat) (ao : Option Addr) (n cap : Nat) (bs : List UInt8) (s : St) (w : World) (hR : Rd w p ao n cap bs s) :
  Calls Tryz.prog 47 #[.pointer (some ⟨p,0,none⟩)] w fun e w' => e = .returned (.agg #[.string (Im.rSer bs s).1.name,.int .i64 (Im.rSer bs s).1.next,.int .i64 (Im.rSer bs s).1.limit,.bool (Im.rSer bs s).1.shut]) ∧ Rd w' p ao n cap bs (Im.rSer bs s).2 ∧ Upd w p w' := by
 have HX0 := Lib.hid (Rx.start hR #[.string ⟨#[]⟩,.int .i64 0,.int .i64 0,.bool false] 66)
 have hlt := cell_lt hR.c0
 have hnp : w.heap.size ≠ p := by omega
 have hnp1 : w.heap.size + 1 ≠ p := by omega
 obtain ⟨U,hU⟩ : ∃ U,(w.alloc (.cells #[.string ⟨#[]⟩,.int .i64 0,.int .i64 0,.bool false] 66)).alloc (.cells #[.string ⟨#[]⟩,.int .i64 0,.int .i64 0,.bool false] 66) = U := ⟨_,rfl⟩
 rw [hU] at HX0
 clear hR
 go_enter Tryz.func47,Tryz.ntmps47
 go_wp2_with fail
 clear hU
 refine (ird_text p ao n cap bs s U HX0.out.rd).mono ?_
 rintro e w1 ⟨rfl,r1,k1⟩
 obtain ⟨a1,s1,hv1⟩ : ∃ a s',rText bs 64 s = (a,s') := ⟨_,_,rfl⟩
 rw [hv1] at r1 ⊢
 dsimp only at r1 ⊢
 have HV1 := Lib.hid hv1
 have HC1 := Lib.hid (HX0.out.call k1 r1)
 clear r1 k1 hv1
 have c0 := HC1.out.cell 0
 have c1 := HC1.out.cell 1
 have c2 := HC1.out.cell 2
 have c3 := HC1.out.cell 3
 simp only [List.getElem?_toArray,List.getElem?_cons_zero,List.getElem?_cons_succ] at c0 c1 c2 c3
 have z0 := HC1.out.fz 0
 have HX1 : Hid (Rx w (w1.setCell ⟨w.heap.size + 1,0,none⟩ (.string a1)) p ao n cap bs s1 66 #[.string ⟨#[]⟩,.int .i64 0,.int .i64 0,.bool false] #[.string a1,.int .i64 0,.int .i64 0,.bool false]) := Lib.hid (HC1.out.set 0 (.string a1))
 obtain ⟨u1,hu1⟩ : ∃ u,(w1.setCell ⟨w.heap.size + 1,0,none⟩ (.string a1)) = u := ⟨_,rfl⟩
 rw [hu1] at HX1
 go_wp2_with fail
 clear hu1 c0 c1 c2 c3 z0
 refine (rd_num p ao n cap bs s1 u1 HX1.out.rd).mono ?_
 rintro e w2 ⟨rfl,r2,k2⟩
 obtain ⟨a2,s2,hv2⟩ : ∃ a s',rNum bs s1 = (a,s') := ⟨_,_,rfl⟩
 rw [hv2] at r2 ⊢
 dsimp only at r2 ⊢
 have HV2 := Lib.hid hv2
 have HC2 := Lib.hid (HX1.out.call k2 r2)
 clear r2 k2 hv2
 have c0 := HC2.out.cell 0
 have c1 := HC2.out.cell 1
 have c2 := HC2.out.cell 2
 have c3 := HC2.out.cell 3
 simp only [List.getElem?_toArray,List.getElem?_cons_zero,List.getElem?_cons_succ] at c0 c1 c2 c3
 have z2 := HC2.out.fz 2
 have HX2 : Hid (Rx w (w2.setCell ⟨w.heap.size + 1,2,none⟩ (.int .i64 a2)) p ao n cap bs s2 66 #[.string ⟨#[]⟩,.int .i64 0,.int .i64 0,.bool false] #[.string a1,.int .i64 0,.int .i64 a2,.bool false]) := Lib.hid (HC2.out.set 2 (.int .i64 a2))
 obtain ⟨u2,hu2⟩ : ∃ u,(w2.setCell ⟨w.heap.size + 1,2,none⟩ (.int .i64 a2)) = u := ⟨_,rfl⟩
 rw [hu2] at HX2
 go_wp2_with fail
 clear hu2 c0 c1 c2 c3 z2
 refine (rd_flag p ao n cap bs s2 u2 HX2.out.rd).mono ?_
 rintro e w3 ⟨rfl,r3,k3⟩
 obtain ⟨a3,s3,hv3⟩ : ∃ a s',Im.rFlag bs s2 = (a,s') := ⟨_,_,rfl⟩
 rw [hv3] at r3 ⊢
 dsimp only at r3 ⊢
 have HV3 := Lib.hid hv3
 have HC3 := Lib.hid (HX2.out.call k3 r3)
 clear r3 k3 hv3
 have c0 := HC3.out.cell 0
 have c1 := HC3.out.cell 1
 have c2 := HC3.out.cell 2
 have c3 := HC3.out.cell 3
 simp only [List.getElem?_toArray,List.getElem?_cons_zero,List.getElem?_cons_succ] at c0 c1 c2 c3
 have z3 := HC3.out.fz 3
 have HX3 : Hid (Rx w (w3.setCell ⟨w.heap.size + 1,3,none⟩ (.bool a3)) p ao n cap bs s3 66 #[.string ⟨#[]⟩,.int .i64 0,.int .i64 0,.bool false] #[.string a1,.int .i64 0,.int .i64 a2,.bool a3]) := Lib.hid (HC3.out.set 3 (.bool a3))
 obtain ⟨u3,hu3⟩ : ∃ u,(w3.setCell ⟨w.heap.size + 1,3,none⟩ (.bool a3)) = u := ⟨_,rfl⟩
 rw [hu3] at HX3
 have x0 := HX3.out.cell 0
 have x1 := HX3.out.cell 1
 have x2 := HX3.out.cell 2
 have x3 := HX3.out.cell 3
 have y0 := HX3.out.cell0 0
 have q0 := HX3.out.fz0 0
 have y1 := HX3.out.cell0 1
 have q1 := HX3.out.fz0 1
 have y2 := HX3.out.cell0 2
 have q2 := HX3.out.fz0 2
 have y3 := HX3.out.cell0 3
 have q3 := HX3.out.fz0 3
 simp only [List.getElem?_toArray,List.getElem?_cons_zero,List.getElem?_cons_succ] at x0 y0 x1 y1 x2 y2 x3 y3
 go_wp2_with fail
 clear hu3 c0 c1 c2 c3 z3
 have HV : Hid (Im.rSer bs s = ((⟨a1,0,a2,a3⟩ : Sr.T),s3)) := Lib.hid (by
  unfold Im.rSer
  dsimp only
  rw [HV1.out]
  try dsimp only
  rw [HV2.out]
  try dsimp only
  rw [HV3.out]
  try dsimp only)
 refine bodyPost_ret (v := .agg #[.string a1,.int .i64 0,.int .i64 a2,.bool a3]) (by simp [results,Tryz.results47,go_sem,y0,y1,y2,y3]) rfl ⟨by rw [HV.out],?_,?_⟩
 ·
  rw [HV.out]
  exact ((((HX3.out.rd.other HX3.out.off0 _).other HX3.out.off0 _).other HX3.out.off0 _).other HX3.out.off0 _)
 · exact ((((HX3.out.upd.fresh (Nat.le_refl _) _).fresh (Nat.le_refl _) _).fresh (Nat.le_refl _) _).fresh (Nat.le_refl _) _)
set_option maxHeartbeats 2000000 in
theorem ird_part (p : Nat) (ao : Option Addr) (n cap : Nat) (bs : List UInt8) (s : St) (w : World) (hR : Rd w p ao n cap bs s) :
  Calls Tryz.prog 94 #[.pointer (some ⟨p,0,none⟩)] w fun e w' => e = .returned (.agg #[.string (Im.rPart bs s).1.cat,.int .i64 (Im.rPart bs s).1.bp,.int .i64 (Im.rPart bs s).1.net,.int .i64 (Im.rPart bs s).1.tax]) ∧ Rd w' p ao n cap bs (Im.rPart bs s).2 ∧ Upd w p w' := by
 have HX0 := Lib.hid (Rx.start hR #[.string ⟨#[]⟩,.int .i64 0,.int .i64 0,.int .i64 0] 134)
 have hlt := cell_lt hR.c0
 have hnp : w.heap.size ≠ p := by omega
 have hnp1 : w.heap.size + 1 ≠ p := by omega
 obtain ⟨U,hU⟩ : ∃ U,(w.alloc (.cells #[.string ⟨#[]⟩,.int .i64 0,.int .i64 0,.int .i64 0] 134)).alloc (.cells #[.string ⟨#[]⟩,.int .i64 0,.int .i64 0,.int .i64 0] 134) = U := ⟨_,rfl⟩
 rw [hU] at HX0
 clear hR
 go_enter Tryz.func94,Tryz.ntmps94
 go_wp2_with fail
 clear hU
 refine (ird_text p ao n cap bs s U HX0.out.rd).mono ?_
 rintro e w1 ⟨rfl,r1,k1⟩
 obtain ⟨a1,s1,hv1⟩ : ∃ a s',rText bs 64 s = (a,s') := ⟨_,_,rfl⟩
 rw [hv1] at r1 ⊢
 dsimp only at r1 ⊢
 have HV1 := Lib.hid hv1
 have HC1 := Lib.hid (HX0.out.call k1 r1)
 clear r1 k1 hv1
 have c0 := HC1.out.cell 0
 have c1 := HC1.out.cell 1
 have c2 := HC1.out.cell 2
 have c3 := HC1.out.cell 3
 simp only [List.getElem?_toArray,List.getElem?_cons_zero,List.getElem?_cons_succ] at c0 c1 c2 c3
 have z0 := HC1.out.fz 0
 have HX1 : Hid (Rx w (w1.setCell ⟨w.heap.size + 1,0,none⟩ (.string a1)) p ao n cap bs s1 134 #[.string ⟨#[]⟩,.int .i64 0,.int .i64 0,.int .i64 0] #[.string a1,.int .i64 0,.int .i64 0,.int .i64 0]) := Lib.hid (HC1.out.set 0 (.string a1))
 obtain ⟨u1,hu1⟩ : ∃ u,(w1.setCell ⟨w.heap.size + 1,0,none⟩ (.string a1)) = u := ⟨_,rfl⟩
 rw [hu1] at HX1
 go_wp2_with fail
 clear hu1 c0 c1 c2 c3 z0
 refine (rd_num p ao n cap bs s1 u1 HX1.out.rd).mono ?_
 rintro e w2 ⟨rfl,r2,k2⟩
 obtain ⟨a2,s2,hv2⟩ : ∃ a s',rNum bs s1 = (a,s') := ⟨_,_,rfl⟩
 rw [hv2] at r2 ⊢
 dsimp only at r2 ⊢
 have HV2 := Lib.hid hv2
 have HC2 := Lib.hid (HX1.out.call k2 r2)
 clear r2 k2 hv2
 have c0 := HC2.out.cell 0
 have c1 := HC2.out.cell 1
 have c2 := HC2.out.cell 2
 have c3 := HC2.out.cell 3
 simp only [List.getElem?_toArray,List.getElem?_cons_zero,List.getElem?_cons_succ] at c0 c1 c2 c3
 have z1 := HC2.out.fz 1
 have HX2 : Hid (Rx w (w2.setCell ⟨w.heap.size + 1,1,none⟩ (.int .i64 a2)) p ao n cap bs s2 134 #[.string ⟨#[]⟩,.int .i64 0,.int .i64 0,.int .i64 0] #[.string a1,.int .i64 a2,.int .i64 0,.int .i64 0]) := Lib.hid (HC2.out.set 1 (.int .i64 a2))
 obtain ⟨u2,hu2⟩ : ∃ u,(w2.setCell ⟨w.heap.size + 1,1,none⟩ (.int .i64 a2)) = u := ⟨_,rfl⟩
 rw [hu2] at HX2
 go_wp2_with fail
 clear hu2 c0 c1 c2 c3 z1
 refine (rd_num p ao n cap bs s2 u2 HX2.out.rd).mono ?_
 rintro e w3 ⟨rfl,r3,k3⟩
 obtain ⟨a3,s3,hv3⟩ : ∃ a s',rNum bs s2 = (a,s') := ⟨_,_,rfl⟩
 rw [hv3] at r3 ⊢
 dsimp only at r3 ⊢
 have HV3 := Lib.hid hv3
 have HC3 := Lib.hid (HX2.out.call k3 r3)
 clear r3 k3 hv3
 have c0 := HC3.out.cell 0
 have c1 := HC3.out.cell 1
 have c2 := HC3.out.cell 2
 have c3 := HC3.out.cell 3
 simp only [List.getElem?_toArray,List.getElem?_cons_zero,List.getElem?_cons_succ] at c0 c1 c2 c3
 have z2 := HC3.out.fz 2
 have HX3 : Hid (Rx w (w3.setCell ⟨w.heap.size + 1,2,none⟩ (.int .i64 a3)) p ao n cap bs s3 134 #[.string ⟨#[]⟩,.int .i64 0,.int .i64 0,.int .i64 0] #[.string a1,.int .i64 a2,.int .i64 a3,.int .i64 0]) := Lib.hid (HC3.out.set 2 (.int .i64 a3))
 obtain ⟨u3,hu3⟩ : ∃ u,(w3.setCell ⟨w.heap.size + 1,2,none⟩ (.int .i64 a3)) = u := ⟨_,rfl⟩
 rw [hu3] at HX3
 have x0 := HX3.out.cell 0
 have x1 := HX3.out.cell 1
 have x2 := HX3.out.cell 2
 have x3 := HX3.out.cell 3
 have y0 := HX3.out.cell0 0
 have q0 := HX3.out.fz0 0
 have y1 := HX3.out.cell0 1
 have q1 := HX3.out.fz0 1
 have y2 := HX3.out.cell0 2
 have q2 := HX3.out.fz0 2
 have y3 := HX3.out.cell0 3
 have q3 := HX3.out.fz0 3
 simp only [List.getElem?_toArray,List.getElem?_cons_zero,List.getElem?_cons_succ] at x0 y0 x1 y1 x2 y2 x3 y3
 go_wp2_with fail
 clear hu3 c0 c1 c2 c3 z2
 have HV : Hid (Im.rPart bs s = ((⟨a1,a2,a3,0⟩ : Pt.T),s3)) := Lib.hid (by
  unfold Im.rPart
  dsimp only
  rw [HV1.out]
  try dsimp only
  rw [HV2.out]
  try dsimp only
  rw [HV3.out]
  try dsimp only)
 refine bodyPost_ret (v := .agg #[.string a1,.int .i64 a2,.int .i64 a3,.int .i64 0]) (by simp [results,Tryz.results94,go_sem,y0,y1,y2,y3]) rfl ⟨by rw [HV.out],?_,?_⟩
 ·
  rw [HV.out]
  exact ((((HX3.out.rd.other HX3.out.off0 _).other HX3.out.off0 _).other HX3.out.off0 _).other HX3.out.off0 _)
 · exact ((((HX3.out.upd.fresh (Nat.le_refl _) _).fresh (Nat.le_refl _) _).fresh (Nat.le_refl _) _).fresh (Nat.le_refl _) _)
set_option maxHeartbeats 2000000 in
theorem ird_sess (p : Nat) (ao : Option Addr) (n cap : Nat) (bs : List UInt8) (s : St) (w : World) (hR : Rd w p ao n cap bs s) :
  Calls Tryz.prog 51 #[.pointer (some ⟨p,0,none⟩)] w fun e w' => e = .returned (.agg #[.int .i64 (Im.rSess bs s).1.id,.int .i64 (Im.rSess bs s).1.last,.int .i64 (Im.rSess bs s).1.why,.int .i64 (Im.rSess bs s).1.num,.int .i64 (Im.rSess bs s).1.gross]) ∧ Rd w' p ao n cap bs (Im.rSess bs s).2 ∧ Upd w p w' := by
 have HX0 := Lib.hid (Rx.start hR #[.int .i64 0,.int .i64 0,.int .i64 0,.int .i64 0,.int .i64 0] 73)
 have hlt := cell_lt hR.c0
 have hnp : w.heap.size ≠ p := by omega
 have hnp1 : w.heap.size + 1 ≠ p := by omega
 obtain ⟨U,hU⟩ : ∃ U,(w.alloc (.cells #[.int .i64 0,.int .i64 0,.int .i64 0,.int .i64 0,.int .i64 0] 73)).alloc (.cells #[.int .i64 0,.int .i64 0,.int .i64 0,.int .i64 0,.int .i64 0] 73) = U := ⟨_,rfl⟩
 rw [hU] at HX0
 clear hR
 go_enter Tryz.func51,Tryz.ntmps51
 go_wp2_with fail
 clear hU
 refine (rd_num p ao n cap bs s U HX0.out.rd).mono ?_
 rintro e w1 ⟨rfl,r1,k1⟩
 obtain ⟨a1,s1,hv1⟩ : ∃ a s',rNum bs s = (a,s') := ⟨_,_,rfl⟩
 rw [hv1] at r1 ⊢
 dsimp only at r1 ⊢
 have HV1 := Lib.hid hv1
 have HC1 := Lib.hid (HX0.out.call k1 r1)
 clear r1 k1 hv1
 have c0 := HC1.out.cell 0
 have c1 := HC1.out.cell 1
 have c2 := HC1.out.cell 2
 have c3 := HC1.out.cell 3
 have c4 := HC1.out.cell 4
 simp only [List.getElem?_toArray,List.getElem?_cons_zero,List.getElem?_cons_succ] at c0 c1 c2 c3 c4
 have z0 := HC1.out.fz 0
 have HX1 : Hid (Rx w (w1.setCell ⟨w.heap.size + 1,0,none⟩ (.int .i64 a1)) p ao n cap bs s1 73 #[.int .i64 0,.int .i64 0,.int .i64 0,.int .i64 0,.int .i64 0] #[.int .i64 a1,.int .i64 0,.int .i64 0,.int .i64 0,.int .i64 0]) := Lib.hid (HC1.out.set 0 (.int .i64 a1))
 obtain ⟨u1,hu1⟩ : ∃ u,(w1.setCell ⟨w.heap.size + 1,0,none⟩ (.int .i64 a1)) = u := ⟨_,rfl⟩
 rw [hu1] at HX1
 go_wp2_with fail
 clear hu1 c0 c1 c2 c3 c4 z0
 refine (rd_num p ao n cap bs s1 u1 HX1.out.rd).mono ?_
 rintro e w2 ⟨rfl,r2,k2⟩
 obtain ⟨a2,s2,hv2⟩ : ∃ a s',rNum bs s1 = (a,s') := ⟨_,_,rfl⟩
 rw [hv2] at r2 ⊢
 dsimp only at r2 ⊢
 have HV2 := Lib.hid hv2
 have HC2 := Lib.hid (HX1.out.call k2 r2)
 clear r2 k2 hv2
 have c0 := HC2.out.cell 0
 have c1 := HC2.out.cell 1
 have c2 := HC2.out.cell 2
 have c3 := HC2.out.cell 3
 have c4 := HC2.out.cell 4
 simp only [List.getElem?_toArray,List.getElem?_cons_zero,List.getElem?_cons_succ] at c0 c1 c2 c3 c4
 have z1 := HC2.out.fz 1
 have HX2 : Hid (Rx w (w2.setCell ⟨w.heap.size + 1,1,none⟩ (.int .i64 a2)) p ao n cap bs s2 73 #[.int .i64 0,.int .i64 0,.int .i64 0,.int .i64 0,.int .i64 0] #[.int .i64 a1,.int .i64 a2,.int .i64 0,.int .i64 0,.int .i64 0]) := Lib.hid (HC2.out.set 1 (.int .i64 a2))
 obtain ⟨u2,hu2⟩ : ∃ u,(w2.setCell ⟨w.heap.size + 1,1,none⟩ (.int .i64 a2)) = u := ⟨_,rfl⟩
 rw [hu2] at HX2
 go_wp2_with fail
 clear hu2 c0 c1 c2 c3 c4 z1
 refine (rd_num p ao n cap bs s2 u2 HX2.out.rd).mono ?_
 rintro e w3 ⟨rfl,r3,k3⟩
 obtain ⟨a3,s3,hv3⟩ : ∃ a s',rNum bs s2 = (a,s') := ⟨_,_,rfl⟩
 rw [hv3] at r3 ⊢
 dsimp only at r3 ⊢
 have HV3 := Lib.hid hv3
 have HC3 := Lib.hid (HX2.out.call k3 r3)
 clear r3 k3 hv3
 have c0 := HC3.out.cell 0
 have c1 := HC3.out.cell 1
 have c2 := HC3.out.cell 2
 have c3 := HC3.out.cell 3
 have c4 := HC3.out.cell 4
 simp only [List.getElem?_toArray,List.getElem?_cons_zero,List.getElem?_cons_succ] at c0 c1 c2 c3 c4
 have z2 := HC3.out.fz 2
 have HX3 : Hid (Rx w (w3.setCell ⟨w.heap.size + 1,2,none⟩ (.int .i64 a3)) p ao n cap bs s3 73 #[.int .i64 0,.int .i64 0,.int .i64 0,.int .i64 0,.int .i64 0] #[.int .i64 a1,.int .i64 a2,.int .i64 a3,.int .i64 0,.int .i64 0]) := Lib.hid (HC3.out.set 2 (.int .i64 a3))
 obtain ⟨u3,hu3⟩ : ∃ u,(w3.setCell ⟨w.heap.size + 1,2,none⟩ (.int .i64 a3)) = u := ⟨_,rfl⟩
 rw [hu3] at HX3
 go_wp2_with fail
 clear hu3 c0 c1 c2 c3 c4 z2
 refine (rd_num p ao n cap bs s3 u3 HX3.out.rd).mono ?_
 rintro e w4 ⟨rfl,r4,k4⟩
 obtain ⟨a4,s4,hv4⟩ : ∃ a s',rNum bs s3 = (a,s') := ⟨_,_,rfl⟩
 rw [hv4] at r4 ⊢
 dsimp only at r4 ⊢
 have HV4 := Lib.hid hv4
 have HC4 := Lib.hid (HX3.out.call k4 r4)
 clear r4 k4 hv4
 have c0 := HC4.out.cell 0
 have c1 := HC4.out.cell 1
 have c2 := HC4.out.cell 2
 have c3 := HC4.out.cell 3
 have c4 := HC4.out.cell 4
 simp only [List.getElem?_toArray,List.getElem?_cons_zero,List.getElem?_cons_succ] at c0 c1 c2 c3 c4
 have z3 := HC4.out.fz 3
 have HX4 : Hid (Rx w (w4.setCell ⟨w.heap.size + 1,3,none⟩ (.int .i64 a4)) p ao n cap bs s4 73 #[.int .i64 0,.int .i64 0,.int .i64 0,.int .i64 0,.int .i64 0] #[.int .i64 a1,.int .i64 a2,.int .i64 a3,.int .i64 a4,.int .i64 0]) := Lib.hid (HC4.out.set 3 (.int .i64 a4))
 obtain ⟨u4,hu4⟩ : ∃ u,(w4.setCell ⟨w.heap.size + 1,3,none⟩ (.int .i64 a4)) = u := ⟨_,rfl⟩
 rw [hu4] at HX4
 go_wp2_with fail
 clear hu4 c0 c1 c2 c3 c4 z3
 refine (rd_num p ao n cap bs s4 u4 HX4.out.rd).mono ?_
 rintro e w5 ⟨rfl,r5,k5⟩
 obtain ⟨a5,s5,hv5⟩ : ∃ a s',rNum bs s4 = (a,s') := ⟨_,_,rfl⟩
 rw [hv5] at r5 ⊢
 dsimp only at r5 ⊢
 have HV5 := Lib.hid hv5
 have HC5 := Lib.hid (HX4.out.call k5 r5)
 clear r5 k5 hv5
 have c0 := HC5.out.cell 0
 have c1 := HC5.out.cell 1
 have c2 := HC5.out.cell 2
 have c3 := HC5.out.cell 3
 have c4 := HC5.out.cell 4
 simp only [List.getElem?_toArray,List.getElem?_cons_zero,List.getElem?_cons_succ] at c0 c1 c2 c3 c4
 have z4 := HC5.out.fz 4
 have HX5 : Hid (Rx w (w5.setCell ⟨w.heap.size + 1,4,none⟩ (.int .i64 a5)) p ao n cap bs s5 73 #[.int .i64 0,.int .i64 0,.int .i64 0,.int .i64 0,.int .i64 0] #[.int .i64 a1,.int .i64 a2,.int .i64 a3,.int .i64 a4,.int .i64 a5]) := Lib.hid (HC5.out.set 4 (.int .i64 a5))
 obtain ⟨u5,hu5⟩ : ∃ u,(w5.setCell ⟨w.heap.size + 1,4,none⟩ (.int .i64 a5)) = u := ⟨_,rfl⟩
 rw [hu5] at HX5
 have x0 := HX5.out.cell 0
 have x1 := HX5.out.cell 1
 have x2 := HX5.out.cell 2
 have x3 := HX5.out.cell 3
 have x4 := HX5.out.cell 4
 have y0 := HX5.out.cell0 0
 have q0 := HX5.out.fz0 0
 have y1 := HX5.out.cell0 1
 have q1 := HX5.out.fz0 1
 have y2 := HX5.out.cell0 2
 have q2 := HX5.out.fz0 2
 have y3 := HX5.out.cell0 3
 have q3 := HX5.out.fz0 3
 have y4 := HX5.out.cell0 4
 have q4 := HX5.out.fz0 4
 simp only [List.getElem?_toArray,List.getElem?_cons_zero,List.getElem?_cons_succ] at x0 y0 x1 y1 x2 y2 x3 y3 x4 y4
 go_wp2_with fail
 clear hu5 c0 c1 c2 c3 c4 z4
 have HV : Hid (Im.rSess bs s = ((⟨a1,a2,a3,a4,a5⟩ : Sn.T),s5)) := Lib.hid (by
  unfold Im.rSess
  dsimp only
  rw [HV1.out]
  try dsimp only
  rw [HV2.out]
  try dsimp only
  rw [HV3.out]
  try dsimp only
  rw [HV4.out]
  try dsimp only
  rw [HV5.out]
  try dsimp only)
 refine bodyPost_ret (v := .agg #[.int .i64 a1,.int .i64 a2,.int .i64 a3,.int .i64 a4,.int .i64 a5]) (by simp [results,Tryz.results51,go_sem,y0,y1,y2,y3,y4]) rfl ⟨by rw [HV.out],?_,?_⟩
 ·
  rw [HV.out]
  exact (((((HX5.out.rd.other HX5.out.off0 _).other HX5.out.off0 _).other HX5.out.off0 _).other HX5.out.off0 _).other HX5.out.off0 _)
 · exact (((((HX5.out.upd.fresh (Nat.le_refl _) _).fresh (Nat.le_refl _) _).fresh (Nat.le_refl _) _).fresh (Nat.le_refl _) _).fresh (Nat.le_refl _) _)
end Go.Proofs.YtillcleccjgocaaGreat
namespace Go.Proofs.YtillcleccjgocaaGreat
open Go.RowKit
open Mem Pk Cm
theorem Im.items_snoc {α : Type} (f : St → α × St) : ∀ (k : Nat) (s : St),(Im.rItems f (k + 1) s).1 = (Im.rItems f k s).1 ++ [(f (Im.rItems f k s).2).1] ∧ (Im.rItems f (k + 1) s).2 = (f (Im.rItems f k s).2).2
 | 0,s => ⟨rfl,rfl⟩
 | k + 1,s => by
  obtain ⟨h1,h2⟩ := Im.items_snoc f k (f s).2
  rw [Im.rItems,h1,h2,Im.rItems]
  exact ⟨rfl,rfl⟩
theorem rows_upd {w u : World} {p B e k : Nat} {v : Value} {n : Nat} {xs : List Value} (h : w.ownsRow B e k v n xs) (q : Upd w p u) (hp : p < B) : u.ownsRow B e k v n xs := by
 obtain ⟨h1,h2⟩ := h
 refine ⟨h1,?_⟩
 rcases h2 with h2 | ⟨g,cap,cur,h',hb,hg,h3⟩
 · exact .inl h2
 · exact .inr ⟨g,cap,cur,h',hb,(q.block g (Array.getElem?_eq_some_iff.1 hg).1 (by omega)).trans hg,h3⟩
theorem rows_slice {w : World} {B e k : Nat} {v : Value} {n : Nat} {xs : List Value} (h : w.ownsRow B e k v n xs) : ∃ ao cap,v = .slice ao n cap := by
 rcases h.2 with ⟨h',h2⟩ | ⟨g',cap',cur,h',_⟩
 · exact ⟨none,0,by rw [h',h2]⟩
 · exact ⟨_,_,h'⟩
theorem Upd.grown {w u v : World} {p : Nat} {row : Option Nat} (h : Upd w p u) (gr : u.grownBy v row) (hr : ∀ k,row = some k → w.heap.size ≤ k ∧ k < u.heap.size) : Upd w p v := by
 refine ⟨Nat.le_trans h.size gr.size,fun b o hb hp => ?_,fun b o hb => ?_,fun w0 a c => ?_,fun b hb hp => ?_⟩
 · rw [World.cell?_of_block (gr.block b (Nat.lt_of_lt_of_le hb h.size) (fun e => by have := (hr b e.symm).1; omega)),h.cell b o hb hp]
 · rw [World.frozen?_of_block (gr.block b (Nat.lt_of_lt_of_le hb h.size) (fun e => by have := (hr b e.symm).1; omega)),h.frozen b o hb]
 ·
  have hb := h.below w0 a c
  exact hb.grown gr hb.size (fun k e => by have := (hr k e).1; have := a.size; omega)
 · rw [gr.block b (Nat.lt_of_lt_of_le hb h.size) (fun e => by have := (hr b e.symm).1; omega),h.block b hb hp]
theorem Rd.grown {u v : World} {p n cap : Nat} {ao : Option Addr} {bs : List UInt8} {s : St} {row : Option Nat} (h : Rd u p ao n cap bs s) (gr : u.grownBy v row) (k : ∀ q,row = some q → Off p q n ao) : Rd v p ao n cap bs s := by
 have hl := cell_lt h.c0
 have hb : v.heap[p]? = u.heap[p]? := gr.block p hl (fun e => (k p e.symm).ne rfl)
 refine ⟨(World.cell?_of_block hb).trans h.c0,(World.cell?_of_block hb).trans h.c1,(World.cell?_of_block hb).trans h.c2,fun o => (World.frozen?_of_block hb).trans (h.fz o),?_,h.apart,h.place⟩
 refine ⟨h.ls.len,h.ls.fits,h.ls.reach,h.ls.nil,?_⟩
 rcases h.ls.seg with e | ⟨b,off,e,hc⟩
 · exact .inl e
 ·
  refine .inr ⟨b,off,e,fun i hi => ?_⟩
  have h0 := hc i hi
  have hn : 0 < n := by rw [h.ls.len]; omega
  exact (World.cell?_of_block (gr.block b (cell_lt h0) (fun z => (k b z.symm).bytes hn b off e rfl))).trans h0
structure Ri (w u : World) (p : Nat) (ao : Option Addr) (n cap : Nat) (bs : List UInt8) (s : St) : Prop where
 rd : Rd u p ao n cap bs s
 upd : Upd w p u
 off : ∀ q,w.heap.size ≤ q → Off p q n ao
 lt : p < w.heap.size
section
variable {w u v : World} {p n cap : Nat} {ao : Option Addr} {bs : List UInt8} {s s' : St}
theorem Ri.start (h : Rd w p ao n cap bs s) : Ri w w p ao n cap bs s := ⟨h,Upd.refl w p,fun q hq => h.off hq,cell_lt h.c0⟩
theorem Ri.call (h : Ri w u p ao n cap bs s) (r : Rd v p ao n cap bs s') (k : Upd u p v) : Ri w v p ao n cap bs s' := ⟨r,h.upd.trans k,h.off,h.lt⟩
theorem Ri.app (h : Ri w u p ao n cap bs s) {row : Option Nat} (o : Obj) (gr : (u.alloc o).grownBy v row) (hr : ∀ k,row = some k → w.heap.size ≤ k ∧ k < u.heap.size) : Ri w v p ao n cap bs s := by
 have hb : Below u.heap.size u (u.alloc o) := (Below.refl _ _).alloc (Nat.le_refl _) o
 have hU : Upd w p (u.alloc o) := h.upd.trans (Upd.of p hb)
 exact ⟨(h.rd.below hb).grown gr fun q e => h.off q (hr q e).1,hU.grown gr fun k e => ⟨(hr k e).1,Nat.lt_of_lt_of_le (hr k e).2 hb.size⟩,h.off,h.lt⟩
end
theorem Im.count_most (bs : List UInt8) (most : Int) (s : St) : (rCount bs most s).1 ≤ most ∨ (rCount bs most s).1 = 0 := by
 unfold rCount
 split
 · exact .inr rfl
 ·
  unfold rWithin
  split
  · exact .inr rfl
  ·
   split
   · exact .inr rfl
   ·
    rename_i h
    exact .inl (by omega)
set_option maxHeartbeats 2000000 in
theorem ird_itemsSr (p : Nat) (ao : Option Addr) (n cap : Nat) (bs : List UInt8) (most : Int) (s : St) (w : World) (hR : Rd w p ao n cap bs s) (hm : most ≤ 1000) :
  Calls Tryz.prog 46 #[.pointer (some ⟨p,0,none⟩),.int .i64 most,.func (.func 47) #[] #[]] w fun e w' => ∃ v,e = .returned v ∧ Sr.Own w' w.heap.size v (Im.rList bs most (Im.rSer bs) s).1 ∧ Rd w' p ao n cap bs (Im.rList bs most (Im.rSer bs) s).2 ∧ Upd w p w' := by
 have HI0 := Lib.hid (Ri.start hR)
 have HM := Lib.hid hm
 clear hR hm
 go_enter Tryz.func46,Tryz.ntmps46
 go_wp2_with fail
 refine (rd_count p ao n cap bs most s w HI0.out.rd).mono ?_
 rintro e w1 ⟨rfl,r1,k1⟩
 have HP := Lib.hid (rCount_pos bs most s)
 have HMx : Hid ((rCount bs most s).1 ≤ 1000) := Lib.hid (by have h := Im.count_most bs most s; have h2 := HM.out; rcases h with h | h <;> omega)
 obtain ⟨c,s1,hv⟩ : ∃ c s1,rCount bs most s = (c,s1) := ⟨_,_,rfl⟩
 have HV := Lib.hid hv
 rw [hv] at r1 HP HMx ⊢
 dsimp only at r1 HP HMx ⊢
 obtain ⟨N,hN⟩ : ∃ N : Nat,c = (N : Int) := ⟨c.toNat,by have := HP.out; omega⟩
 subst hN
 have HI1 := Lib.hid (HI0.out.call r1 k1)
 have hN1 : N ≤ 1000 := by have := HMx.out; omega
 clear r1 k1 hv
 go_wp2_with fail
 go_loopw [7,11] (fun t j wr => ∃ (k : Nat) (vo : Option Addr) (q vc : Nat),k ≤ N ∧ j = .int .i64 k ∧ t = .slice vo q vc ∧ Hid (Ri w wr p ao n cap bs (Im.rItems (Im.rSer bs) k s1).2) ∧ Hid (Sr.Own wr w.heap.size (.slice vo q vc) (Im.rItems (Im.rSer bs) k s1).1)) (fun _ j _ => N - (intOf j).toNat)
 case atStart => exact ⟨0,none,0,0,by omega,rfl,rfl,HI1,Lib.hid (Sr.own_nil _ _)⟩
 case round =>
  clear HI1
  rename World => wz
  obtain ⟨k,vo,q,vc,hk,rfl,rfl,HI,HO⟩ := hrel
  by_cases hlt : k < N
  ·
   have HSn := Lib.hid (Im.items_snoc (Im.rSer bs) k s1)
   have HLn := Lib.hid (Im.rItems_len (Im.rSer bs) k s1)
   generalize Im.rItems (Im.rSer bs) k s1 = rk at HI HO HSn HLn
   obtain ⟨L,sk⟩ := rk
   dsimp only at HI HO HSn HLn
   go_wp2_with fail
   refine (ird_series p ao n cap bs sk wz HI.out.rd).mono ?_
   rintro e w2 ⟨rfl,r2,k2⟩
   have HI2 := Lib.hid (HI.out.call r2 k2)
   have HO2 := Lib.hid (rows_upd HO.out k2 (by have := HI.out.lt; omega))
   obtain ⟨r,hr⟩ : ∃ r,(Im.rSer bs sk).1 = r := ⟨_,rfl⟩
   rw [hr] at HSn ⊢
   clear r2 k2 hr HO
   go_wp2_with (at_builtin; go_must (refine Sr.wpList_append _ rfl (.tmp 13) (.tmp 17) rfl w.heap.size (.slice vo q vc) L rfl (Sr.own_alloc HO2.out _) (some ⟨w2.heap.size,0,none⟩) 1 1 [r] rfl rfl (fun h => by cases h) (Sr.seg_block (heap_alloc_new w2 _)) (by have := HLn.out; omega) (by have := HI2.out.upd.size; simp; omega) ?_))
   intro v3 w3 o3 gr3 _
   obtain ⟨va,vcp,hv3⟩ := rows_slice o3
   subst hv3
   have HI3 := Lib.hid (HI2.out.app _ gr3 (World.ownsRow.lt HO2.out))
   have HO3 := Lib.hid o3
   clear gr3 o3
   go_wp2_with fail
   go_roundw
   case rel =>
    refine ⟨k + 1,_,_,_,by omega,by go_num,rfl,Lib.hid ?_,Lib.hid ?_⟩
    ·
     rw [HSn.out.2]
     exact HI3.out
    ·
     rw [HSn.out.1]
     exact HO3.out
   case measure => simp [intOf]; omega
  ·
   obtain rfl : k = N := by omega
   have HE : Hid (Im.rList bs most (Im.rSer bs) s = Im.rItems (Im.rSer bs) k s1) := Lib.hid (by
    unfold Im.rList
    rw [HV.out]
    dsimp only
    rw [Int.toNat_natCast])
   go_wp2_with fail
   go_ret
   rw [HE.out]
   exact ⟨_,rfl,HO.out,HI.out.rd,HI.out.upd⟩
set_option maxHeartbeats 2000000 in
theorem ird_itemsPt (p : Nat) (ao : Option Addr) (n cap : Nat) (bs : List UInt8) (most : Int) (s : St) (w : World) (hR : Rd w p ao n cap bs s) (hm : most ≤ 1000) :
  Calls Tryz.prog 93 #[.pointer (some ⟨p,0,none⟩),.int .i64 most,.func (.func 94) #[] #[]] w fun e w' => ∃ v,e = .returned v ∧ Pt.Own w' w.heap.size v (Im.rList bs most (Im.rPart bs) s).1 ∧ Rd w' p ao n cap bs (Im.rList bs most (Im.rPart bs) s).2 ∧ Upd w p w' := by
 have HI0 := Lib.hid (Ri.start hR)
 have HM := Lib.hid hm
 clear hR hm
 go_enter Tryz.func93,Tryz.ntmps93
 go_wp2_with fail
 refine (rd_count p ao n cap bs most s w HI0.out.rd).mono ?_
 rintro e w1 ⟨rfl,r1,k1⟩
 have HP := Lib.hid (rCount_pos bs most s)
 have HMx : Hid ((rCount bs most s).1 ≤ 1000) := Lib.hid (by have h := Im.count_most bs most s; have h2 := HM.out; rcases h with h | h <;> omega)
 obtain ⟨c,s1,hv⟩ : ∃ c s1,rCount bs most s = (c,s1) := ⟨_,_,rfl⟩
 have HV := Lib.hid hv
 rw [hv] at r1 HP HMx ⊢
 dsimp only at r1 HP HMx ⊢
 obtain ⟨N,hN⟩ : ∃ N : Nat,c = (N : Int) := ⟨c.toNat,by have := HP.out; omega⟩
 subst hN
 have HI1 := Lib.hid (HI0.out.call r1 k1)
 have hN1 : N ≤ 1000 := by have := HMx.out; omega
 clear r1 k1 hv
 go_wp2_with fail
 go_loopw [7,11] (fun t j wr => ∃ (k : Nat) (vo : Option Addr) (q vc : Nat),k ≤ N ∧ j = .int .i64 k ∧ t = .slice vo q vc ∧ Hid (Ri w wr p ao n cap bs (Im.rItems (Im.rPart bs) k s1).2) ∧ Hid (Pt.Own wr w.heap.size (.slice vo q vc) (Im.rItems (Im.rPart bs) k s1).1)) (fun _ j _ => N - (intOf j).toNat)
 case atStart => exact ⟨0,none,0,0,by omega,rfl,rfl,HI1,Lib.hid (Pt.own_nil _ _)⟩
 case round =>
  clear HI1
  rename World => wz
  obtain ⟨k,vo,q,vc,hk,rfl,rfl,HI,HO⟩ := hrel
  by_cases hlt : k < N
  ·
   have HSn := Lib.hid (Im.items_snoc (Im.rPart bs) k s1)
   have HLn := Lib.hid (Im.rItems_len (Im.rPart bs) k s1)
   generalize Im.rItems (Im.rPart bs) k s1 = rk at HI HO HSn HLn
   obtain ⟨L,sk⟩ := rk
   dsimp only at HI HO HSn HLn
   go_wp2_with fail
   refine (ird_part p ao n cap bs sk wz HI.out.rd).mono ?_
   rintro e w2 ⟨rfl,r2,k2⟩
   have HI2 := Lib.hid (HI.out.call r2 k2)
   have HO2 := Lib.hid (rows_upd HO.out k2 (by have := HI.out.lt; omega))
   obtain ⟨r,hr⟩ : ∃ r,(Im.rPart bs sk).1 = r := ⟨_,rfl⟩
   rw [hr] at HSn ⊢
   clear r2 k2 hr HO
   go_wp2_with (at_builtin; go_must (refine Pt.wpList_append _ rfl (.tmp 13) (.tmp 17) rfl w.heap.size (.slice vo q vc) L rfl (Pt.own_alloc HO2.out _) (some ⟨w2.heap.size,0,none⟩) 1 1 [r] rfl rfl (fun h => by cases h) (Pt.seg_block (heap_alloc_new w2 _)) (by have := HLn.out; omega) (by have := HI2.out.upd.size; simp; omega) ?_))
   intro v3 w3 o3 gr3 _
   obtain ⟨va,vcp,hv3⟩ := rows_slice o3
   subst hv3
   have HI3 := Lib.hid (HI2.out.app _ gr3 (World.ownsRow.lt HO2.out))
   have HO3 := Lib.hid o3
   clear gr3 o3
   go_wp2_with fail
   go_roundw
   case rel =>
    refine ⟨k + 1,_,_,_,by omega,by go_num,rfl,Lib.hid ?_,Lib.hid ?_⟩
    ·
     rw [HSn.out.2]
     exact HI3.out
    ·
     rw [HSn.out.1]
     exact HO3.out
   case measure => simp [intOf]; omega
  ·
   obtain rfl : k = N := by omega
   have HE : Hid (Im.rList bs most (Im.rPart bs) s = Im.rItems (Im.rPart bs) k s1) := Lib.hid (by
    unfold Im.rList
    rw [HV.out]
    dsimp only
    rw [Int.toNat_natCast])
   go_wp2_with fail
   go_ret
   rw [HE.out]
   exact ⟨_,rfl,HO.out,HI.out.rd,HI.out.upd⟩
set_option maxHeartbeats 2000000 in
theorem ird_itemsSn (p : Nat) (ao : Option Addr) (n cap : Nat) (bs : List UInt8) (most : Int) (s : St) (w : World) (hR : Rd w p ao n cap bs s) (hm : most ≤ 1000) :
  Calls Tryz.prog 50 #[.pointer (some ⟨p,0,none⟩),.int .i64 most,.func (.func 51) #[] #[]] w fun e w' => ∃ v,e = .returned v ∧ Sn.Own w' w.heap.size v (Im.rList bs most (Im.rSess bs) s).1 ∧ Rd w' p ao n cap bs (Im.rList bs most (Im.rSess bs) s).2 ∧ Upd w p w' := by
 have HI0 := Lib.hid (Ri.start hR)
 have HM := Lib.hid hm
 clear hR hm
 go_enter Tryz.func50,Tryz.ntmps50
 go_wp2_with fail
 refine (rd_count p ao n cap bs most s w HI0.out.rd).mono ?_
 rintro e w1 ⟨rfl,r1,k1⟩
 have HP := Lib.hid (rCount_pos bs most s)
 have HMx : Hid ((rCount bs most s).1 ≤ 1000) := Lib.hid (by have h := Im.count_most bs most s; have h2 := HM.out; rcases h with h | h <;> omega)
 obtain ⟨c,s1,hv⟩ : ∃ c s1,rCount bs most s = (c,s1) := ⟨_,_,rfl⟩
 have HV := Lib.hid hv
 rw [hv] at r1 HP HMx ⊢
 dsimp only at r1 HP HMx ⊢
 obtain ⟨N,hN⟩ : ∃ N : Nat,c = (N : Int) := ⟨c.toNat,by have := HP.out; omega⟩
 subst hN
 have HI1 := Lib.hid (HI0.out.call r1 k1)
 have hN1 : N ≤ 1000 := by have := HMx.out; omega
 clear r1 k1 hv
 go_wp2_with fail
 go_loopw [7,11] (fun t j wr => ∃ (k : Nat) (vo : Option Addr) (q vc : Nat),k ≤ N ∧ j = .int .i64 k ∧ t = .slice vo q vc ∧ Hid (Ri w wr p ao n cap bs (Im.rItems (Im.rSess bs) k s1).2) ∧ Hid (Sn.Own wr w.heap.size (.slice vo q vc) (Im.rItems (Im.rSess bs) k s1).1)) (fun _ j _ => N - (intOf j).toNat)
 case atStart => exact ⟨0,none,0,0,by omega,rfl,rfl,HI1,Lib.hid (Sn.own_nil _ _)⟩
 case round =>
  clear HI1
  rename World => wz
  obtain ⟨k,vo,q,vc,hk,rfl,rfl,HI,HO⟩ := hrel
  by_cases hlt : k < N
  ·
   have HSn := Lib.hid (Im.items_snoc (Im.rSess bs) k s1)
   have HLn := Lib.hid (Im.rItems_len (Im.rSess bs) k s1)
   generalize Im.rItems (Im.rSess bs) k s1 = rk at HI HO HSn HLn
   obtain ⟨L,sk⟩ := rk
   dsimp only at HI HO HSn HLn
   go_wp2_with fail
   refine (ird_sess p ao n cap bs sk wz HI.out.rd).mono ?_
   rintro e w2 ⟨rfl,r2,k2⟩
   have HI2 := Lib.hid (HI.out.call r2 k2)
   have HO2 := Lib.hid (rows_upd HO.out k2 (by have := HI.out.lt; omega))
   obtain ⟨r,hr⟩ : ∃ r,(Im.rSess bs sk).1 = r := ⟨_,rfl⟩
   rw [hr] at HSn ⊢
   clear r2 k2 hr HO
   go_wp2_with (at_builtin; go_must (refine Sn.wpList_append _ rfl (.tmp 13) (.tmp 17) rfl w.heap.size (.slice vo q vc) L rfl (Sn.own_alloc HO2.out _) (some ⟨w2.heap.size,0,none⟩) 1 1 [r] rfl rfl (fun h => by cases h) (Sn.seg_block (heap_alloc_new w2 _)) (by have := HLn.out; omega) (by have := HI2.out.upd.size; simp; omega) ?_))
   intro v3 w3 o3 gr3 _
   obtain ⟨va,vcp,hv3⟩ := rows_slice o3
   subst hv3
   have HI3 := Lib.hid (HI2.out.app _ gr3 (World.ownsRow.lt HO2.out))
   have HO3 := Lib.hid o3
   clear gr3 o3
   go_wp2_with fail
   go_roundw
   case rel =>
    refine ⟨k + 1,_,_,_,by omega,by go_num,rfl,Lib.hid ?_,Lib.hid ?_⟩
    ·
     rw [HSn.out.2]
     exact HI3.out
    ·
     rw [HSn.out.1]
     exact HO3.out
   case measure => simp [intOf]; omega
  ·
   obtain rfl : k = N := by omega
   have HE : Hid (Im.rList bs most (Im.rSess bs) s = Im.rItems (Im.rSess bs) k s1) := Lib.hid (by
    unfold Im.rList
    rw [HV.out]
    dsimp only
    rw [Int.toNat_natCast])
   go_wp2_with fail
   go_ret
   rw [HE.out]
   exact ⟨_,rfl,HO.out,HI.out.rd,HI.out.upd⟩
set_option maxHeartbeats 2000000 in
theorem ird_itemsRt (p : Nat) (ao : Option Addr) (n cap : Nat) (bs : List UInt8) (most : Int) (s : St) (w : World) (hR : Rd w p ao n cap bs s) (hm : most ≤ 1000) :
  Calls Tryz.prog 44 #[.pointer (some ⟨p,0,none⟩),.int .i64 most,.func (.func 45) #[] #[]] w fun e w' => ∃ v,e = .returned v ∧ OwnR w' w.heap.size v (Im.rList bs most (Im.rRate bs) s).1 ∧ Rd w' p ao n cap bs (Im.rList bs most (Im.rRate bs) s).2 ∧ Upd w p w' := by
 have HI0 := Lib.hid (Ri.start hR)
 have HM := Lib.hid hm
 clear hR hm
 go_enter Tryz.func44,Tryz.ntmps44
 go_wp2_with fail
 refine (rd_count p ao n cap bs most s w HI0.out.rd).mono ?_
 rintro e w1 ⟨rfl,r1,k1⟩
 have HP := Lib.hid (rCount_pos bs most s)
 have HMx : Hid ((rCount bs most s).1 ≤ 1000) := Lib.hid (by have h := Im.count_most bs most s; have h2 := HM.out; rcases h with h | h <;> omega)
 obtain ⟨c,s1,hv⟩ : ∃ c s1,rCount bs most s = (c,s1) := ⟨_,_,rfl⟩
 have HV := Lib.hid hv
 rw [hv] at r1 HP HMx ⊢
 dsimp only at r1 HP HMx ⊢
 obtain ⟨N,hN⟩ : ∃ N : Nat,c = (N : Int) := ⟨c.toNat,by have := HP.out; omega⟩
 subst hN
 have HI1 := Lib.hid (HI0.out.call r1 k1)
 have hN1 : N ≤ 1000 := by have := HMx.out; omega
 clear r1 k1 hv
 go_wp2_with fail
 go_loopw [7,11] (fun t j wr => ∃ (k : Nat) (vo : Option Addr) (q vc : Nat),k ≤ N ∧ j = .int .i64 k ∧ t = .slice vo q vc ∧ Hid (Ri w wr p ao n cap bs (Im.rItems (Im.rRate bs) k s1).2) ∧ Hid (OwnR wr w.heap.size (.slice vo q vc) (Im.rItems (Im.rRate bs) k s1).1)) (fun _ j _ => N - (intOf j).toNat)
 case atStart => exact ⟨0,none,0,0,by omega,rfl,rfl,HI1,Lib.hid ⟨rfl,.inl ⟨rfl,rfl⟩⟩⟩
 case round =>
  clear HI1
  rename World => wz
  obtain ⟨k,vo,q,vc,hk,rfl,rfl,HI,HO⟩ := hrel
  by_cases hlt : k < N
  ·
   have HSn := Lib.hid (Im.items_snoc (Im.rRate bs) k s1)
   have HLn := Lib.hid (Im.rItems_len (Im.rRate bs) k s1)
   generalize Im.rItems (Im.rRate bs) k s1 = rk at HI HO HSn HLn
   obtain ⟨L,sk⟩ := rk
   dsimp only at HI HO HSn HLn
   go_wp2_with fail
   refine (ird_rate p ao n cap bs sk wz HI.out.rd).mono ?_
   rintro e w2 ⟨rfl,r2,k2⟩
   have HI2 := Lib.hid (HI.out.call r2 k2)
   have HO2 := Lib.hid (rows_upd HO.out k2 (by have := HI.out.lt; omega))
   obtain ⟨r,hr⟩ : ∃ r,(Im.rRate bs sk).1 = r := ⟨_,rfl⟩
   rw [hr] at HSn ⊢
   clear r2 k2 hr HO
   go_wp2_with (at_builtin; go_must (refine wpList_append_rows _ rfl (.tmp 13) (.tmp 17) rfl w.heap.size (.slice vo q vc) L rfl (own_alloc HO2.out _) (some ⟨w2.heap.size,0,none⟩) 1 1 [r] rfl rfl (fun h => by cases h) (seg_block (heap_alloc_new w2 _)) (by have := HLn.out; omega) (by have := HI2.out.upd.size; simp; omega) ?_))
   intro v3 w3 o3 gr3 _
   obtain ⟨va,vcp,hv3⟩ := rows_slice o3
   subst hv3
   have HI3 := Lib.hid (HI2.out.app _ gr3 (World.ownsRow.lt HO2.out))
   have HO3 := Lib.hid o3
   clear gr3 o3
   go_wp2_with fail
   go_roundw
   case rel =>
    refine ⟨k + 1,_,_,_,by omega,by go_num,rfl,Lib.hid ?_,Lib.hid ?_⟩
    ·
     rw [HSn.out.2]
     exact HI3.out
    ·
     rw [HSn.out.1]
     exact HO3.out
   case measure => simp [intOf]; omega
  ·
   obtain rfl : k = N := by omega
   have HE : Hid (Im.rList bs most (Im.rRate bs) s = Im.rItems (Im.rRate bs) k s1) := Lib.hid (by
    unfold Im.rList
    rw [HV.out]
    dsimp only
    rw [Int.toNat_natCast])
   go_wp2_with fail
   go_ret
   rw [HE.out]
   exact ⟨_,rfl,HO.out,HI.out.rd,HI.out.upd⟩
end Go.Proofs.YtillcleccjgocaaGreat
namespace Go.Proofs.YtillcleccjgocaaGreat
open Go.RowKit
open Mem Pk Cm
theorem rows_keep {w u : World} {B e k : Nat} {v : Value} {n : Nat} {xs : List Value} (h : w.ownsRow B e k v n xs) (hb : ∀ g,v.ownBlock = some g → u.heap[g]? = w.heap[g]?) : u.ownsRow B e k v n xs := by
 obtain ⟨h1,h2⟩ := h
 refine ⟨h1,?_⟩
 rcases h2 with h2 | ⟨g,cap,cur,h',hB,hg,h3⟩
 · exact .inl h2
 · exact .inr ⟨g,cap,cur,h',hB,(hb g (by rw [h']; rfl)).trans hg,h3⟩
structure Fg (A : Nat) (u v : World) : Prop where
 block : ∀ b,A ≤ b → b < u.heap.size → v.heap[b]? = u.heap[b]?
 size : u.heap.size ≤ v.heap.size
theorem Fg.trans {A : Nat} {u v w : World} (h : Fg A u v) (k : Fg A v w) : Fg A u w := ⟨fun b ha hb => (k.block b ha (Nat.lt_of_lt_of_le hb h.size)).trans (h.block b ha hb),Nat.le_trans h.size k.size⟩
theorem Fg.upd {A p : Nat} {u v : World} (h : Upd u p v) (hp : p < A) : Fg A u v := ⟨fun b ha hb => h.block b hb (by omega),h.size⟩
theorem Fg.set {A g : Nat} (u : World) (hg : g < A) (o : Nat) (x : Value) : Fg A u (u.setCell ⟨g,o,none⟩ x) := ⟨fun b ha _ => heap_setCell_other u ⟨g,o,none⟩ b x (by show b ≠ g; omega),by simp⟩
theorem Fg.row {A g : Nat} (u : World) (hg : g < A) (vs : Array Value) : Fg A u (u.setRow g vs) := ⟨fun b ha _ => setRow_other u g b vs (by omega),by simp [World.setRow]⟩
theorem Fg.kpP {A : Nat} {P : Nat → Prop} {u v : World} (h : Fg A u v) (hP : ∀ b,P b → A ≤ b) : KpP P u v := ⟨fun b o hb hl => World.cell?_of_block (h.block b (hP b hb) hl),h.size⟩
theorem Fg.rows {A : Nat} {u v : World} {B e k : Nat} {x : Value} {n : Nat} {xs : List Value} (f : Fg A u v) (h : u.ownsRow B e k x n xs) (hA : A ≤ B) : v.ownsRow B e k x n xs :=
 rows_keep h fun g hg => f.block g (Nat.le_trans hA (World.ownsRow.lt h g hg).1) (World.ownsRow.lt h g hg).2
structure UpdQ (Q : Nat → Prop) (u v : World) : Prop where
 size : u.heap.size ≤ v.heap.size
 block : ∀ b,b < u.heap.size → ¬ Q b → v.heap[b]? = u.heap[b]?
 below : ∀ w0,Below w0.heap.size w0 u → (∀ b,Q b → w0.heap.size ≤ b) → Below w0.heap.size w0 v
theorem UpdQ.of {Q : Nat → Prop} {u v : World} (h : Below u.heap.size u v) : UpdQ Q u v := ⟨h.size,fun b hb _ => h.block b hb,fun _ k _ => bchain k h⟩
theorem UpdQ.refl (Q : Nat → Prop) (u : World) : UpdQ Q u u := UpdQ.of (Below.refl _ _)
theorem UpdQ.trans {Q : Nat → Prop} {u v w : World} (h : UpdQ Q u v) (k : UpdQ Q v w) : UpdQ Q u w :=
 ⟨Nat.le_trans h.size k.size,fun b hb hq => (k.block b (Nat.lt_of_lt_of_le hb h.size) hq).trans (h.block b hb hq),fun w0 a c => k.below w0 (h.below w0 a c) c⟩
theorem UpdQ.mono {Q R : Nat → Prop} {u v : World} (h : UpdQ Q u v) (k : ∀ b,Q b → R b) : UpdQ R u v := ⟨h.size,fun b hb hr => h.block b hb fun q => hr (k b q),fun w0 a c => h.below w0 a fun b q => c b (k b q)⟩
theorem UpdQ.set {Q : Nat → Prop} {g : Nat} (u : World) (hg : Q g) (o : Nat) (x : Value) : UpdQ Q u (u.setCell ⟨g,o,none⟩ x) :=
 ⟨by simp,fun b _ hq => heap_setCell_other u ⟨g,o,none⟩ b x (fun e => hq (by rw [show b = g from e]; exact hg)),fun w0 a c => a.setCell (c g hg) x⟩
theorem UpdQ.belowT {Q : Nat → Prop} {u v w : World} (h : UpdQ Q u v) (k : Below v.heap.size v w) : UpdQ Q u w := h.trans (UpdQ.of k)
theorem UpdQ.kpP {P Q : Nat → Prop} {u v : World} (h : UpdQ Q u v) (hP : ∀ b,P b → ¬ Q b) : KpP P u v := ⟨fun b o hb hl => World.cell?_of_block (h.block b hl (hP b hb)),h.size⟩
theorem UpdQ.rows {Q : Nat → Prop} {u v : World} {B e k : Nat} {x : Value} {n : Nat} {xs : List Value} (f : UpdQ Q u v) (h : u.ownsRow B e k x n xs) (hQ : ∀ g,x.ownBlock = some g → ¬ Q g) : v.ownsRow B e k x n xs :=
 rows_keep h fun g hg => f.block g (World.ownsRow.lt h g hg).2 (hQ g hg)
end Go.Proofs.YtillcleccjgocaaGreat
