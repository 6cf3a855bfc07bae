import Derived.Laws.CopyOwn
import Derived.Laws.MakeOwn
import Derived.Lib.QuietBelow
import Derived.SizedLaws
import Derived.Deep.Slices
import Derived.Test.YtagjbjppddbalaaZLt2
import Derived.Test.YtagjbjppddbalaaZLt3
namespace Go.Proofs.Ytagjbjppddbalaa.Et
open Go.RowKit
open Mem
def Block (w : World) (g : Nat) (ts : List T) : Prop := w.heap[g]? = some (.cells (ts.flatMap rv).toArray 36 (0,0))
theorem Block.lt {w : World} {g : Nat} {ts : List T} (h : Block w g ts) : g < w.heap.size := by
 obtain ⟨hg,_⟩ := Array.getElem?_eq_some_iff.1 h
 exact hg
theorem Block.below {w u : World} {g : Nat} {ts : List T} (h : Block w g ts) (k : Below w.heap.size w u) : Block u g ts := (k.block g h.lt).trans h
theorem Block.row {w : World} {g : Nat} {ts : List T} (h : Block w g ts) (k : Nat) (hk : k < ts.length) : At w g (k * 3) ts[k] := by
 have hcell : ∀ p,p < 3 → w.cell? ⟨g,k * 3 + p,none⟩ = (rv ts[k])[p]? := by
  intro p hp
  rw [cell_of_row w g _ _ _ _ h,← flat_at ts k p hk hp]
  simp
 exact ⟨hcell 0 (by omega),hcell 1 (by omega),hcell 2 (by omega)⟩
theorem Block.frozen {w : World} {g : Nat} {ts : List T} (h : Block w g ts) (k : Nat) : w.frozen? ⟨g,k,none⟩ = false := frozen_of_row w g k _ _ h
theorem Block.ls {w : World} {g : Nat} {ts zs : List T} (h : Block w g (ts ++ zs)) (n cap : Nat) (hn : n = ts.length) (hc : n ≤ cap) (hm : cap ≤ 9223372036854775807) (hs : ∀ r ∈ ts,Short r) : Ls w (some ⟨g,0,none⟩) n cap ts := by
 refine ⟨hn,hc,hm,(fun k => by cases k),.inr ⟨g,0,rfl,fun k hk => ?_⟩,hs⟩
 have hr := h.row k (by rw [List.length_append]; omega)
 rw [List.getElem_append_left hk] at hr
 rw [Nat.zero_add]
 exact hr
def zeros (n : Nat) : Array Value := ((List.replicate n zero).flatMap rv).toArray
theorem sizeZ : (Try.prog.info? 36).map (·.size) = some 3 := by kernel_rfl
theorem made (n : Nat) : madeCells zeroV.cells (n * 3) = zeros n := by
 apply Array.ext_getElem?
 intro j
 by_cases hj : j < n * 3
 ·
  obtain ⟨k,p,rfl,hp⟩ : ∃ k p,j = k * 3 + p ∧ p < 3 := ⟨j / 3,j % 3,by omega,by omega⟩
  have hk : k < n := by omega
  have hz : (zeros n)[k * 3 + p]? = (rv zero)[p]? := by
   unfold zeros
   rw [List.getElem?_toArray,flat_at (List.replicate n zero) k p (by simpa using hk) hp,List.getElem_replicate]
  rw [hz]
  have e : (k * 3 + p) % 3 = p := by omega
  have hp' : p = 0 ∨ p = 1 ∨ p = 2 := by omega
  unfold madeCells
  rw [Array.getElem?_map,Array.getElem?_range,if_pos hj]
  simp only [Option.map_some]
  rw [show zeroV.cells.size = 3 from rfl,e]
  rcases hp' with rfl | rfl | rfl <;> rfl
 ·
  rw [Array.getElem?_eq_none (by rw [size_madeCells]; omega),Array.getElem?_eq_none]
  unfold zeros
  rw [List.size_toArray,flat_len,List.length_replicate]
  omega
theorem make (n : Nat) (hn : n ≤ 100000) (u : World) : (Instr.makeSlice 22 (.int .i64 (n : Int)) (.int .i64 (n : Int))).run Try.prog u =
  .ok (.slice (some ⟨u.heap.size,0,none⟩) n n) (u.alloc (.cells (zeros n) 36)) := by
 obtain ⟨i0,hi,hz0,hz1,hz2⟩ := info_parts info
 have h := run_make (P := Try.prog) u 22 36 i0 zeroV Try.underlying22 hi hz0 .i64 .i64 (n : Int) (n : Int) (by omega) (Int.le_refl _) (by rw [hz2]; omega) (by omega)
 rw [hz1,Int.toNat_natCast,made] at h
 exact h
theorem block_made (u : World) (n : Nat) : Block (u.alloc (.cells (zeros n) 36)) u.heap.size (List.replicate n zero) := heap_alloc_new u _
theorem copy (u : World) (g : Nat) (ts : List T) (dCap : Nat) (ao : Option Addr) (n cap : Nat) (rs : List T) (hb : Block u g (List.replicate n zero ++ ts)) (hn : n = rs.length) (hs : Seg u ao rs) :
  ∃ u',(Builtin.copy_ #[22,22] 3 #[.slice (some ⟨g,0,none⟩) (n + ts.length) dCap,.slice ao n cap]).run Try.prog u = .ok (goInt n) u' ∧ Block u' g (rs ++ ts) ∧ (∀ B w0,Below B w0 u → B ≤ g → Below B w0 u') ∧ u'.heap.size = u.heap.size := by
 obtain ⟨i0,hi,hiK⟩ := Option.map_eq_some_iff.1 sizeZ
 have hmin : Nat.min n (n + ts.length) = n := Nat.min_eq_left (by omega)
 rcases hs with e | ⟨b,off,rfl,hc⟩
 ·
  subst e
  obtain rfl : n = 0 := hn
  refine ⟨u,?_,by simpa using hb,fun _ _ h _ => h,rfl⟩
  have hl : ∀ (x : Addr),(loadCells x 0).run Try.prog u = .ok #[] u := fun x => by simpa using run_loadCells_list (P := Try.prog) u x [] (by simp)
  cases ao <;> simp [Builtin.copy_,run_underlying Try.underlying22,Builtin.lenOf,Builtin.firstCells,sizeOf,typeInfo,hi,storeCells,hl]
 ·
  have hl := run_loadCells_list (P := Try.prog) u ⟨b,off,none⟩ (rs.flatMap rv) (fun j v hv => news_of hc j v hv)
  have hst := run_storeCells_at Try.prog g 0 36 (rs.flatMap rv) 0 _ u hb (by rw [List.size_toArray,flat_len,flat_len,List.length_append,List.length_replicate]; omega) (one_cell rs)
  have hlen : (rs.flatMap rv).length = n * 3 := by rw [flat_len,hn]
  have e : (((List.replicate n zero ++ ts).flatMap rv).toArray.toList.take (0 + 0) ++ rs.flatMap rv ++ ((List.replicate n zero ++ ts).flatMap rv).toArray.toList.drop (0 + 0 + (rs.flatMap rv).length)) = (rs ++ ts).flatMap rv := by
   rw [List.toList_toArray,List.take_zero,List.nil_append,Nat.zero_add,hlen,List.flatMap_append,List.flatMap_append,List.drop_left' (by rw [flat_len,List.length_replicate])]
  rw [e] at hst
  refine ⟨u.setRow g ((rs ++ ts).flatMap rv).toArray,?_,setRow_heap u g _ _ 36 _ hb,fun B w0 h hB => below_setRow h hB _,by simp [World.setRow]⟩
  rw [hlen] at hl
  simp [Builtin.copy_,run_underlying Try.underlying22,Builtin.lenOf,Builtin.firstCells,sizeOf,typeInfo,hi,hiK,hmin,hl,hst]
theorem set_right {a : T} (X : List Value) (k p : Nat) (v : Value) : (rv a ++ X).set ((k + 1) * 3 + p) v = rv a ++ X.set (k * 3 + p) v := by
 rw [List.set_append_right _ _ (by rw [rv_len]; omega),rv_len,show (k + 1) * 3 + p - 3 = k * 3 + p by omega]
theorem flat_set : ∀ (ts : List T) (k : Nat) (r : T),k < ts.length → (ts.set k r).flatMap rv = ((((ts.flatMap rv).set (k * 3) (.int .i64 r.term)).set (k * 3 + 1) (.int .i64 r.mem)).set (k * 3 + 2) (.string r.data)) := by
 intro ts
 induction ts with
 | nil =>
  intro k r h
  simp at h
 | cons a l ih =>
 intro k r h
 cases k with
 | zero =>
  rw [List.set_cons_zero,List.flatMap_cons,List.flatMap_cons]
  simp only [rv,Nat.zero_mul,Nat.zero_add,List.cons_append,List.nil_append,List.set_cons_zero,List.set_cons_succ]
 | succ k =>
  have ih := ih k r (by simpa using h)
  have e0 := fun (X : List Value) (v : Value) => set_right (a := a) X k 0 v
  simp only [Nat.add_zero] at e0
  rw [List.set_cons_succ,List.flatMap_cons,ih,List.flatMap_cons,e0,set_right,set_right]
theorem Block.store {w : World} {g : Nat} {ts : List T} (h : Block w g ts) (k : Nat) (hk : k < ts.length) (r : T) :
  Block (((w.setCell ⟨g,k * 3,none⟩ (.int .i64 r.term)).setCell ⟨g,k * 3 + 1,none⟩ (.int .i64 r.mem)).setCell ⟨g,k * 3 + 2,none⟩ (.string r.data)) g (ts.set k r) := by
 have h1 := heap_setCell_same _ g (k * 3) _ _ (.int .i64 r.term) h
 have h2 := heap_setCell_same _ g (k * 3 + 1) _ _ (.int .i64 r.mem) h1
 have h3 := heap_setCell_same _ g (k * 3 + 2) _ _ (.string r.data) h2
 unfold Block
 rw [h3,flat_set ts k r hk]
 simp only [List.setIfInBounds_toArray]
theorem below_store {B g : Nat} {w0 w : World} (h : Below B w0 w) (hg : B ≤ g) (k : Nat) (x0 x1 x2 : Value) :
  Below B w0 (((w.setCell ⟨g,k * 3,none⟩ x0).setCell ⟨g,k * 3 + 1,none⟩ x1).setCell ⟨g,k * 3 + 2,none⟩ x2) :=
 (((h.setCell hg x0).setCell hg x1).setCell hg x2)
theorem own_store {w : World} {B g n cap : Nat} {M : List T} (h : Own w B (.slice (some ⟨g,0,none⟩) n cap) M) (k : Nat) (hk : k < M.length) (r : T) :
  Own (((w.setCell ⟨g,k * 3,none⟩ (.int .i64 r.term)).setCell ⟨g,k * 3 + 1,none⟩ (.int .i64 r.mem)).setCell ⟨g,k * 3 + 2,none⟩ (.string r.data)) B (.slice (some ⟨g,0,none⟩) n cap) (M.set k r) := by
 rcases h.2 with ⟨h',_⟩ | ⟨g',cap',cur,h',hb,hg,hnc,hcm,hcs,htake⟩
 · cases h'
 ·
  simp only [Value.slice.injEq,Option.some.injEq,Addr.mk.injEq,and_true] at h'
  obtain ⟨e1,e2,e3⟩ := h'
  subst e1 e3
  have h1 := heap_setCell_same _ g (k * 3) _ _ (.int .i64 r.term) hg
  have h2 := heap_setCell_same _ g (k * 3 + 1) _ _ (.int .i64 r.mem) h1
  have h3 := heap_setCell_same _ g (k * 3 + 2) _ _ (.string r.data) h2
  refine ⟨by rw [flat_len],.inr ⟨g,cap,_,by rw [List.length_set,e2],hb,h3,by rw [List.length_set]; exact hnc,hcm,by simpa using hcs,?_⟩⟩
  rw [List.length_set,flat_set M k r hk]
  simp only [Array.toList_setIfInBounds]
  rw [← htake]
  simp only [List.take_set]
theorem own_at {w : World} {B g n cap : Nat} {M : List T} (h : Own w B (.slice (some ⟨g,0,none⟩) n cap) M) (k : Nat) (hk : k < M.length) : At w g (k * 3) M[k] ∧ (∀ o,w.frozen? ⟨g,o,none⟩ = false) ∧ B ≤ g := by
 rcases h.2 with ⟨h',_⟩ | ⟨g',cap',cur,h',hb,hg,hnc,hcm,hcs,htake⟩
 · cases h'
 ·
  simp only [Value.slice.injEq,Option.some.injEq,Addr.mk.injEq,and_true] at h'
  obtain ⟨e1,e2,e3⟩ := h'
  subst e1 e3
  have hcell : ∀ p,p < 3 → w.cell? ⟨g,k * 3 + p,none⟩ = (rv M[k])[p]? := by
   intro p hp
   rw [cell_of_row w g _ _ _ _ hg,← flat_at M k p hk hp,← htake,List.getElem?_take_of_lt (by omega)]
   simp
  exact ⟨⟨hcell 0 (by omega),hcell 1 (by omega),hcell 2 (by omega)⟩,fun o => frozen_of_row w g o _ _ hg,hb⟩
theorem flat_put (r : T) (p : Nat) (x : Value) (hp : p < 3) : ∀ (M : List T) (k : Nat) (hk : k < M.length),rv r = (rv M[k]).set p x → (M.set k r).flatMap rv = (M.flatMap rv).set (k * 3 + p) x
 | a :: l,0,_,h => by
  have h' : rv r = (rv a).set p x := h
  rw [List.set_cons_zero,List.flatMap_cons,List.flatMap_cons,Nat.zero_mul,Nat.zero_add,List.set_append_left _ _ (by rw [rv_len]; exact hp),h']
 | a :: l,k + 1,hk,h => by
  have ih := flat_put r p x hp l k (by simpa using hk) (by simpa using h)
  rw [List.set_cons_succ,List.flatMap_cons,List.flatMap_cons,List.set_append_right _ _ (by rw [rv_len]; omega),rv_len,show (k + 1) * 3 + p - 3 = k * 3 + p by omega,ih]
theorem own_put {w : World} {B g n cap : Nat} {M : List T} (h : Own w B (.slice (some ⟨g,0,none⟩) n cap) M) (k p : Nat) (hk : k < M.length) (hp : p < 3) (x : Value) (r : T) (hr : rv r = (rv M[k]).set p x) :
  Own (w.setCell ⟨g,k * 3 + p,none⟩ x) B (.slice (some ⟨g,0,none⟩) n cap) (M.set k r) := by
 rcases h.2 with ⟨h',_⟩ | ⟨g',cap',cur,h',hb,hg,hnc,hcm,hcs,htake⟩
 · cases h'
 ·
  simp only [Value.slice.injEq,Option.some.injEq,Addr.mk.injEq,and_true] at h'
  obtain ⟨e1,e2,e3⟩ := h'
  subst e1 e3
  have h1 := heap_setCell_same _ g (k * 3 + p) _ _ x hg
  refine ⟨by rw [flat_len],.inr ⟨g,cap,_,by rw [List.length_set,e2],hb,h1,by rw [List.length_set]; exact hnc,hcm,by simpa using hcs,?_⟩⟩
  rw [List.length_set,flat_put r p x hp M k hk hr]
  simp only [Array.toList_setIfInBounds]
  rw [← htake]
  simp only [List.take_set]
theorem own_of_block {w : World} {B g n : Nat} {M : List T} (h : Block w g M) (hB : B ≤ g) (hn : n = M.length) (hm : n ≤ 100000) : Own w B (.slice (some ⟨g,0,none⟩) n n) M := by
 subst hn
 exact ⟨by rw [flat_len],.inr ⟨g,M.length,_,rfl,hB,h,Nat.le_refl _,by have : maxLen = 9223372036854775807 := rfl; omega,by rw [List.size_toArray,flat_len],List.take_of_length_le (by show (M.flatMap rv).length ≤ _; rw [flat_len]; exact Nat.le_refl _)⟩⟩
theorem own_far {w : World} {B : Nat} {v : Value} {M : List T} (h : Own w B v M) {b : Nat} (hne : b < B) (o : Nat) (x : Value) : Own (w.setCell ⟨b,o,none⟩ x) B v M := by
 obtain ⟨h1,h2⟩ := h
 refine ⟨h1,?_⟩
 rcases h2 with h2 | ⟨g,cap,cur,h',hb,hg,h3⟩
 · exact .inl h2
 · exact .inr ⟨g,cap,cur,h',hb,by rw [heap_setCell_other w ⟨b,o,none⟩ g x (by show g ≠ b; omega)]; exact hg,h3⟩
theorem make_cap (n : Nat) (hn : n ≤ 1000) (u : World) : (Instr.makeSlice 22 (.int .i64 0) (.int .i64 ((n : Int) + 1))).run Try.prog u =
  .ok (.slice (some ⟨u.heap.size,0,none⟩) 0 (n + 1)) (u.alloc (.cells (zeros (n + 1)) 36)) := by
 obtain ⟨i0,hi,hz0,hz1,hz2⟩ := info_parts info
 have h := run_make (P := Try.prog) u 22 36 i0 zeroV Try.underlying22 hi hz0 .i64 .i64 0 ((n : Int) + 1) (by omega) (by omega) (by rw [hz2]; omega) (by omega)
 rw [hz1,show ((n : Int) + 1).toNat = n + 1 from by omega,made] at h
 exact h
theorem own_cap (u : World) (B c : Nat) (hB : B ≤ u.heap.size) (hc : c ≤ 1000) : Own (u.alloc (.cells (zeros c) 36)) B (.slice (some ⟨u.heap.size,0,none⟩) 0 c) [] :=
 ⟨rfl,.inr ⟨u.heap.size,c,zeros c,rfl,hB,heap_alloc_new u _,Nat.zero_le _,by have : maxLen = 9223372036854775807 := rfl; omega,by unfold zeros; rw [List.size_toArray,flat_len,List.length_replicate],rfl⟩⟩
end Go.Proofs.Ytagjbjppddbalaa.Et
set_option maxRecDepth 100000
set_option linter.unusedVariables false
namespace Go.Proofs.Ytagjbjppddbalaa
open Go.RowKit
open Mem Pk
structure Rq (w u : World) (p : Nat) (ao : Option Addr) (n cap : Nat) (bs : List UInt8) (s : St) : Prop where
 rd : Rd u p ao n cap bs s
 upd : Upd w p u
 res : u.heap[w.heap.size]? = some (.cells #[.int .i64 0,.int .i64 0,.int .i64 0,.int .i64 0,.int .i64 0,.int .i64 0,.int .i64 0,.int .i64 0,.int .i64 0,.int .i64 0,.bool false,.string ⟨#[]⟩,.slice none 0 0] 24 (0,0))
 lt : p < w.heap.size
section
variable {w u v : World} {p n cap : Nat} {ao : Option Addr} {bs : List UInt8} {s s' : St}
theorem Rq.start (hR : Rd w p ao n cap bs s) : Rq w (w.alloc (.cells #[.int .i64 0,.int .i64 0,.int .i64 0,.int .i64 0,.int .i64 0,.int .i64 0,.int .i64 0,.int .i64 0,.int .i64 0,.int .i64 0,.bool false,.string ⟨#[]⟩,.slice none 0 0] 24)) p ao n cap bs s :=
 have hb : Below w.heap.size w (w.alloc (.cells #[.int .i64 0,.int .i64 0,.int .i64 0,.int .i64 0,.int .i64 0,.int .i64 0,.int .i64 0,.int .i64 0,.int .i64 0,.int .i64 0,.bool false,.string ⟨#[]⟩,.slice none 0 0] 24)) := (Below.refl _ _).alloc (Nat.le_refl _) _
 ⟨hR.below hb,Upd.of p hb,heap_alloc_new w _,cell_lt hR.c0⟩
theorem Rq.call (h : Rq w u p ao n cap bs s) (r : Rd v p ao n cap bs s') (k : Upd u p v) : Rq w v p ao n cap bs s' :=
 ⟨r,h.upd.trans k,(k.block _ (Array.getElem?_eq_some_iff.1 h.res).1 (by have := h.lt; omega)).trans h.res,h.lt⟩
theorem Rq.cell (h : Rq w u p ao n cap bs s) (i : Nat) : u.cell? ⟨w.heap.size,i,none⟩ = (#[.int .i64 0,.int .i64 0,.int .i64 0,.int .i64 0,.int .i64 0,.int .i64 0,.int .i64 0,.int .i64 0,.int .i64 0,.int .i64 0,.bool false,.string ⟨#[]⟩,.slice none 0 0] : Array Value)[i]? := cell_of_row u _ i _ _ _ h.res
theorem Rq.fz (h : Rq w u p ao n cap bs s) (o : Nat) : u.frozen? ⟨w.heap.size,o,none⟩ = false := frozen_of_row u _ o _ _ h.res
end
theorem lrd_num (k : Nat) (p : Nat) (ao : Option Addr) (n cap : Nat) (bs : List UInt8) (s : St) (w : World) (hR : Rd w p ao n cap bs (Lr.sN bs s k)) :
  Calls Try.prog 47 #[.pointer (some ⟨p,0,none⟩)] w fun e w' => e = .returned (.int .i64 (Lr.vN bs s k)) ∧ Rd w' p ao n cap bs (Lr.sN bs s (k + 1)) ∧ Upd w p w' := rd_num p ao n cap bs _ w hR
def Lr.lay (u : World) (g : Nat) (r : Lr.T) : World := (((((((((((((u.setCell ⟨g,0,none⟩ (.int .i64 r.kind)).setCell ⟨g,1,none⟩ (.int .i64 r.frm)).setCell ⟨g,2,none⟩ (.int .i64 r.to)).setCell ⟨g,3,none⟩ (.int .i64 r.term)).setCell ⟨g,4,none⟩ (.int .i64 r.idx)).setCell ⟨g,5,none⟩ (.int .i64 r.bt)).setCell ⟨g,6,none⟩ (.int .i64 r.com)).setCell ⟨g,7,none⟩ (.int .i64 r.mem)).setCell ⟨g,8,none⟩ (.int .i64 r.off)).setCell ⟨g,9,none⟩ (.int .i64 r.size)).setCell ⟨g,10,none⟩ (.bool r.yes)).setCell ⟨g,11,none⟩ (.string r.data)).setCell ⟨g,12,none⟩ (.slice r.ents.ao r.ents.n r.ents.cap))
def Lr.rvA (r : Lr.T) : Array Value := #[.int .i64 r.kind,.int .i64 r.frm,.int .i64 r.to,.int .i64 r.term,.int .i64 r.idx,.int .i64 r.bt,.int .i64 r.com,.int .i64 r.mem,.int .i64 r.off,.int .i64 r.size,.bool r.yes,.string r.data,.slice r.ents.ao r.ents.n r.ents.cap]
theorem Lr.lrInfo : (Try.prog.info? 24).map (·.size) = some 13 := by kernel_rfl
theorem Lr.results_lr {fn : Func} {p : Tmp} (h : fn.results = #[.cell p 24]) {tmps : Array Value} {w : World} {g : Nat} {r : Lr.T} (hp : tmps.getD p undef = .pointer (some ⟨g,0,none⟩))
  (hg : w.heap[g]? = some (.cells (Lr.rvA r) 24 (0,0))) : (results fn tmps).run Try.prog w = .ok (Lr.val r) w :=
 results_cell_row h tmps w g 24 (Lr.rvA r) (0,0) _ hp hg Try.underlying24 rfl (by rw [Lr.lrInfo]; rfl)
theorem Lr.heap_lay {w : World} {g : Nat} {x0 x1 x2 x3 x4 x5 x6 x7 x8 x9 x10 x11 x12 : Value} {ty : TypeId} (h : w.heap[g]? = some (.cells #[x0,x1,x2,x3,x4,x5,x6,x7,x8,x9,x10,x11,x12] ty (0,0))) (r : Lr.T) : (Lr.lay w g r).heap[g]? = some (.cells (Lr.rvA r) ty (0,0)) := by
 unfold Lr.lay
 have h0 := (heap_setCell_same _ g 0 _ _ (.int .i64 r.kind) h).trans (show _ = some (Obj.cells #[.int .i64 r.kind,x1,x2,x3,x4,x5,x6,x7,x8,x9,x10,x11,x12] ty (0,0)) from rfl)
 have h1 := (heap_setCell_same _ g 1 _ _ (.int .i64 r.frm) h0).trans (show _ = some (Obj.cells #[.int .i64 r.kind,.int .i64 r.frm,x2,x3,x4,x5,x6,x7,x8,x9,x10,x11,x12] ty (0,0)) from rfl)
 have h2 := (heap_setCell_same _ g 2 _ _ (.int .i64 r.to) h1).trans (show _ = some (Obj.cells #[.int .i64 r.kind,.int .i64 r.frm,.int .i64 r.to,x3,x4,x5,x6,x7,x8,x9,x10,x11,x12] ty (0,0)) from rfl)
 have h3 := (heap_setCell_same _ g 3 _ _ (.int .i64 r.term) h2).trans (show _ = some (Obj.cells #[.int .i64 r.kind,.int .i64 r.frm,.int .i64 r.to,.int .i64 r.term,x4,x5,x6,x7,x8,x9,x10,x11,x12] ty (0,0)) from rfl)
 have h4 := (heap_setCell_same _ g 4 _ _ (.int .i64 r.idx) h3).trans (show _ = some (Obj.cells #[.int .i64 r.kind,.int .i64 r.frm,.int .i64 r.to,.int .i64 r.term,.int .i64 r.idx,x5,x6,x7,x8,x9,x10,x11,x12] ty (0,0)) from rfl)
 have h5 := (heap_setCell_same _ g 5 _ _ (.int .i64 r.bt) h4).trans (show _ = some (Obj.cells #[.int .i64 r.kind,.int .i64 r.frm,.int .i64 r.to,.int .i64 r.term,.int .i64 r.idx,.int .i64 r.bt,x6,x7,x8,x9,x10,x11,x12] ty (0,0)) from rfl)
 have h6 := (heap_setCell_same _ g 6 _ _ (.int .i64 r.com) h5).trans (show _ = some (Obj.cells #[.int .i64 r.kind,.int .i64 r.frm,.int .i64 r.to,.int .i64 r.term,.int .i64 r.idx,.int .i64 r.bt,.int .i64 r.com,x7,x8,x9,x10,x11,x12] ty (0,0)) from rfl)
 have h7 := (heap_setCell_same _ g 7 _ _ (.int .i64 r.mem) h6).trans (show _ = some (Obj.cells #[.int .i64 r.kind,.int .i64 r.frm,.int .i64 r.to,.int .i64 r.term,.int .i64 r.idx,.int .i64 r.bt,.int .i64 r.com,.int .i64 r.mem,x8,x9,x10,x11,x12] ty (0,0)) from rfl)
 have h8 := (heap_setCell_same _ g 8 _ _ (.int .i64 r.off) h7).trans (show _ = some (Obj.cells #[.int .i64 r.kind,.int .i64 r.frm,.int .i64 r.to,.int .i64 r.term,.int .i64 r.idx,.int .i64 r.bt,.int .i64 r.com,.int .i64 r.mem,.int .i64 r.off,x9,x10,x11,x12] ty (0,0)) from rfl)
 have h9 := (heap_setCell_same _ g 9 _ _ (.int .i64 r.size) h8).trans (show _ = some (Obj.cells #[.int .i64 r.kind,.int .i64 r.frm,.int .i64 r.to,.int .i64 r.term,.int .i64 r.idx,.int .i64 r.bt,.int .i64 r.com,.int .i64 r.mem,.int .i64 r.off,.int .i64 r.size,x10,x11,x12] ty (0,0)) from rfl)
 have h10 := (heap_setCell_same _ g 10 _ _ (.bool r.yes) h9).trans (show _ = some (Obj.cells #[.int .i64 r.kind,.int .i64 r.frm,.int .i64 r.to,.int .i64 r.term,.int .i64 r.idx,.int .i64 r.bt,.int .i64 r.com,.int .i64 r.mem,.int .i64 r.off,.int .i64 r.size,.bool r.yes,x11,x12] ty (0,0)) from rfl)
 have h11 := (heap_setCell_same _ g 11 _ _ (.string r.data) h10).trans (show _ = some (Obj.cells #[.int .i64 r.kind,.int .i64 r.frm,.int .i64 r.to,.int .i64 r.term,.int .i64 r.idx,.int .i64 r.bt,.int .i64 r.com,.int .i64 r.mem,.int .i64 r.off,.int .i64 r.size,.bool r.yes,.string r.data,x12] ty (0,0)) from rfl)
 have h12 := (heap_setCell_same _ g 12 _ _ (.slice r.ents.ao r.ents.n r.ents.cap) h11).trans (show _ = some (Obj.cells #[.int .i64 r.kind,.int .i64 r.frm,.int .i64 r.to,.int .i64 r.term,.int .i64 r.idx,.int .i64 r.bt,.int .i64 r.com,.int .i64 r.mem,.int .i64 r.off,.int .i64 r.size,.bool r.yes,.string r.data,.slice r.ents.ao r.ents.n r.ents.cap] ty (0,0)) from rfl)
 exact h12
theorem Lr.own_lay {u : World} {g B : Nat} {v : Value} {xs : List Et.T} (h : Et.Own u B v xs) (hg : g < B) (r : Lr.T) : Et.Own (Lr.lay u g r) B v xs := Et.own_far (Et.own_far (Et.own_far (Et.own_far (Et.own_far (Et.own_far (Et.own_far (Et.own_far (Et.own_far (Et.own_far (Et.own_far (Et.own_far (Et.own_far h hg 0 _) hg 1 _) hg 2 _) hg 3 _) hg 4 _) hg 5 _) hg 6 _) hg 7 _) hg 8 _) hg 9 _) hg 10 _) hg 11 _) hg 12 _
theorem Lr.rd_lay {u : World} {p g n cap : Nat} {ao : Option Addr} {bs : List UInt8} {s : St} (h : Rd u p ao n cap bs s) (hg : Off p g n ao) (r : Lr.T) : Rd (Lr.lay u g r) p ao n cap bs s := (((((((((((((((((((((((((h.other hg _)).other hg _)).other hg _)).other hg _)).other hg _)).other hg _)).other hg _)).other hg _)).other hg _)).other hg _)).other hg _)).other hg _)).other hg _)
theorem Lr.upd_lay {w u : World} {p g : Nat} (h : Upd w p u) (hg : w.heap.size ≤ g) (r : Lr.T) : Upd w p (Lr.lay u g r) := (((((((((((((h.fresh hg _).fresh hg _).fresh hg _).fresh hg _).fresh hg _).fresh hg _).fresh hg _).fresh hg _).fresh hg _).fresh hg _).fresh hg _).fresh hg _).fresh hg _)
theorem Lr.below_lay {w u : World} {g : Nat} (h : Below w.heap.size w u) (hg : w.heap.size ≤ g) (r : Lr.T) : Below w.heap.size w (Lr.lay u g r) := (bset (bset (bset (bset (bset (bset (bset (bset (bset (bset (bset (bset (bset h hg 0 _) hg 1 _) hg 2 _) hg 3 _) hg 4 _) hg 5 _) hg 6 _) hg 7 _) hg 8 _) hg 9 _) hg 10 _) hg 11 _) hg 12 _)
def Lr.rT (bs : List UInt8) (s : St) (v : Sl) : Lr.T := ⟨Lr.vN bs s 0,Lr.vN bs s 1,Lr.vN bs s 2,Lr.vN bs s 3,Lr.vN bs s 4,Lr.vN bs s 5,Lr.vN bs s 6,Lr.vN bs s 7,Lr.vN bs s 8,Lr.vN bs s 9,(Lr.rFlag bs (Lr.sN bs s 10)).1,(rText bs 600 (Lr.sF bs s)).1,v⟩
set_option maxHeartbeats 1000000 in
theorem lt_read (p : Nat) (ao : Option Addr) (n cap : Nat) (bs : List UInt8) (s : St) (w : World) (hR : Rd w p ao n cap bs s) :
  Calls Try.prog 28 #[.pointer (some ⟨p,0,none⟩)] w fun e w' => ∃ v : Sl,e = .returned (Lr.val (Lr.rT bs s v)) ∧ Et.Own w' w.heap.size (.slice v.ao v.n v.cap) (Lr.rM bs s).ents ∧ Rd w' p ao n cap bs (Lr.eM bs s) ∧ Upd w p w' := by
 have HX0 := Lib.hid (Rq.start hR)
 obtain ⟨w0,hw0⟩ : ∃ U,w.alloc (.cells #[.int .i64 0,.int .i64 0,.int .i64 0,.int .i64 0,.int .i64 0,.int .i64 0,.int .i64 0,.int .i64 0,.int .i64 0,.int .i64 0,.bool false,.string ⟨#[]⟩,.slice none 0 0] 24) = U := ⟨_,rfl⟩
 rw [hw0] at HX0
 have HRo := Lib.hid (hR.off (Nat.le_refl w.heap.size))
 have hrw : Rd w0 p ao n cap bs (Lr.sN bs s 0) := HX0.out.rd
 clear hR
 go_enter Try.func28,Try.ntmps28
 go_wp2_with fail
 clear hw0
 refine (lrd_num 0 p ao n cap bs s w0 hrw).mono ?_
 rintro e w1 ⟨rfl,r0,k0⟩
 have HX1 := Lib.hid (HX0.out.call r0 k0)
 clear r0 k0 hrw
 go_wp2_with fail
 refine (lrd_num 1 p ao n cap bs s w1 HX1.out.rd).mono ?_
 rintro e w2 ⟨rfl,r1,k1⟩
 have HX2 := Lib.hid (HX1.out.call r1 k1)
 clear r1 k1
 go_wp2_with fail
 refine (lrd_num 2 p ao n cap bs s w2 HX2.out.rd).mono ?_
 rintro e w3 ⟨rfl,r2,k2⟩
 have HX3 := Lib.hid (HX2.out.call r2 k2)
 clear r2 k2
 go_wp2_with fail
 refine (lrd_num 3 p ao n cap bs s w3 HX3.out.rd).mono ?_
 rintro e w4 ⟨rfl,r3,k3⟩
 have HX4 := Lib.hid (HX3.out.call r3 k3)
 clear r3 k3
 go_wp2_with fail
 refine (lrd_num 4 p ao n cap bs s w4 HX4.out.rd).mono ?_
 rintro e w5 ⟨rfl,r4,k4⟩
 have HX5 := Lib.hid (HX4.out.call r4 k4)
 clear r4 k4
 go_wp2_with fail
 refine (lrd_num 5 p ao n cap bs s w5 HX5.out.rd).mono ?_
 rintro e w6 ⟨rfl,r5,k5⟩
 have HX6 := Lib.hid (HX5.out.call r5 k5)
 clear r5 k5
 go_wp2_with fail
 refine (lrd_num 6 p ao n cap bs s w6 HX6.out.rd).mono ?_
 rintro e w7 ⟨rfl,r6,k6⟩
 have HX7 := Lib.hid (HX6.out.call r6 k6)
 clear r6 k6
 go_wp2_with fail
 refine (lrd_num 7 p ao n cap bs s w7 HX7.out.rd).mono ?_
 rintro e w8 ⟨rfl,r7,k7⟩
 have HX8 := Lib.hid (HX7.out.call r7 k7)
 clear r7 k7
 go_wp2_with fail
 refine (lrd_num 8 p ao n cap bs s w8 HX8.out.rd).mono ?_
 rintro e w9 ⟨rfl,r8,k8⟩
 have HX9 := Lib.hid (HX8.out.call r8 k8)
 clear r8 k8
 go_wp2_with fail
 refine (lrd_num 9 p ao n cap bs s w9 HX9.out.rd).mono ?_
 rintro e w10 ⟨rfl,r9,k9⟩
 have HX10 := Lib.hid (HX9.out.call r9 k9)
 clear r9 k9
 go_wp2_with fail
 refine (lrd_flag p ao n cap bs (Lr.sN bs s 10) w10 HX10.out.rd).mono ?_
 rintro e w11 ⟨rfl,r10,k10⟩
 have HX11 : Hid (Rq w w11 p ao n cap bs (Lr.sF bs s)) := Lib.hid (HX10.out.call r10 k10)
 clear r10 k10
 go_wp2_with fail
 refine (rd_text p ao n cap bs 600 (Lr.sF bs s) w11 HX11.out.rd).mono ?_
 rintro e w12 ⟨rfl,r11,k11⟩
 have HX12 : Hid (Rq w w12 p ao n cap bs (Lr.sT bs s)) := Lib.hid (HX11.out.call r11 k11)
 clear r11 k11
 go_wp2_with fail
 refine (lt_entries p ao n cap bs (Lr.sT bs s) w12 HX12.out.rd).mono ?_
 rintro e w13 ⟨v,rfl,o12,r12,k12⟩
 have HX13 : Hid (Rq w w13 p ao n cap bs (Lr.eM bs s)) := Lib.hid (HX12.out.call r12 k12)
 have HO : Hid (Et.Own w13 (w.heap.size + 1) v (Lr.rM bs s).ents) := Lib.hid (Et.own_mono o12 (by
  have h1 := (Array.getElem?_eq_some_iff.1 HX12.out.res).1
  omega))
 clear r12 k12 o12
 obtain ⟨va,vcp,hv3⟩ := rows_slice HO.out
 subst hv3
 obtain ⟨vn,hvn⟩ : ∃ vn,(Lr.rM bs s).ents.length = vn := ⟨_,rfl⟩
 rw [hvn] at HO ⊢
 clear hvn
 have x0 := HX13.out.cell 0
 have q0 := HX13.out.fz 0
 have x1 := HX13.out.cell 1
 have q1 := HX13.out.fz 1
 have x2 := HX13.out.cell 2
 have q2 := HX13.out.fz 2
 have x3 := HX13.out.cell 3
 have q3 := HX13.out.fz 3
 have x4 := HX13.out.cell 4
 have q4 := HX13.out.fz 4
 have x5 := HX13.out.cell 5
 have q5 := HX13.out.fz 5
 have x6 := HX13.out.cell 6
 have q6 := HX13.out.fz 6
 have x7 := HX13.out.cell 7
 have q7 := HX13.out.fz 7
 have x8 := HX13.out.cell 8
 have q8 := HX13.out.fz 8
 have x9 := HX13.out.cell 9
 have q9 := HX13.out.fz 9
 have x10 := HX13.out.cell 10
 have q10 := HX13.out.fz 10
 have x11 := HX13.out.cell 11
 have q11 := HX13.out.fz 11
 have x12 := HX13.out.cell 12
 have q12 := HX13.out.fz 12
 simp only [List.getElem?_toArray,List.getElem?_cons_zero,List.getElem?_cons_succ] at x0 x1 x2 x3 x4 x5 x6 x7 x8 x9 x10 x11 x12
 have HOf := Lib.hid ((HX0.out.rd.off (Nat.le_refl w0.heap.size)))
 have HOff : Hid (Off p w.heap.size n ao) := Lib.hid HRo.out
 clear HX0 HX1 HX2 HX3 HX4 HX5 HX6 HX7 HX8 HX9 HX10 HX11 HX12 HOf
 obtain ⟨a0,ha0⟩ : ∃ a,Lr.vN bs s 0 = a := ⟨_,rfl⟩
 rw [ha0]
 obtain ⟨a1,ha1⟩ : ∃ a,Lr.vN bs s 1 = a := ⟨_,rfl⟩
 rw [ha1]
 obtain ⟨a2,ha2⟩ : ∃ a,Lr.vN bs s 2 = a := ⟨_,rfl⟩
 rw [ha2]
 obtain ⟨a3,ha3⟩ : ∃ a,Lr.vN bs s 3 = a := ⟨_,rfl⟩
 rw [ha3]
 obtain ⟨a4,ha4⟩ : ∃ a,Lr.vN bs s 4 = a := ⟨_,rfl⟩
 rw [ha4]
 obtain ⟨a5,ha5⟩ : ∃ a,Lr.vN bs s 5 = a := ⟨_,rfl⟩
 rw [ha5]
 obtain ⟨a6,ha6⟩ : ∃ a,Lr.vN bs s 6 = a := ⟨_,rfl⟩
 rw [ha6]
 obtain ⟨a7,ha7⟩ : ∃ a,Lr.vN bs s 7 = a := ⟨_,rfl⟩
 rw [ha7]
 obtain ⟨a8,ha8⟩ : ∃ a,Lr.vN bs s 8 = a := ⟨_,rfl⟩
 rw [ha8]
 obtain ⟨a9,ha9⟩ : ∃ a,Lr.vN bs s 9 = a := ⟨_,rfl⟩
 rw [ha9]
 obtain ⟨a10,ha10⟩ : ∃ a,(Lr.rFlag bs (Lr.sN bs s 10)).1 = a := ⟨_,rfl⟩
 rw [ha10]
 obtain ⟨a11,ha11⟩ : ∃ a,(rText bs 600 (Lr.sF bs s)).1 = a := ⟨_,rfl⟩
 rw [ha11]
 have HRT : Hid (∀ v : Sl,Lr.rT bs s v = ⟨a0,a1,a2,a3,a4,a5,a6,a7,a8,a9,a10,a11,v⟩) := Lib.hid fun v => by
  unfold Lr.rT
  rw [ha0,ha1,ha2,ha3,ha4,ha5,ha6,ha7,ha8,ha9,ha10,ha11]
 clear ha0 ha1 ha2 ha3 ha4 ha5 ha6 ha7 ha8 ha9 ha10 ha11
 go_wp2_with fail
 have hfin := Lr.heap_lay HX13.out.res ⟨a0,a1,a2,a3,a4,a5,a6,a7,a8,a9,a10,a11,⟨va,vn,vcp⟩⟩
 have HO2 := Lib.hid (Lr.own_lay HO.out (Nat.lt_succ_self _) ⟨a0,a1,a2,a3,a4,a5,a6,a7,a8,a9,a10,a11,⟨va,vn,vcp⟩⟩)
 have HR2 := Lib.hid (Lr.rd_lay HX13.out.rd HOff.out ⟨a0,a1,a2,a3,a4,a5,a6,a7,a8,a9,a10,a11,⟨va,vn,vcp⟩⟩)
 have HU2 := Lib.hid (Lr.upd_lay HX13.out.upd (Nat.le_refl _) ⟨a0,a1,a2,a3,a4,a5,a6,a7,a8,a9,a10,a11,⟨va,vn,vcp⟩⟩)
 obtain ⟨W,hWl⟩ : ∃ W,Lr.lay w13 w.heap.size ⟨a0,a1,a2,a3,a4,a5,a6,a7,a8,a9,a10,a11,⟨va,vn,vcp⟩⟩ = W := ⟨_,rfl⟩
 rw [hWl] at hfin HO2 HR2 HU2
 unfold Lr.lay at hWl
 dsimp only at hWl
 rw [hWl]
 refine bodyPost_ret (Lr.results_lr Try.results28 rfl hfin) rfl ?_
 exact ⟨⟨va,vn,vcp⟩,by rw [HRT.out],Et.own_mono HO2.out (Nat.le_succ _),HR2.out,HU2.out⟩
end Go.Proofs.Ytagjbjppddbalaa
namespace Go.Proofs.Ytagjbjppddbalaa
open Go.RowKit
open Mem Pk
theorem Lr.text_size (bs : List UInt8) (most : Int) (h : 0 ≤ most) (s : St) : ((rText bs most s).1.size : Int) ≤ most := by
 have h1 := rCount_pos bs most s
 have h2 := Lr.count_most bs most s
 have e : (rText bs most s).1.size = (((bs.take ((rCount bs most s).2.at' + (rCount bs most s).1.toNat)).drop (rCount bs most s).2.at')).length := by
  rw [← txt_len]
  rfl
 rw [e,List.length_drop,List.length_take]
 omega
theorem Lr.ents_short (bs : List UInt8) : ∀ (k : Nat) (s : St),∀ e ∈ (Lr.rEnts bs k s).1,Et.Short e
 | 0,s,e,he => by cases he
 | k + 1,s,e,he => by
  rw [Lr.rEnts] at he
  rcases List.mem_cons.1 he with rfl | he
  ·
   refine ⟨rNum_fit bs s,rNum_fit bs _,?_⟩
   have := Lr.text_size bs 1100 (by omega) (rNum bs (rNum bs s).2).2
   show (rText bs 1100 (rNum bs (rNum bs s).2).2).1.size ≤ 140737488355328
   omega
  · exact Lr.ents_short bs k _ e he
def Lr.GetE (w : World) (bs : List UInt8) (e : Ending) (w' : World) : Prop := ∃ r : Lr.T,e = .returned (.tuple #[Lr.val r,.int .i64 (Lr.getE bs)]) ∧ Lr.m r (Lr.getM bs).ents = Lr.getM bs ∧ Et.Own w' w.heap.size (.slice r.ents.ao r.ents.n r.ents.cap) (Lr.getM bs).ents ∧ (∀ x ∈ (Lr.getM bs).ents,Et.Short x) ∧ Below w.heap.size w w'
structure Gq (w u : World) (p : Nat) (bo : Option Addr) (n : Nat) (bs : List UInt8) (s : St) (g : Nat) (r : Lr.T) (l : List Et.T) : Prop where
 rd : Rd u p bo n n bs s
 bel : Below w.heap.size w u
 res : u.heap[w.heap.size]? = some (.cells #[.int .i64 0,.int .i64 0,.int .i64 0,.int .i64 0,.int .i64 0,.int .i64 0,.int .i64 0,.int .i64 0,.int .i64 0,.int .i64 0,.bool false,.string ⟨#[]⟩,.slice none 0 0] 24 (0,0))
 row : u.heap[g]? = some (.cells (Lr.rvA r) 24 (0,0))
 own : Et.Own u (p + 1) (.slice r.ents.ao r.ents.n r.ents.cap) l
 lt : w.heap.size < p
 gl : p < g
section
variable {w u v : World} {p n g : Nat} {bo : Option Addr} {bs : List UInt8} {s s' : St} {r : Lr.T} {l : List Et.T}
theorem Gq.cell (h : Gq w u p bo n bs s g r l) (i : Nat) : u.cell? ⟨w.heap.size,i,none⟩ = (#[.int .i64 0,.int .i64 0,.int .i64 0,.int .i64 0,.int .i64 0,.int .i64 0,.int .i64 0,.int .i64 0,.int .i64 0,.int .i64 0,.bool false,.string ⟨#[]⟩,.slice none 0 0] : Array Value)[i]? := cell_of_row u _ i _ _ _ h.res
theorem Gq.fz (h : Gq w u p bo n bs s g r l) (o : Nat) : u.frozen? ⟨w.heap.size,o,none⟩ = false := frozen_of_row u _ o _ _ h.res
theorem Gq.cellr (h : Gq w u p bo n bs s g r l) (i : Nat) : u.cell? ⟨g,i,none⟩ = (Lr.rvA r)[i]? := cell_of_row u _ i _ _ _ h.row
theorem Gq.below (h : Gq w u p bo n bs s g r l) (k : Below u.heap.size u v) : Gq w v p bo n bs s g r l :=
 ⟨h.rd.below k,bchain h.bel k,(k.block _ (Array.getElem?_eq_some_iff.1 h.res).1).trans h.res,(k.block _ (Array.getElem?_eq_some_iff.1 h.row).1).trans h.row,Et.own_below h.own k,h.lt,h.gl⟩
theorem Gq.call (h : Gq w u p bo n bs s g r l) (q : Rd v p bo n n bs s') (k : Upd u p v) : Gq w v p bo n bs s' g r l :=
 ⟨q,k.below w h.bel (Nat.le_of_lt h.lt),(k.block _ (Array.getElem?_eq_some_iff.1 h.res).1 (Nat.ne_of_lt h.lt)).trans h.res,(k.block _ (Array.getElem?_eq_some_iff.1 h.row).1 (Nat.ne_of_gt h.gl)).trans h.row,rows_upd h.own k (Nat.lt_succ_self _),h.lt,h.gl⟩
theorem Gq.ls (h : Gq w u p bo n bs s g r l) (hs : ∀ e ∈ l,Et.Short e) : Et.Ls u r.ents.ao r.ents.n r.ents.cap l := by
 obtain ⟨ao,cap,e,q,_⟩ := Et.own_ls h.own hs
 obtain ⟨z1,z2,z3⟩ := Value.slice.inj e
 rw [z1,z2,z3]
 exact q
theorem Lr.results_lr2 {fn : Func} {p q : Tmp} (h : fn.results = #[.cell p 24,.tmp q]) {tmps : Array Value} {w : World} {g : Nat} {r : Lr.T} {x : Value} (hp : tmps.getD p undef = .pointer (some ⟨g,0,none⟩))
  (hg : w.heap[g]? = some (.cells (Lr.rvA r) 24 (0,0))) (hx : tmps.getD q undef = x) : (results fn tmps).run Try.prog w = .ok (.tuple #[Lr.val r,x]) w := by
 have hp' : tmps[p]?.getD undef = .pointer (some ⟨g,0,none⟩) := by simpa using hp
 have hx' : tmps[q]?.getD undef = x := by simpa using hx
 have e1 := run_loadVar_row (P := Try.prog) w g 24 24 (Lr.rvA r) (0,0) _ hg Try.underlying24 rfl (by rw [Lr.lrInfo]; rfl)
 simp [results,h,hp',hx',asAddr,e1]
 rfl
theorem Lr.zero_val : Lr.val ⟨0,0,0,0,0,0,0,0,0,0,false,⟨#[]⟩,⟨none,0,0⟩⟩ = .agg #[.int .i64 0,.int .i64 0,.int .i64 0,.int .i64 0,.int .i64 0,.int .i64 0,.int .i64 0,.int .i64 0,.int .i64 0,.int .i64 0,.bool false,.string ⟨#[]⟩,.slice none 0 0] := rfl
theorem Gq.void (h : Gq w u p bo n bs s g r l) (x : Int) (hx : Lr.getE bs = x) (hz : Lr.getM bs = Lr.zeroM) : Lr.GetE w bs (.returned (.tuple #[Lr.val ⟨0,0,0,0,0,0,0,0,0,0,false,⟨#[]⟩,⟨none,0,0⟩⟩,.int .i64 x])) (Lr.lay u w.heap.size ⟨0,0,0,0,0,0,0,0,0,0,false,⟨#[]⟩,⟨none,0,0⟩⟩) := by
 refine ⟨⟨0,0,0,0,0,0,0,0,0,0,false,⟨#[]⟩,⟨none,0,0⟩⟩,by rw [hx],?_,?_,?_,Lr.below_lay h.bel (Nat.le_refl _) _⟩
 ·
  rw [hz]
  rfl
 ·
  rw [hz]
  exact Et.own_nil _ _
 ·
  rw [hz]
  intro x hx
  cases hx
theorem Gq.got (h : Gq w u p bo n bs s g r l) {M : Lr.M} (hl : l = M.ents) (hx : Lr.getE bs = 0) (hz : Lr.getM bs = M) (hr : Lr.m r M.ents = M) (hs : ∀ e ∈ l,Et.Short e) : Lr.GetE w bs (.returned (.tuple #[Lr.val r,.int .i64 0])) (Lr.lay u w.heap.size r) := by
 subst hl
 refine ⟨r,by rw [hx],by rw [hz,hr],?_,by rw [hz]; exact hs,Lr.below_lay h.bel (Nat.le_refl _) _⟩
 rw [hz]
 exact Et.own_mono (Lr.own_lay h.own (Nat.lt_succ_of_lt h.lt) _) (by have := h.lt; omega)
end
theorem lpack_read (bs : List UInt8) (ao : Option Addr) (m cap : Nat) (w : World) (hL : By.Ls w ao m cap bs) (hm : m ≤ 140737488355328) :
  Calls Try.prog 27 #[.slice ao m cap] w fun e w' => (∃ p bo,e = .returned (.pointer (some ⟨p,0,none⟩)) ∧ w.heap.size ≤ p ∧ Rd w' p bo m m bs ⟨0,0⟩) ∧ Below w.heap.size w w' := by
 have hmk := By.make m (by omega)
 have hb0 := By.block_made w m
 have hB1 := (Below.refl w.heap.size w).alloc (Nat.le_refl _) (.cells (By.zeros m) 5)
 obtain ⟨W1,hcp,hblk,hbel,hsz⟩ := By.copy (w.alloc (.cells (By.zeros m) 5)) w.heap.size 0 [] [] m ao m cap bs (by simpa using hb0) rfl hL.len (hL.below hB1).seg (some ⟨w.heap.size,0,none⟩) (fun _ => rfl)
 rw [List.length_nil,Nat.add_zero] at hcp
 rw [List.nil_append,List.append_nil] at hblk
 have HB1 := Lib.hid (hbel _ _ hB1 (Nat.le_refl _))
 have HBk := Lib.hid hblk
 have HLen := Lib.hid hL.len
 have hcap := hL.reach
 have hs1 : W1.heap.size = w.heap.size + 1 := by rw [hsz]; simp
 clear hL hb0 hblk hbel hB1 hsz
 go_enter Try.func27,Try.ntmps27
 go_wp2
 go_ret
 have bx : Below W1.heap.size W1 (W1.alloc (.cells #[.slice (some ⟨w.heap.size,0,none⟩) m m,.int .i64 0,.int .i64 0] 73)) := (Below.refl _ _).alloc (Nat.le_refl _) _
 have hls := (HBk.out.ls (by rw [← HLen.out]; omega)).below bx
 rw [← HLen.out] at hls
 refine ⟨⟨w.heap.size + 1,some ⟨w.heap.size,0,none⟩,rfl,by omega,?_⟩,bchain HB1.out bx⟩
 rw [← hs1]
 exact ⟨by simp [go_sem],by simp [go_sem],by simp [go_sem],fun o => by simp [go_sem],hls,fun b off e => by cases e; omega,by show 0 ≤ m; omega⟩
set_option maxHeartbeats 2000000 in
theorem lt_get (bs : List UInt8) (ao : Option Addr) (n cap : Nat) (w : World) (hL : By.Ls w ao n cap bs) (hm : n ≤ 140737488355328) : Calls Try.prog 10 #[.slice ao n cap] w (Lr.GetE w bs) := by
 obtain ⟨w0,hw0⟩ : ∃ U,w.alloc (.cells #[.int .i64 0,.int .i64 0,.int .i64 0,.int .i64 0,.int .i64 0,.int .i64 0,.int .i64 0,.int .i64 0,.int .i64 0,.int .i64 0,.bool false,.string ⟨#[]⟩,.slice none 0 0] 24) = U := ⟨_,rfl⟩
 have hb0 : Below w.heap.size w w0 := hw0 ▸ (Below.refl _ _).alloc (Nat.le_refl _) _
 have HB0 := Lib.hid hb0
 have HL := Lib.hid (hL.below hb0)
 have HRs : Hid (w0.heap[w.heap.size]? = some (.cells #[.int .i64 0,.int .i64 0,.int .i64 0,.int .i64 0,.int .i64 0,.int .i64 0,.int .i64 0,.int .i64 0,.int .i64 0,.int .i64 0,.bool false,.string ⟨#[]⟩,.slice none 0 0] 24 (0,0))) := Lib.hid (hw0 ▸ heap_alloc_new w _)
 have hs0 : w0.heap.size = w.heap.size + 1 := by rw [← hw0]; simp
 have HS0 := Lib.hid hs0
 have hcap := hL.reach
 have hfit := hL.fits
 clear hL hb0 hs0
 go_enter Try.func10,Try.ntmps10
 go_wp2_with fail
 try rw [hw0]
 clear hw0
 refine (lpack_read bs ao n cap w0 HL.out hm).mono ?_
 rintro e w1 ⟨⟨p,bo,rfl,hp,r1⟩,b1⟩
 have HR1 := Lib.hid r1
 have HB1 := Lib.hid b1
 have HP := Lib.hid hp
 clear r1 b1 hp
 go_wp2_with fail
 refine (lt_read p bo n n bs Wl.s0 w1 HR1.out).mono ?_
 rintro e w2 ⟨⟨va,vn,vcp⟩,rfl,o2,r2,k2⟩
 have HRM : Hid (Lr.m (Lr.rT bs Wl.s0 ⟨va,vn,vcp⟩) (Lr.rM bs Wl.s0).ents = Lr.rM bs Wl.s0) := Lib.hid rfl
 have HEn : Hid ((Lr.rT bs Wl.s0 ⟨va,vn,vcp⟩).ents = ⟨va,vn,vcp⟩) := Lib.hid rfl
 have HGE : Hid (Lr.getE bs = if (rEnd bs (Lr.eM bs Wl.s0)).1 ≠ 0 then (rEnd bs (Lr.eM bs Wl.s0)).1 else if Lr.rightB (Lr.rM bs Wl.s0) = true then 0 else 4) := Lib.hid rfl
 have HGM : Hid (Lr.getM bs = if (rEnd bs (Lr.eM bs Wl.s0)).1 = 0 ∧ Lr.rightB (Lr.rM bs Wl.s0) = true then Lr.rM bs Wl.s0 else Lr.zeroM) := Lib.hid rfl
 have HSh : Hid (∀ e ∈ (Lr.rM bs Wl.s0).ents,Et.Short e) := Lib.hid (Lr.ents_short bs _ _)
 obtain ⟨R,hR⟩ : ∃ R,Lr.rT bs Wl.s0 ⟨va,vn,vcp⟩ = R := ⟨_,rfl⟩
 rw [hR] at HRM HEn ⊢
 clear hR
 generalize Lr.eM bs Wl.s0 = sE at r2 HGE HGM
 generalize Lr.rM bs Wl.s0 = M at o2 HRM HGE HGM HSh
 have hbx := Lr.below_own w2 R
 have HQ : Hid (Gq w (Lr.box w2 R) p bo n bs sE w2.heap.size R M.ents) := Lib.hid (by
  have h1 := HR1.out.c1
  have h0 := (Array.getElem?_eq_some_iff.1 HRs.out).1
  have hp := HP.out
  have hs := HS0.out
  have hu : Upd w0 p w2 := (Upd.of p HB1.out).trans k2
  have hz := hu.size
  refine ⟨r2.below hbx,bchain (hu.below w HB0.out (by omega)) hbx,?_,?_,?_,by omega,by have := cell_lt h1; have := k2.size; omega⟩
  ·
   rw [hbx.block _ (by omega),hu.block _ h0 (by omega)]
   exact HRs.out
  · exact heap_alloc_new w2 _
  ·
   have o3 := Et.own_below (Et.own_mono o2 (cell_lt h1)) hbx
   rw [HEn.out]
   exact o3)
 clear o2 r2 k2 hbx HEn HL HR1 HB1 HP HRs HB0 HS0
 obtain ⟨w3,hw3⟩ : ∃ W,Lr.box w2 R = W := ⟨_,rfl⟩
 rw [hw3] at HQ
 unfold Lr.box at hw3
 unfold Lr.val
 obtain ⟨g,hg⟩ : ∃ g,w2.heap.size = g := ⟨_,rfl⟩
 rw [hg] at HQ
 go_wp2_with fail
 try rw [hw3]
 try rw [hg]
 refine (rd_end p bo n n bs sE _ HQ.out.rd).mono ?_
 rintro e w4 ⟨rfl,r4,k4⟩
 have HQ4 := Lib.hid (HQ.out.call r4 k4)
 clear r4 k4 hw3 hg HQ
 generalize (rEnd bs sE).2 = s5 at HQ4
 generalize (rEnd bs sE).1 = z at HGE HGM ⊢
 have hne : w.heap.size ≠ g := by
  have h1 := HQ4.out.lt
  have h2 := HQ4.out.gl
  omega
 by_cases hz : z = 0
 ·
  subst hz
  have HLs := HQ4.out.ls HSh.out
  have HCr := Lib.hid (lt_right R M.ents w4 HLs)
  rw [HRM.out] at HCr
  unfold Lr.val at HCr
  cases hq : Lr.rightB M
  ·
   rw [hq] at HCr HGE HGM
   have HE1 : Hid (Lr.getE bs = 4) := Lib.hid (by rw [HGE.out]; rfl)
   have HM1 : Hid (Lr.getM bs = Lr.zeroM) := Lib.hid (by rw [HGM.out]; exact if_neg (fun z => by cases z.2))
   clear hq HGE HGM HLs hne
   have c0 := HQ4.out.cellr 0
   have c1 := HQ4.out.cellr 1
   have c2 := HQ4.out.cellr 2
   have c3 := HQ4.out.cellr 3
   have c4 := HQ4.out.cellr 4
   have c5 := HQ4.out.cellr 5
   have c6 := HQ4.out.cellr 6
   have c7 := HQ4.out.cellr 7
   have c8 := HQ4.out.cellr 8
   have c9 := HQ4.out.cellr 9
   have c10 := HQ4.out.cellr 10
   have c11 := HQ4.out.cellr 11
   have c12 := HQ4.out.cellr 12
   unfold Lr.rvA at c0 c1 c2 c3 c4 c5 c6 c7 c8 c9 c10 c11 c12
   simp only [List.getElem?_toArray,List.getElem?_cons_zero,List.getElem?_cons_succ] at c0 c1 c2 c3 c4 c5 c6 c7 c8 c9 c10 c11 c12
   go_wp2_with (go_at_call 17; refine HCr.out.mono ?_)
   rintro e w5 ⟨rfl,b5⟩
   have HQ5 := Lib.hid (HQ4.out.below b5)
   clear b5 HQ4 c0 c1 c2 c3 c4 c5 c6 c7 c8 c9 c10 c11 c12
   have x0 := HQ5.out.cell 0
   have x1 := HQ5.out.cell 1
   have x2 := HQ5.out.cell 2
   have x3 := HQ5.out.cell 3
   have x4 := HQ5.out.cell 4
   have x5 := HQ5.out.cell 5
   have x6 := HQ5.out.cell 6
   have x7 := HQ5.out.cell 7
   have x8 := HQ5.out.cell 8
   have x9 := HQ5.out.cell 9
   have x10 := HQ5.out.cell 10
   have x11 := HQ5.out.cell 11
   have x12 := HQ5.out.cell 12
   have q0 := HQ5.out.fz 0
   have q1 := HQ5.out.fz 1
   have q2 := HQ5.out.fz 2
   have q3 := HQ5.out.fz 3
   have q4 := HQ5.out.fz 4
   have q5 := HQ5.out.fz 5
   have q6 := HQ5.out.fz 6
   have q7 := HQ5.out.fz 7
   have q8 := HQ5.out.fz 8
   have q9 := HQ5.out.fz 9
   have q10 := HQ5.out.fz 10
   have q11 := HQ5.out.fz 11
   have q12 := HQ5.out.fz 12
   simp only [List.getElem?_toArray,List.getElem?_cons_zero,List.getElem?_cons_succ] at x0 x1 x2 x3 x4 x5 x6 x7 x8 x9 x10 x11 x12
   go_wp2_with fail
   have hfin := Lr.heap_lay HQ5.out.res ⟨0,0,0,0,0,0,0,0,0,0,false,⟨#[]⟩,⟨none,0,0⟩⟩
   have HF := Lib.hid (HQ5.out.void 4 HE1.out HM1.out)
   obtain ⟨W,hWl⟩ : ∃ W,Lr.lay w5 w.heap.size ⟨0,0,0,0,0,0,0,0,0,0,false,⟨#[]⟩,⟨none,0,0⟩⟩ = W := ⟨_,rfl⟩
   rw [hWl] at hfin HF
   unfold Lr.lay at hWl
   try dsimp only at hWl
   rw [hWl]
   exact bodyPost_ret (Lr.results_lr2 Try.results10 rfl hfin rfl) rfl HF.out
  ·
   rw [hq] at HCr HGE HGM
   have HE1 : Hid (Lr.getE bs = 0) := Lib.hid (by rw [HGE.out]; rfl)
   have HM1 : Hid (Lr.getM bs = M) := Lib.hid (by rw [HGM.out]; exact if_pos ⟨rfl,rfl⟩)
   clear hq HGE HGM HLs
   have c0 := HQ4.out.cellr 0
   have c1 := HQ4.out.cellr 1
   have c2 := HQ4.out.cellr 2
   have c3 := HQ4.out.cellr 3
   have c4 := HQ4.out.cellr 4
   have c5 := HQ4.out.cellr 5
   have c6 := HQ4.out.cellr 6
   have c7 := HQ4.out.cellr 7
   have c8 := HQ4.out.cellr 8
   have c9 := HQ4.out.cellr 9
   have c10 := HQ4.out.cellr 10
   have c11 := HQ4.out.cellr 11
   have c12 := HQ4.out.cellr 12
   unfold Lr.rvA at c0 c1 c2 c3 c4 c5 c6 c7 c8 c9 c10 c11 c12
   simp only [List.getElem?_toArray,List.getElem?_cons_zero,List.getElem?_cons_succ] at c0 c1 c2 c3 c4 c5 c6 c7 c8 c9 c10 c11 c12
   go_wp2_with (go_at_call 17; refine HCr.out.mono ?_)
   rintro e w5 ⟨rfl,b5⟩
   have HQ5 := Lib.hid (HQ4.out.below b5)
   clear b5 HQ4 c0 c1 c2 c3 c4 c5 c6 c7 c8 c9 c10 c11 c12
   have c0 := HQ5.out.cellr 0
   have c1 := HQ5.out.cellr 1
   have c2 := HQ5.out.cellr 2
   have c3 := HQ5.out.cellr 3
   have c4 := HQ5.out.cellr 4
   have c5 := HQ5.out.cellr 5
   have c6 := HQ5.out.cellr 6
   have c7 := HQ5.out.cellr 7
   have c8 := HQ5.out.cellr 8
   have c9 := HQ5.out.cellr 9
   have c10 := HQ5.out.cellr 10
   have c11 := HQ5.out.cellr 11
   have c12 := HQ5.out.cellr 12
   unfold Lr.rvA at c0 c1 c2 c3 c4 c5 c6 c7 c8 c9 c10 c11 c12
   simp only [List.getElem?_toArray,List.getElem?_cons_zero,List.getElem?_cons_succ] at c0 c1 c2 c3 c4 c5 c6 c7 c8 c9 c10 c11 c12
   have x0 := HQ5.out.cell 0
   have x1 := HQ5.out.cell 1
   have x2 := HQ5.out.cell 2
   have x3 := HQ5.out.cell 3
   have x4 := HQ5.out.cell 4
   have x5 := HQ5.out.cell 5
   have x6 := HQ5.out.cell 6
   have x7 := HQ5.out.cell 7
   have x8 := HQ5.out.cell 8
   have x9 := HQ5.out.cell 9
   have x10 := HQ5.out.cell 10
   have x11 := HQ5.out.cell 11
   have x12 := HQ5.out.cell 12
   have q0 := HQ5.out.fz 0
   have q1 := HQ5.out.fz 1
   have q2 := HQ5.out.fz 2
   have q3 := HQ5.out.fz 3
   have q4 := HQ5.out.fz 4
   have q5 := HQ5.out.fz 5
   have q6 := HQ5.out.fz 6
   have q7 := HQ5.out.fz 7
   have q8 := HQ5.out.fz 8
   have q9 := HQ5.out.fz 9
   have q10 := HQ5.out.fz 10
   have q11 := HQ5.out.fz 11
   have q12 := HQ5.out.fz 12
   simp only [List.getElem?_toArray,List.getElem?_cons_zero,List.getElem?_cons_succ] at x0 x1 x2 x3 x4 x5 x6 x7 x8 x9 x10 x11 x12
   go_wp2_with fail
   have hfin := Lr.heap_lay HQ5.out.res R
   have HF := Lib.hid (HQ5.out.got rfl HE1.out HM1.out HRM.out HSh.out)
   obtain ⟨W,hWl⟩ : ∃ W,Lr.lay w5 w.heap.size R = W := ⟨_,rfl⟩
   rw [hWl] at hfin HF
   unfold Lr.lay at hWl
   try dsimp only at hWl
   rw [hWl]
   exact bodyPost_ret (Lr.results_lr2 Try.results10 rfl hfin rfl) rfl HF.out
 ·
  have HE1 : Hid (Lr.getE bs = z) := Lib.hid (by rw [HGE.out]; exact if_pos hz)
  have HM1 : Hid (Lr.getM bs = Lr.zeroM) := Lib.hid (by rw [HGM.out]; exact if_neg (fun q => hz q.1))
  have qz : (z != 0) = true := bne_iff_ne.2 hz
  clear hz HGE HGM hne
  have x0 := HQ4.out.cell 0
  have x1 := HQ4.out.cell 1
  have x2 := HQ4.out.cell 2
  have x3 := HQ4.out.cell 3
  have x4 := HQ4.out.cell 4
  have x5 := HQ4.out.cell 5
  have x6 := HQ4.out.cell 6
  have x7 := HQ4.out.cell 7
  have x8 := HQ4.out.cell 8
  have x9 := HQ4.out.cell 9
  have x10 := HQ4.out.cell 10
  have x11 := HQ4.out.cell 11
  have x12 := HQ4.out.cell 12
  have q0 := HQ4.out.fz 0
  have q1 := HQ4.out.fz 1
  have q2 := HQ4.out.fz 2
  have q3 := HQ4.out.fz 3
  have q4 := HQ4.out.fz 4
  have q5 := HQ4.out.fz 5
  have q6 := HQ4.out.fz 6
  have q7 := HQ4.out.fz 7
  have q8 := HQ4.out.fz 8
  have q9 := HQ4.out.fz 9
  have q10 := HQ4.out.fz 10
  have q11 := HQ4.out.fz 11
  have q12 := HQ4.out.fz 12
  simp only [List.getElem?_toArray,List.getElem?_cons_zero,List.getElem?_cons_succ] at x0 x1 x2 x3 x4 x5 x6 x7 x8 x9 x10 x11 x12
  go_wp2_with fail
  have hfin := Lr.heap_lay HQ4.out.res ⟨0,0,0,0,0,0,0,0,0,0,false,⟨#[]⟩,⟨none,0,0⟩⟩
  have HF := Lib.hid (HQ4.out.void z HE1.out HM1.out)
  obtain ⟨W,hWl⟩ : ∃ W,Lr.lay w4 w.heap.size ⟨0,0,0,0,0,0,0,0,0,0,false,⟨#[]⟩,⟨none,0,0⟩⟩ = W := ⟨_,rfl⟩
  rw [hWl] at hfin HF
  unfold Lr.lay at hWl
  try dsimp only at hWl
  rw [hWl]
  exact bodyPost_ret (Lr.results_lr2 Try.results10 rfl hfin rfl) rfl HF.out
end Go.Proofs.Ytagjbjppddbalaa
namespace Go.Proofs.Ytagjbjppddbalaa.Et
open Go.RowKit
open Mem
open Go.Sort (grow)
def eqB (a b : T) : Bool := decide (a.term = b.term ∧ a.mem = b.mem ∧ a.data = b.data)
theorem eqB_iff (a b : T) : eqB a b = true ↔ a = b := by
 unfold eqB
 rw [decide_eq_true_iff]
 cases a
 cases b
 simp
def sameB : List T → List T → Bool
 | [],[] => true
 | a :: l,b :: m => eqB a b && sameB l m
 | _,_ => false
theorem sameB_iff : ∀ l m : List T,sameB l m = true ↔ l = m
 | [],[] => by simp [sameB]
 | [],_ :: _ => by simp [sameB]
 | _ :: _,[] => by simp [sameB]
 | a :: l,b :: m => by
  rw [sameB,Bool.and_eq_true,eqB_iff,sameB_iff l m,List.cons.injEq]
theorem sameB_self (l : List T) : sameB l l = true := (sameB_iff l l).2 rfl
theorem sameB_len {l m : List T} (h : l.length ≠ m.length) : sameB l m = false := by
 rw [Bool.eq_false_iff]
 intro k
 exact h (congrArg List.length ((sameB_iff l m).1 k))
theorem same_at (l m : List T) (k : Nat) (h : k < l.length) (h' : k < m.length) : sameB (l.drop k) (m.drop k) = (eqB l[k] m[k] && sameB (l.drop (k + 1)) (m.drop (k + 1))) := by
 rw [List.drop_eq_getElem_cons h,List.drop_eq_getElem_cons h',sameB]
set_option maxHeartbeats 4000000 in
theorem same_any (xs ys : List T) (ao bo : Option Addr) (n m ca cb : Nat) (w0 w : World) (hw : Below w0.heap.size w0 w) (hA : Ls w ao n ca xs) (hB : Ls w bo m cb ys) :
  Calls Try.prog 30 #[.slice ao n ca,.slice bo m cb] w fun e w' => e = .returned (.bool (sameB xs ys)) ∧ Below w0.heap.size w0 w' := by
 have HW := Lib.hid hw
 have HA := Lib.hid hA
 have HB := Lib.hid hB
 have HN := Lib.hid hA.len
 have HM := Lib.hid hB.len
 have hca := hA.reach
 have hfa := hA.fits
 have hcb := hB.reach
 have hfb := hB.fits
 clear hw hA hB
 by_cases hnm : n = m
 ·
  subst hnm
  have hne : ((n : Int) != (n : Int)) = false := bne_self_eq_false _
  go_enter Try.func30,Try.ntmps30
  go_wp2
  go_loopw [5] (fun i wr => ∃ k : Nat,k ≤ n ∧ i = .int .i64 k ∧ Hid (sameB (xs.drop k) (ys.drop k) = sameB xs ys) ∧ Hid (Below w.heap.size w wr)) (fun i _ => n - (intOf i).toNat)
  case atStart => exact ⟨0,Nat.zero_le _,rfl,Lib.hid rfl,Lib.hid (Below.refl _ _)⟩
  case round =>
   obtain ⟨k,hk,rfl,HK,HBz⟩ := hrel
   by_cases hlt : k < n
   ·
    obtain ⟨a,oa,rfl⟩ := HA.out.at (by omega)
    obtain ⟨b,ob,rfl⟩ := HB.out.at (by omega)
    have hkr : k < xs.length := HN.out ▸ hlt
    have hks : k < ys.length := HM.out ▸ hlt
    have HSt := Lib.hid (same_at xs ys k hkr hks)
    obtain ⟨r,hr⟩ : ∃ r,xs[k] = r := ⟨_,rfl⟩
    obtain ⟨s,hs⟩ : ∃ s,ys[k] = s := ⟨_,rfl⟩
    have h1 := (HA.out.row k hkr).below HBz.out
    have h2 := (HB.out.row k hks).below HBz.out
    rw [hr] at h1 HSt
    rw [hs] at h2 HSt
    clear hr hs
    obtain ⟨g0,g1,g2⟩ := h1
    obtain ⟨f0,f1,f2⟩ := h2
    have g0' := cell_regrown g0
    have g1' := cell_regrown g1
    have g2' := cell_regrown g2
    have f0' := cell_regrown f0
    have f1' := cell_regrown f1
    have f2' := cell_regrown f2
    clear g0 g1 g2 f0 f1 f2
    by_cases e0 : r.term = s.term
    ·
     have q0 : (r.term == s.term) = true := beq_iff_eq.2 e0
     by_cases e1 : r.mem = s.mem
     ·
      have q1 : (r.mem == s.mem) = true := beq_iff_eq.2 e1
      by_cases e2 : r.data = s.data
      ·
       have q2 : (r.data.toList == s.data.toList) = true := beq_iff_eq.2 (by rw [e2])
       have HE : Hid (eqB r s = true) := Lib.hid (decide_eq_true ⟨e0,e1,e2⟩)
       clear e0 e1 e2
       go_wp2
       refine wp_region_quiet_below (by kernel_rfl) (by kernel_rfl) ?_
       repeat (first | go_big_quiet_step (fail) | quiet_step (fail))
       refine wpQuiet_nil ?_
       intro _ hw'
       obtain ⟨⟨dq,osq⟩,hw''⟩ := hw'
       subst hw''
       have HBv := Lib.hid (bchain HBz.out (below_regrown wr dq osq))
       go_wp2
       go_roundw
       case rel => exact ⟨k + 1,by omega,by go_num,Lib.hid (by rw [← HK.out,HSt.out,HE.out,Bool.true_and]),HBv⟩
       case measure => simp [intOf]; omega
      ·
       have q2 : (r.data.toList == s.data.toList) = false := beq_eq_false_iff_ne.2 fun h => e2 (txt_ext (by rw [← tl,← tl]; exact h))
       have HE : Hid (eqB r s = false) := Lib.hid (decide_eq_false fun h => e2 h.2.2)
       clear e0 e1 e2
       go_wp2
       refine wp_region_quiet_below (by kernel_rfl) (by kernel_rfl) ?_
       repeat (first | go_big_quiet_step (fail) | quiet_step (fail))
       refine wpQuiet_nil ?_
       intro _ hw'
       obtain ⟨⟨dq,osq⟩,hw''⟩ := hw'
       subst hw''
       have HBv := Lib.hid (bchain HBz.out (below_regrown wr dq osq))
       go_wp2
       go_ret
       exact ⟨ret_bool (by rw [← HK.out,HSt.out,HE.out,Bool.false_and]),bchain HW.out HBv.out⟩
     ·
      have q1 : (r.mem == s.mem) = false := beq_eq_false_iff_ne.2 e1
      have HE : Hid (eqB r s = false) := Lib.hid (decide_eq_false fun h => e1 h.2.1)
      clear e0 e1
      go_wp2
      refine wp_region_quiet_below (by kernel_rfl) (by kernel_rfl) ?_
      repeat (first | go_big_quiet_step (fail) | quiet_step (fail))
      refine wpQuiet_nil ?_
      intro _ hw'
      obtain ⟨⟨dq,osq⟩,hw''⟩ := hw'
      subst hw''
      have HBv := Lib.hid (bchain HBz.out (below_regrown wr dq osq))
      go_wp2
      go_ret
      exact ⟨ret_bool (by rw [← HK.out,HSt.out,HE.out,Bool.false_and]),bchain HW.out HBv.out⟩
    ·
     have q0 : (r.term == s.term) = false := beq_eq_false_iff_ne.2 e0
     have HE : Hid (eqB r s = false) := Lib.hid (decide_eq_false fun h => e0 h.1)
     clear e0
     go_wp2
     refine wp_region_quiet_below (by kernel_rfl) (by kernel_rfl) ?_
     repeat (first | go_big_quiet_step (fail) | quiet_step (fail))
     refine wpQuiet_nil ?_
     intro _ hw'
     obtain ⟨⟨dq,osq⟩,hw''⟩ := hw'
     subst hw''
     have HBv := Lib.hid (bchain HBz.out (below_regrown wr dq osq))
     go_wp2
     go_ret
     exact ⟨ret_bool (by rw [← HK.out,HSt.out,HE.out,Bool.false_and]),bchain HW.out HBv.out⟩
   ·
    obtain rfl : k = n := by omega
    go_wp2
    go_ret
    refine ⟨ret_bool ?_,HW.out.trans (HBz.out.mono HW.out.size)⟩
    rw [← HK.out,List.drop_eq_nil_of_le (Nat.le_of_eq HN.out.symm),List.drop_eq_nil_of_le (Nat.le_of_eq HM.out.symm)]
    rfl
 ·
  have HE := Lib.hid (sameB_len (l := xs) (m := ys) (by rw [← HN.out,← HM.out]; exact hnm))
  have hne : ((n : Int) != (m : Int)) = true := bne_iff_ne.2 (by omega)
  go_enter Try.func30,Try.ntmps30
  go_wp2
  go_ret
  exact ⟨ret_bool HE.out.symm,HW.out⟩
theorem same_rows (xs : List T) (ao bo : Option Addr) (n ca cb : Nat) (w0 w : World) (hw : Below w0.heap.size w0 w) (hA : Ls w ao n ca xs) (hB : Ls w bo n cb xs) :
  Calls Try.prog 30 #[.slice ao n ca,.slice bo n cb] w fun e w' => e = .returned (.bool true) ∧ Below w0.heap.size w0 w' := by
 have h := same_any xs xs ao bo n n ca cb w0 w hw hA hB
 rw [sameB_self] at h
 exact h
end Go.Proofs.Ytagjbjppddbalaa.Et
namespace Go.Proofs.Ytagjbjppddbalaa
open Go.RowKit
open Mem Pk
def Lr.with (r : Lr.T) (s : Sl) : Lr.T := ⟨r.kind,r.frm,r.to,r.term,r.idx,r.bt,r.com,r.mem,r.off,r.size,r.yes,r.data,s⟩
theorem Lr.of_m {a b : Lr.T} {l : List Et.T} (h : Lr.m a l = Lr.m b l) : b = Lr.with a b.ents := by
 unfold Lr.m at h
 injection h with h1 h2 h3 h4 h5 h6 h7 h8 h9 h10 h11 h12 _
 obtain ⟨b1,b2,b3,b4,b5,b6,b7,b8,b9,b10,b11,b12,b13⟩ := b
 simp only at h1 h2 h3 h4 h5 h6 h7 h8 h9 h10 h11 h12
 subst h1 h2 h3 h4 h5 h6 h7 h8 h9 h10 h11 h12
 rfl
set_option maxHeartbeats 2000000 in
theorem lw_same (r : Lr.T) (s : Sl) (l : List Et.T) (w : World) (hA : Et.Ls w r.ents.ao r.ents.n r.ents.cap l) (hB : Et.Ls w s.ao s.n s.cap l) :
  Calls Try.prog 12 #[Lr.val r,Lr.val (Lr.with r s)] w fun e w' => e = .returned (.bool true) ∧ Below w.heap.size w w' := by
 have hz : Below w.heap.size w ((Lr.box w r).alloc (.cells (Lr.rvA (Lr.with r s)) 24)) := (Lr.below_own w r).alloc (Nat.le_of_lt (by rw [Lr.box_size]; omega)) _
 have HB := Lib.hid hz
 have HS := Lib.hid (Et.same_any l l r.ents.ao s.ao r.ents.n s.n r.ents.cap s.cap w _ hz (hA.below hz) (hB.below hz))
 rw [Et.sameB_self] at HS
 unfold Lr.box Lr.rvA Lr.with at HS
 dsimp only at HS
 clear hA hB hz
 unfold Lr.val Lr.with
 dsimp only
 go_enter Try.func12,Try.ntmps12
 go_wp2_with (go_at_call 30; refine HS.out.mono ?_; rintro e w1 ⟨rfl,b1⟩; have HB1 := Lib.hid b1; clear b1)
 go_ret
 exact ⟨rfl,HB1.out⟩
def Lr.few (r : Lr.T) : Lr.T := if 20 < r.ents.n then Lr.with r ⟨r.ents.ao,20,r.ents.cap⟩ else r
theorem Lr.few_ls {r : Lr.T} {l : List Et.T} {w : World} (h : Et.Ls w r.ents.ao r.ents.n r.ents.cap l) : Et.Ls w (Lr.few r).ents.ao (Lr.few r).ents.n (Lr.few r).ents.cap (l.take 20) ∧ (Lr.few r).ents.n ≤ 20 := by
 unfold Lr.few
 by_cases k : 20 < r.ents.n
 ·
  rw [if_pos k]
  exact ⟨(h.to 20 (by omega)).2,Nat.le_refl _⟩
 ·
  rw [if_neg k,List.take_of_length_le (by have := h.len; omega)]
  exact ⟨h,by omega⟩
theorem Lr.few_m (r : Lr.T) (l : List Et.T) : Lr.m (Lr.few r) l = Lr.m r l := by
 unfold Lr.few
 split <;> rfl
set_option maxHeartbeats 2000000 in
theorem lw_few (r : Lr.T) (l : List Et.T) (w : World) (hA : Et.Ls w r.ents.ao r.ents.n r.ents.cap l) :
  Calls Try.prog 13 #[Lr.val r] w fun e w' => e = .returned (Lr.val (Lr.few r)) ∧ Below w.heap.size w w' := by
 have hr := hA.reach
 have hf := hA.fits
 by_cases k : 20 < r.ents.n
 ·
  have hs := (hA.to 20 (by omega)).1
  have k' : (20 : Int) < (r.ents.n : Int) := by omega
  unfold Lr.few
  rw [if_pos k]
  clear hA k
  unfold Lr.val Lr.with
  dsimp only
  go_enter Try.func13,Try.ntmps13
  go_wp2
  exact bodyPost_ret (v := .agg #[.int .i64 r.kind,.int .i64 r.frm,.int .i64 r.to,.int .i64 r.term,.int .i64 r.idx,.int .i64 r.bt,.int .i64 r.com,.int .i64 r.mem,.int .i64 r.off,.int .i64 r.size,.bool r.yes,.string r.data,.slice r.ents.ao 20 r.ents.cap]) (by simp [results,Try.results13,go_sem]) rfl ⟨rfl,below_box (below_box (Below.refl _ _) _) _⟩
 ·
  have k' : ¬ (20 : Int) < (r.ents.n : Int) := by omega
  unfold Lr.few
  rw [if_neg k]
  clear hA k
  unfold Lr.val
  go_enter Try.func13,Try.ntmps13
  go_wp2
  exact bodyPost_ret (v := .agg #[.int .i64 r.kind,.int .i64 r.frm,.int .i64 r.to,.int .i64 r.term,.int .i64 r.idx,.int .i64 r.bt,.int .i64 r.com,.int .i64 r.mem,.int .i64 r.off,.int .i64 r.size,.bool r.yes,.string r.data,.slice r.ents.ao r.ents.n r.ents.cap]) (by simp [results,Try.results13,go_sem]) rfl ⟨rfl,below_box (below_box (Below.refl _ _) _) _⟩
end Go.Proofs.Ytagjbjppddbalaa
namespace Go.Proofs.Ytagjbjppddbalaa
open Go.RowKit
open Mem Pk
def Lr.r0 : Lr.T := ⟨2,0,1,1,0,0,0,0,0,0,true,⟨#[]⟩,⟨none,0,0⟩⟩
def Lr.r1 : Lr.T := ⟨2,0,0,1,0,0,0,0,0,0,false,⟨#[]⟩,⟨none,0,0⟩⟩
def Lr.r2 : Lr.T := ⟨2,0,1,1,1,0,0,0,0,0,false,⟨#[]⟩,⟨none,0,0⟩⟩
def Lr.bs0 : List UInt8 := [4,0,2,2,0,0,0,0,0,0,2,0,0]
theorem Lr.right_0 : Lr.rightB (Lr.m Lr.r0 []) = true := by decide +kernel
theorem Lr.bytes_0 : (Lr.m Lr.r0 []).bytes = Lr.bs0 := by decide +kernel
theorem Lr.put_0 : Lr.putM (Lr.m Lr.r0 []) = Lr.bs0 := by
 unfold Lr.putM
 rw [Lr.right_0,if_pos rfl,Lr.bytes_0]
theorem Lr.get_0 : Lr.getE Lr.bs0 = 0 ∧ Lr.getM Lr.bs0 = Lr.m Lr.r0 [] := by
 rw [← Lr.bytes_0]
 exact ⟨(Lr.get_bytes Lr.right_0).2,(Lr.get_bytes Lr.right_0).1⟩
theorem Lr.tail_0 : Lr.getE (Lr.bs0 ++ [0]) = 5 := by decide +kernel
theorem Lr.put_1 : Lr.putM (Lr.m Lr.r1 []) = [] := by decide +kernel
theorem Lr.put_2 : Lr.putM (Lr.m Lr.r2 []) = [] := by decide +kernel
set_option maxHeartbeats 4000000 in
theorem lruns (w : World) : Calls Try.prog 3 #[] w fun e w' => e = .returned (.bool true) ∧ Below w.heap.size w w' := by
 obtain ⟨w0,hw0⟩ : ∃ U,Lr.box w Lr.r0 = U := ⟨_,rfl⟩
 have hb0 : Below w.heap.size w w0 := hw0 ▸ Lr.below_own w Lr.r0
 have HC0 : Hid (Lr.C w0 w.heap.size Lr.r0) := Lib.hid (hw0 ▸ Lr.c_box w Lr.r0)
 have HB0 := Lib.hid hb0
 have HP := Lib.hid (fun u => Lr.lt_put Lr.r0 [] u (Et.ls_nil u))
 have HP1 := Lib.hid (fun u => Lr.lt_put Lr.r1 [] u (Et.ls_nil u))
 have HP2 := Lib.hid (fun u => Lr.lt_put Lr.r2 [] u (Et.ls_nil u))
 rw [Lr.put_0] at HP
 rw [Lr.put_1] at HP1
 rw [Lr.put_2] at HP2
 unfold Lr.val Lr.r0 at HP
 unfold Lr.val Lr.r1 at HP1
 unfold Lr.val Lr.r2 at HP2
 dsimp only at HP HP1 HP2
 unfold Lr.box Lr.r0 at hw0
 dsimp only at hw0
 have HW0 := Lib.hid hw0
 clear hb0 hw0
 go_enter Try.func3,Try.ntmps3
 go_wp2_with fail
 rw [HW0.out]
 clear HW0
 refine (HP.out w0).mono ?_
 rintro e w1 ⟨v1,rfl,o1,b1⟩
 obtain ⟨ao1,cap1,rfl,L1,-⟩ := By.own_ls o1
 rw [show Lr.bs0.length = 13 from rfl] at L1 ⊢
 have HL1 := Lib.hid L1
 have HC1 := Lib.hid (HC0.out.below b1)
 have HB1 := Lib.hid (bchain HB0.out b1)
 clear L1 b1 o1 HC0 HB0
 go_wp2_with fail
 refine (lt_get Lr.bs0 ao1 13 cap1 w1 HL1.out (by omega)).mono ?_
 rintro e w2 ⟨R,rfl,hm2,o2,-,b2⟩
 rw [Lr.get_0.2] at hm2 o2
 have hR : R = Lr.with Lr.r0 R.ents := Lr.of_m hm2.symm
 obtain ⟨s2,hs2⟩ : ∃ s,R.ents = s := ⟨_,rfl⟩
 rw [hs2] at hR o2
 subst hR
 clear hs2 hm2
 rw [Lr.get_0.1]
 have HO2 := Lib.hid o2
 have HB2 := Lib.hid (bchain HB1.out b2)
 have HC2 := Lib.hid (HC1.out.below b2)
 have HL2 := Lib.hid (HL1.out.below b2)
 clear o2 b2 HC1 HB1 HL1
 have hb3 := Lr.below_own w2 (Lr.with Lr.r0 s2)
 have HC3 := Lib.hid (HC2.out.below hb3)
 have HR3 := Lib.hid (Lr.c_box w2 (Lr.with Lr.r0 s2))
 have HL3 := Lib.hid (HL2.out.below hb3)
 have HO3 := Lib.hid (Et.own_below HO2.out hb3)
 have HB3 := Lib.hid (bchain HB2.out hb3)
 obtain ⟨w3,hw3⟩ : ∃ W,Lr.box w2 (Lr.with Lr.r0 s2) = W := ⟨_,rfl⟩
 rw [hw3] at hb3 HC3 HR3 HL3 HO3 HB3
 unfold Lr.box Lr.with Lr.r0 at hw3
 dsimp only at hw3
 have HW3 := Lib.hid hw3
 unfold Lr.val Lr.with Lr.r0
 dsimp only
 clear hb3 HC2 HL2 HO2 HB2 hw3
 have HS3 : Hid (w3.heap.size = w2.heap.size + 1) := Lib.hid (by rw [← HW3.out]; simp)
 have HE4 : Hid ((w3.alloc (.cells #[] 5)).heap[w2.heap.size + 1]? = some (.cells #[] 5 (0,0))) := Lib.hid (by rw [← HS3.out]; exact heap_alloc_new w3 _)
 have hb4 : Below w3.heap.size w3 (w3.alloc (.cells #[] 5)) := (Below.refl _ _).alloc (Nat.le_refl _) _
 have HB4 := Lib.hid (bchain HB3.out hb4)
 have HL4 := Lib.hid (HL3.out.below hb4)
 have HC4 := Lib.hid (HC3.out.below hb4)
 have HR4 := Lib.hid (HR3.out.below hb4)
 have HO4 := Lib.hid (Et.own_below HO3.out hb4)
 clear hb4
 go_wp2_with (at_builtin; rw [HW3.out]; go_must (refine By.wpList_append _ rfl (.tmp 16) (.tmp 17) rfl w3.heap.size _ [] rfl (By.own_empty (Nat.le_of_eq HS3.out) HE4.out) ao1 13 cap1 Lr.bs0 rfl rfl HL4.out.nil HL4.out.seg (by decide) (by simp) ?_))
 intro v5 w5 o5 gr5 _
 have HB5 : Hid (Below w3.heap.size w3 w5) := Lib.hid (((Below.refl w3.heap.size w3).alloc (Nat.le_refl _) _).grown gr5 (by simp) (fun k e => by cases e; exact Nat.le_of_eq HS3.out))
 have HO5 := Lib.hid o5
 clear HE4 HB4 HL4 HC4 HR4 HO4 HS3 HW3 gr5 o5
 go_wp2_with (at_builtin; go_must (refine By.wpList_append _ rfl (.tmp 18) (.tmp 19) rfl w3.heap.size v5 Lr.bs0 rfl (By.own_alloc HO5.out _) (some ⟨w5.heap.size,0,none⟩) 1 1 [0] rfl rfl (fun z => by cases z) (By.seg_one (heap_alloc_new w5 _) rfl) (by decide) (Nat.le_trans HB5.out.size (by simp)) ?_))
 intro v6 w6 o6 gr6 _
 have HB6 : Hid (Below w3.heap.size w3 w6) := Lib.hid ((bchain HB5.out ((Below.refl _ _).alloc (Nat.le_refl _) (.cells #[.int .u8 0] 5))).grown gr6 (Nat.le_trans HB5.out.size (by simp)) (By.own_ge HO5.out))
 obtain ⟨ao6,cap6,rfl,L6,-⟩ := By.own_ls o6
 have e14 : (Lr.bs0 ++ [(0 : UInt8)]).length = 14 := rfl
 rw [e14] at L6 ⊢
 have HL6 := Lib.hid L6
 clear o6 gr6 L6 HO5 HB5
 go_wp2_with fail
 refine (lt_get (Lr.bs0 ++ [0]) ao6 14 cap6 w6 HL6.out (by omega)).mono ?_
 rintro e w7 ⟨R7,rfl,hm7,o7,-,b7⟩
 rw [Lr.tail_0]
 have HB7 : Hid (Below w3.heap.size w3 (Lr.box w7 R7)) := Lib.hid (bchain (bchain HB6.out b7) (Lr.below_own w7 R7))
 clear hm7 o7 b7 HL6 HB6
 unfold Lr.val
 have HC7 := Lib.hid (HC3.out.below HB7.out)
 have HR7 := Lib.hid (HR3.out.below HB7.out)
 have HL7 := Lib.hid (HL3.out.below HB7.out)
 have HO7 := Lib.hid (Et.own_below HO3.out HB7.out)
 have HBw := Lib.hid (bchain HB3.out HB7.out)
 clear HC3 HR3 HL3 HO3 HB3 HB7
 obtain ⟨w8,hw8⟩ : ∃ W,Lr.box w7 R7 = W := ⟨_,rfl⟩
 rw [hw8] at HC7 HR7 HL7 HO7 HBw
 unfold Lr.box at hw8
 have HW8 := Lib.hid hw8
 clear hw8
 have hb9 : Below w8.heap.size w8 (w8.alloc (.cells #[.int .u8 4,.int .u8 0,.int .u8 2,.int .u8 2,.int .u8 0,.int .u8 0,.int .u8 0,.int .u8 0,.int .u8 0,.int .u8 0,.int .u8 2,.int .u8 0,.int .u8 0] 5)) := (Below.refl _ _).alloc (Nat.le_refl _) _
 have HLit : Hid (By.Block (w8.alloc (.cells #[.int .u8 4,.int .u8 0,.int .u8 2,.int .u8 2,.int .u8 0,.int .u8 0,.int .u8 0,.int .u8 0,.int .u8 0,.int .u8 0,.int .u8 2,.int .u8 0,.int .u8 0] 5)) w8.heap.size Lr.bs0) := Lib.hid (heap_alloc_new w8 _)
 have HS8 : Hid (w8.heap.size = w7.heap.size + 1) := Lib.hid (by rw [← HW8.out]; simp)
 rw [HS8.out] at HLit
 have HC9 := Lib.hid (HC7.out.below hb9)
 have HR9 := Lib.hid (HR7.out.below hb9)
 have HL9 := Lib.hid (HL7.out.below hb9)
 have HO9 := Lib.hid (Et.own_below HO7.out hb9)
 have HB9 := Lib.hid (bchain HBw.out hb9)
 clear hb9 HC7 HR7 HL7 HO7 HBw
 have HSm := Lib.hid (By.same_any Lr.bs0 Lr.bs0 ao1 (some ⟨w7.heap.size + 1,0,none⟩) 13 13 cap1 13 _ HL9.out (HLit.out.ls (by decide)))
 rw [decide_eq_true rfl] at HSm
 go_wp2_with (go_at_call 11; rw [HW8.out]; refine HSm.out.mono ?_)
 rintro e w10 ⟨rfl,b10⟩
 have hC := HC9.out.below b10
 have hR := HR9.out.below b10
 obtain ⟨vz,cz,ez,hLs,-⟩ := Et.own_ls (Et.own_below HO9.out b10) (fun x hx => by cases hx)
 obtain ⟨q1,q2,q3⟩ := Value.slice.inj ez
 have HSa := Lib.hid (lw_same (Lr.with Lr.r0 s2) ⟨none,0,0⟩ [] w10 (by
  show Et.Ls w10 s2.ao s2.n s2.cap []
  rw [q1,q2,q3]
  exact hLs) (Et.ls_nil w10))
 have HB10 := Lib.hid (bchain HB9.out b10)
 clear b10 HC9 HR9 HL9 HO9 HB9 HSm HLit HS8 HW8 ez q1 q2 q3 hLs
 unfold Lr.C Lr.r0 at hC
 unfold Lr.C Lr.with Lr.r0 at hR
 unfold Lr.val Lr.with Lr.r0 at HSa
 dsimp only at hC hR HSa
 obtain ⟨a0,a1,a2,a3,a4,a5,a6,a7,a8,a9,a10,a11,a12⟩ := hC
 obtain ⟨c0,c1,c2,c3,c4,c5,c6,c7,c8,c9,c10,c11,c12⟩ := hR
 go_wp2_with (go_at_call 12; refine HSa.out.mono ?_)
 rintro e w11 ⟨rfl,b11⟩
 have HB11 := Lib.hid (bchain HB10.out b11)
 clear b11 HSa HB10 a0 a1 a2 a3 a4 a5 a6 a7 a8 a9 a10 a11 a12 c0 c1 c2 c3 c4 c5 c6 c7 c8 c9 c10 c11 c12
 go_wp2_with (go_at_call 9; refine (HP1.out w11).mono ?_)
 rintro e w12 ⟨v12,rfl,o12,b12⟩
 obtain ⟨ao12,cap12,rfl,-,-⟩ := By.own_ls o12
 have HB12 := Lib.hid (bchain HB11.out b12)
 clear b12 o12 HB11
 go_wp2_with (go_at_call 9; refine (HP2.out w12).mono ?_)
 rintro e w13 ⟨v13,rfl,o13,b13⟩
 obtain ⟨ao13,cap13,rfl,-,-⟩ := By.own_ls o13
 have HB13 := Lib.hid (bchain HB12.out b13)
 clear b13 o13 HB12
 go_wp2_with fail
 go_ret
 exact ⟨rfl,HB13.out⟩
end Go.Proofs.Ytagjbjppddbalaa
namespace Go.Proofs.Ytagjbjppddbalaa.Et
open Go.ChangeShapes Go.WideShapes Go.ChangeAt Go.RowKit Mem
theorem cellsOf : Try.prog.cellsOf 36 = 3 := by kernel_rfl
def datum (H : Type) (r : T) : DataW H := .agg [.lit (.int .i64 r.term),.lit (.int .i64 r.mem),.lit (.string (txt r.data))]
theorem open_cells {H : Type} {enc : TypeId × Value → H} {w : World} {base : Nat} {spare : Nat → Bool} {held : Bool} {fuel : Nat} {cs : List Value} {x : DataW H × List MemPlace}
  (h : DataW.trod enc Try.prog w base spare held fuel 36 cs = some x) : ∃ r : T,cs = rv r ∧ x.1 = datum H r ∧ Fit r.term ∧ Fit r.mem := by
 obtain ⟨xs,n,_,rfl,hl,hxl,hf⟩ := DataW.trod_struct Try.underlying36 h
 rw [cellsOf] at hl
 match cs,hl with
 | [v0,v1,v2],_ =>
  match xs,hxl with
  | [y0,y1,y2],_ =>
   have g0 : DataW.trod enc Try.prog w base spare held n 3 (List.take (Try.prog.cellsOf 3) (List.drop 0 [v0,v1,v2])) = some y0 := hf 0 _ rfl
   rw [show Try.prog.cellsOf 3 = 1 by kernel_rfl] at g0
   simp only [List.drop,List.take] at g0
   have g1 : DataW.trod enc Try.prog w base spare held n 3 (List.take (Try.prog.cellsOf 3) (List.drop 1 [v0,v1,v2])) = some y1 := hf 1 _ rfl
   rw [show Try.prog.cellsOf 3 = 1 by kernel_rfl] at g1
   simp only [List.drop,List.take] at g1
   have g2 : DataW.trod enc Try.prog w base spare held n 9 (List.take (Try.prog.cellsOf 9) (List.drop 2 [v0,v1,v2])) = some y2 := hf 2 _ rfl
   rw [show Try.prog.cellsOf 9 = 1 by kernel_rfl] at g2
   simp only [List.drop,List.take] at g2
   obtain ⟨x0,e0,rfl,w0⟩ := DataW.trod_int Try.underlying3 g0
   obtain ⟨x1,e1,rfl,w1⟩ := DataW.trod_int Try.underlying3 g1
   obtain ⟨x2,e2,rfl,_⟩ := DataW.trod_string Try.underlying9 g2
   simp only [List.cons.injEq,and_true] at e0 e1 e2
   subst e0 e1 e2
   exact ⟨⟨x0,x1,x2⟩,rfl,rfl,fit_in w0,fit_in w1⟩
theorem weights_data {H : Type} (r : T) : (txt r.data).length ∈ (datum H r).weights Try.prog 36 := by
 unfold datum
 simp [DataW.weights,Try.underlying36,DataW.weightsEach]
theorem one_in {H : Type} {enc : TypeId × Value → H} {W : World} {base b0 : Nat} {spare : Nat → Bool} {held : Bool} {rr : Reach} {v : Value} {d : DataW H} {p : List MemPlace} {ts : List TypeId} {ds : List (DataW H)} (j : Nat)
  (hv : Value.okWide Try.prog W rr b0 36 v) (h : DataW.Trod enc Try.prog W base spare held 36 v d p)
  (hsz : (DataW.weightsEach Try.prog ts ds).all (· ≤ reachBytes) = true) (ht : ts[j]? = some 36) (hd : ds[j]? = some d) : ∃ r : T,v = val r ∧ Short r := by
 obtain ⟨cs,rfl,hc⟩ := okWide_struct Try.underlying36 hv
 obtain ⟨fuel,hf⟩ := h
 obtain ⟨r,e,hx,hf0,hf1⟩ := open_cells hf
 have hd' : d = datum H r := hx
 subst hd'
 have hs_data : r.data.size ≤ 140737488355328 := by
  have hw := List.all_eq_true.1 hsz _ (DataW.weights_mem_each ht hd _ (weights_data r))
  rw [decide_eq_true_eq,txt_len] at hw
  unfold reachBytes at hw
  omega
 refine ⟨r,?_,⟨hf0,hf1,hs_data⟩⟩
 have e' : cs.toList = rv r := e
 unfold val
 congr 1
 apply Array.toList_inj.1
 rw [e']
 rfl
theorem weights_all {H : Type} {P : Program} {e : TypeId} {d : DataW H} {n : Nat} (hn : n ∈ d.weights P e) : ∀ (l : List (DataW H)),d ∈ l → n ∈ DataW.weightsAll P e l
 | a :: l,h => by
  rw [DataW.weightsAll,List.mem_append]
  rcases List.mem_cons.1 h with rfl | h
  · exact .inl hn
  · exact .inr (weights_all hn l h)
def AtA (w : World) (a : Addr) (r : T) : Prop := ∀ p,p < 3 → w.cell? (a.add p) = (rv r)[p]?
def Tight (r : T) : Prop := r.data.size ≤ 140737488351232
theorem list_tight {H : Type} {enc : TypeId × Value → H} {W : World} {ao : Option Addr} {n cap : Nat} {d : DataW H} {p : List MemPlace} {ts : List TypeId} {ds : List (DataW H)} (j : Nat)
  (hj : DataW.Trod enc Try.prog W 0 (fun _ => true) true 22 (.slice ao n cap) d p)
  (hsz : (DataW.weightsEach Try.prog ts ds).all (· ≤ reachBytes) = true) (ht : ts[j]? = some 22) (hd : ds[j]? = some d) : ∃ rs,Ls W ao n cap rs ∧ ∀ r ∈ rs,Tight r := by
 haveI : Inhabited T := ⟨zero⟩
 obtain ⟨fuel,hf⟩ := hj
 rcases Go.Deep.open_slice Try.underlying22 hf with ⟨hcs,_⟩ | ⟨a,len,c,m,k,D,Pl,hcs,_,hl,hm,hmm,hx,hel⟩
 ·
  simp [Value.cells] at hcs
  obtain ⟨rfl,rfl,rfl⟩ := hcs
  exact ⟨[],ls_nil W,by simp⟩
 ·
  simp [Value.cells] at hcs
  obtain ⟨rfl,rfl,rfl⟩ := hcs
  simp only [if_true] at hmm
  subst hmm
  obtain ⟨R,hR⟩ := Go.Deep.choose_lt (α := T) (n := m) (p := fun i r => AtA W (a.add (i * 3)) r ∧ D i = datum H r ∧ Fit r.term ∧ Fit r.mem) (fun i hi => by
   obtain ⟨cs',h1,h2⟩ := hel i hi
   rw [cellsOf] at h1
   obtain ⟨_,_,hcell⟩ := World.cells?_some h1
   obtain ⟨r,e,hx',f⟩ := open_cells h2
   subst e
   exact ⟨r,fun p hp => hcell p hp,hx',f⟩)
  have hd' := congrArg Prod.fst hx
  simp only at hd'
  rw [hd'] at hd
  have hall : ∀ r ∈ (List.range n).map R,Short r ∧ Tight r := by
   intro r hr
   obtain ⟨i,hi,rfl⟩ := List.mem_map.1 hr
   rw [List.mem_range] at hi
   obtain ⟨_,hDi,hf0,hf1⟩ := hR i (by omega)
   have hq_data : (R i).data.size ≤ 140737488351232 := by
    have hw := List.all_eq_true.1 hsz _ (DataW.weights_mem_each ht hd (txt (R i).data).length (by
     rw [DataW.weights,Try.underlying22]
     refine List.mem_cons_of_mem _ (List.mem_append.2 (.inl (weights_all (weights_data (R i)) _ ?_)))
     rw [← hDi]
     exact List.mem_map.2 ⟨i,List.mem_range.2 hi,rfl⟩))
    rw [decide_eq_true_eq,txt_len] at hw
    unfold reachBytes at hw
    omega
   have hs_data : (R i).data.size ≤ 140737488355328 := Nat.le_trans hq_data (by omega)
   exact ⟨⟨hf0,hf1,hs_data⟩,hq_data⟩
  refine ⟨(List.range n).map R,⟨by simp,hl,hm,(fun h => by cases h),?_,fun r hr => (hall r hr).1⟩,fun r hr => (hall r hr).2⟩
  ·
   by_cases h0 : 0 < n
   ·
    obtain ⟨b,off,spot⟩ := a
    have h1 := (hR 0 (by omega)).1 0 (by omega)
    have hspot : spot = none := by
     have h2 : W.cell? ((Addr.mk b off spot).add 0) = some (.int .i64 (R 0).term) := by
      rw [show (Addr.mk b off spot).add 0 = ((Addr.mk b off spot).add (0 * 3)).add 0 by simp [Addr.add]]
      exact h1
     simpa [Addr.add] using World.cell?_spot h2
    subst hspot
    refine .inr ⟨b,off,rfl,fun k hk => ?_⟩
    simp only [List.length_map,List.length_range] at hk
    have hcell : ∀ p,p < 3 → W.cell? ⟨b,off + k * 3 + p,none⟩ = (rv (R k))[p]? := by
     intro p hp
     rw [← (hR k (by omega)).1 p hp,Go.WideShapes.add_plain,Go.WideShapes.add_plain]
    simp only [List.getElem_map,List.getElem_range]
    exact ⟨hcell 0 (by omega),hcell 1 (by omega),hcell 2 (by omega)⟩
   · exact .inl (by rw [show n = 0 by omega]; rfl)
theorem list_in {H : Type} {enc : TypeId × Value → H} {W : World} {ao : Option Addr} {n cap : Nat} {d : DataW H} {p : List MemPlace} {ts : List TypeId} {ds : List (DataW H)} (j : Nat)
  (hj : DataW.Trod enc Try.prog W 0 (fun _ => true) true 22 (.slice ao n cap) d p)
  (hsz : (DataW.weightsEach Try.prog ts ds).all (· ≤ reachBytes) = true) (ht : ts[j]? = some 22) (hd : ds[j]? = some d) : ∃ rs,Ls W ao n cap rs := by
 obtain ⟨rs,h,_⟩ := list_tight j hj hsz ht hd
 exact ⟨rs,h⟩
end Go.Proofs.Ytagjbjppddbalaa.Et
namespace Go.Proofs.Ytagjbjppddbalaa.Et
open Go.ChangeShapes Go.WideShapes Go.ChangeAt Go.RowKit
theorem bytes32 : Try.prog.bytesOf 36 = 32 := by kernel_rfl
theorem list_bytes {H : Type} {enc : TypeId × Value → H} {W : World} {ao : Option Addr} {n cap : Nat} {d : DataW H} {p : List MemPlace} {ts : List TypeId} {ds : List (DataW H)} (j : Nat)
  (hj : DataW.Trod enc Try.prog W 0 (fun _ => true) true 22 (.slice ao n cap) d p)
  (hsz : (DataW.weightsEach Try.prog ts ds).all (· ≤ reachBytes) = true) (ht : ts[j]? = some 22) (hd : ds[j]? = some d) : n * 32 ≤ 140737488351232 := by
 obtain ⟨fuel,hf⟩ := hj
 rcases Go.Deep.open_slice Try.underlying22 hf with ⟨hcs,_⟩ | ⟨a,len,c,m,k,D,Pl,hcs,_,hl,hm,hmm,hx,hel⟩
 ·
  simp [Value.cells] at hcs
  obtain ⟨rfl,rfl,rfl⟩ := hcs
  omega
 ·
  simp [Value.cells] at hcs
  obtain ⟨rfl,rfl,rfl⟩ := hcs
  have hd' := congrArg Prod.fst hx
  simp only at hd'
  rw [hd'] at hd
  have hw := List.all_eq_true.1 hsz _ (DataW.weights_mem_each ht hd _ (by
   rw [DataW.weights,Try.underlying22]
   exact List.mem_cons_self))
  rw [decide_eq_true_eq,bytes32] at hw
  unfold reachBytes at hw
  simp only [List.length_map,List.length_range] at hw
  omega
theorem list_sized {H : Type} {enc : TypeId × Value → H} {W : World} {ao : Option Addr} {n cap : Nat} {d : DataW H} {p : List MemPlace} {ts : List TypeId} {ds : List (DataW H)} (j : Nat)
  (hj : DataW.Trod enc Try.prog W 0 (fun _ => true) true 22 (.slice ao n cap) d p)
  (hsz : (DataW.weightsEach Try.prog ts ds).all (· ≤ reachBytes) = true) (ht : ts[j]? = some 22) (hd : ds[j]? = some d) : ∃ rs,Ls W ao n cap rs ∧ n * 32 ≤ 140737488351232 := by
 obtain ⟨rs,h⟩ := list_in j hj hsz ht hd
 exact ⟨rs,h,list_bytes j hj hsz ht hd⟩
end Go.Proofs.Ytagjbjppddbalaa.Et
namespace Go.Proofs.Ytagjbjppddbalaa.Lr
open Go.ChangeShapes Go.WideShapes Go.ChangeAt Go.RowKit Mem
def rv (r : T) : List Value := [.int .i64 r.kind,.int .i64 r.frm,.int .i64 r.to,.int .i64 r.term,.int .i64 r.idx,.int .i64 r.bt,.int .i64 r.com,.int .i64 r.mem,.int .i64 r.off,.int .i64 r.size,.bool r.yes,.string r.data,.slice r.ents.ao r.ents.n r.ents.cap]
theorem cellsOf : Try.prog.cellsOf 24 = 13 := by kernel_rfl
def datum (H : Type) (r : T) (d_ents : DataW H) : DataW H := .agg [.lit (.int .i64 r.kind),.lit (.int .i64 r.frm),.lit (.int .i64 r.to),.lit (.int .i64 r.term),.lit (.int .i64 r.idx),.lit (.int .i64 r.bt),.lit (.int .i64 r.com),.lit (.int .i64 r.mem),.lit (.int .i64 r.off),.lit (.int .i64 r.size),.lit (.bool r.yes),.lit (.string (txt r.data)),d_ents]
theorem open_cells {H : Type} {enc : TypeId × Value → H} {w : World} {base : Nat} {spare : Nat → Bool} {held : Bool} {fuel : Nat} {cs : List Value} {x : DataW H × List MemPlace}
  (h : DataW.trod enc Try.prog w base spare held fuel 24 cs = some x) : ∃ (r : T) (d_ents : DataW H) (p_ents : List MemPlace),cs = rv r ∧ x.1 = datum H r d_ents ∧ DataW.Trod enc Try.prog w base spare held 22 (.slice r.ents.ao r.ents.n r.ents.cap) d_ents p_ents ∧ Fit r.kind ∧ Fit r.frm ∧ Fit r.to ∧ Fit r.term ∧ Fit r.idx ∧ Fit r.bt ∧ Fit r.com ∧ Fit r.mem ∧ Fit r.off ∧ Fit r.size := by
 obtain ⟨xs,n,_,rfl,hl,hxl,hf⟩ := DataW.trod_struct Try.underlying24 h
 rw [cellsOf] at hl
 match cs,hl with
 | [v0,v1,v2,v3,v4,v5,v6,v7,v8,v9,v10,v11,v12],_ =>
  match xs,hxl with
  | [y0,y1,y2,y3,y4,y5,y6,y7,y8,y9,y10,y11,y12],_ =>
   have g0 : DataW.trod enc Try.prog w base spare held n 3 (List.take (Try.prog.cellsOf 3) (List.drop 0 [v0,v1,v2,v3,v4,v5,v6,v7,v8,v9,v10,v11,v12])) = some y0 := hf 0 _ rfl
   rw [show Try.prog.cellsOf 3 = 1 by kernel_rfl] at g0
   simp only [List.drop,List.take] at g0
   have g1 : DataW.trod enc Try.prog w base spare held n 3 (List.take (Try.prog.cellsOf 3) (List.drop 1 [v0,v1,v2,v3,v4,v5,v6,v7,v8,v9,v10,v11,v12])) = some y1 := hf 1 _ rfl
   rw [show Try.prog.cellsOf 3 = 1 by kernel_rfl] at g1
   simp only [List.drop,List.take] at g1
   have g2 : DataW.trod enc Try.prog w base spare held n 3 (List.take (Try.prog.cellsOf 3) (List.drop 2 [v0,v1,v2,v3,v4,v5,v6,v7,v8,v9,v10,v11,v12])) = some y2 := hf 2 _ rfl
   rw [show Try.prog.cellsOf 3 = 1 by kernel_rfl] at g2
   simp only [List.drop,List.take] at g2
   have g3 : DataW.trod enc Try.prog w base spare held n 3 (List.take (Try.prog.cellsOf 3) (List.drop 3 [v0,v1,v2,v3,v4,v5,v6,v7,v8,v9,v10,v11,v12])) = some y3 := hf 3 _ rfl
   rw [show Try.prog.cellsOf 3 = 1 by kernel_rfl] at g3
   simp only [List.drop,List.take] at g3
   have g4 : DataW.trod enc Try.prog w base spare held n 3 (List.take (Try.prog.cellsOf 3) (List.drop 4 [v0,v1,v2,v3,v4,v5,v6,v7,v8,v9,v10,v11,v12])) = some y4 := hf 4 _ rfl
   rw [show Try.prog.cellsOf 3 = 1 by kernel_rfl] at g4
   simp only [List.drop,List.take] at g4
   have g5 : DataW.trod enc Try.prog w base spare held n 3 (List.take (Try.prog.cellsOf 3) (List.drop 5 [v0,v1,v2,v3,v4,v5,v6,v7,v8,v9,v10,v11,v12])) = some y5 := hf 5 _ rfl
   rw [show Try.prog.cellsOf 3 = 1 by kernel_rfl] at g5
   simp only [List.drop,List.take] at g5
   have g6 : DataW.trod enc Try.prog w base spare held n 3 (List.take (Try.prog.cellsOf 3) (List.drop 6 [v0,v1,v2,v3,v4,v5,v6,v7,v8,v9,v10,v11,v12])) = some y6 := hf 6 _ rfl
   rw [show Try.prog.cellsOf 3 = 1 by kernel_rfl] at g6
   simp only [List.drop,List.take] at g6
   have g7 : DataW.trod enc Try.prog w base spare held n 3 (List.take (Try.prog.cellsOf 3) (List.drop 7 [v0,v1,v2,v3,v4,v5,v6,v7,v8,v9,v10,v11,v12])) = some y7 := hf 7 _ rfl
   rw [show Try.prog.cellsOf 3 = 1 by kernel_rfl] at g7
   simp only [List.drop,List.take] at g7
   have g8 : DataW.trod enc Try.prog w base spare held n 3 (List.take (Try.prog.cellsOf 3) (List.drop 8 [v0,v1,v2,v3,v4,v5,v6,v7,v8,v9,v10,v11,v12])) = some y8 := hf 8 _ rfl
   rw [show Try.prog.cellsOf 3 = 1 by kernel_rfl] at g8
   simp only [List.drop,List.take] at g8
   have g9 : DataW.trod enc Try.prog w base spare held n 3 (List.take (Try.prog.cellsOf 3) (List.drop 9 [v0,v1,v2,v3,v4,v5,v6,v7,v8,v9,v10,v11,v12])) = some y9 := hf 9 _ rfl
   rw [show Try.prog.cellsOf 3 = 1 by kernel_rfl] at g9
   simp only [List.drop,List.take] at g9
   have g10 : DataW.trod enc Try.prog w base spare held n 4 (List.take (Try.prog.cellsOf 4) (List.drop 10 [v0,v1,v2,v3,v4,v5,v6,v7,v8,v9,v10,v11,v12])) = some y10 := hf 10 _ rfl
   rw [show Try.prog.cellsOf 4 = 1 by kernel_rfl] at g10
   simp only [List.drop,List.take] at g10
   have g11 : DataW.trod enc Try.prog w base spare held n 9 (List.take (Try.prog.cellsOf 9) (List.drop 11 [v0,v1,v2,v3,v4,v5,v6,v7,v8,v9,v10,v11,v12])) = some y11 := hf 11 _ rfl
   rw [show Try.prog.cellsOf 9 = 1 by kernel_rfl] at g11
   simp only [List.drop,List.take] at g11
   have g12 : DataW.trod enc Try.prog w base spare held n 22 (List.take (Try.prog.cellsOf 22) (List.drop 12 [v0,v1,v2,v3,v4,v5,v6,v7,v8,v9,v10,v11,v12])) = some y12 := hf 12 _ rfl
   rw [show Try.prog.cellsOf 22 = 1 by kernel_rfl] at g12
   simp only [List.drop,List.take] at g12
   obtain ⟨x0,e0,rfl,w0⟩ := DataW.trod_int Try.underlying3 g0
   obtain ⟨x1,e1,rfl,w1⟩ := DataW.trod_int Try.underlying3 g1
   obtain ⟨x2,e2,rfl,w2⟩ := DataW.trod_int Try.underlying3 g2
   obtain ⟨x3,e3,rfl,w3⟩ := DataW.trod_int Try.underlying3 g3
   obtain ⟨x4,e4,rfl,w4⟩ := DataW.trod_int Try.underlying3 g4
   obtain ⟨x5,e5,rfl,w5⟩ := DataW.trod_int Try.underlying3 g5
   obtain ⟨x6,e6,rfl,w6⟩ := DataW.trod_int Try.underlying3 g6
   obtain ⟨x7,e7,rfl,w7⟩ := DataW.trod_int Try.underlying3 g7
   obtain ⟨x8,e8,rfl,w8⟩ := DataW.trod_int Try.underlying3 g8
   obtain ⟨x9,e9,rfl,w9⟩ := DataW.trod_int Try.underlying3 g9
   obtain ⟨x10,e10,rfl⟩ := DataW.trod_bool Try.underlying4 g10
   obtain ⟨x11,e11,rfl,_⟩ := DataW.trod_string Try.underlying9 g11
   obtain ⟨ao12,nn12,cap12,e12⟩ : ∃ ao nn cap,[v12] = [Value.slice ao nn cap] := by
    rcases Go.Deep.open_slice Try.underlying22 g12 with ⟨hcs,_⟩ | ⟨a,len,c,_,_,_,_,hcs,_⟩
    · exact ⟨_,_,_,hcs⟩
    · exact ⟨_,_,_,hcs⟩
   simp only [List.cons.injEq,and_true] at e0 e1 e2 e3 e4 e5 e6 e7 e8 e9 e10 e11 e12
   subst e0 e1 e2 e3 e4 e5 e6 e7 e8 e9 e10 e11 e12
   exact ⟨⟨x0,x1,x2,x3,x4,x5,x6,x7,x8,x9,x10,x11,⟨ao12,nn12,cap12⟩⟩,y12.1,y12.2,rfl,rfl,⟨n,g12⟩,fit_in w0,fit_in w1,fit_in w2,fit_in w3,fit_in w4,fit_in w5,fit_in w6,fit_in w7,fit_in w8,fit_in w9⟩
theorem weights_data {H : Type} (r : T) (d_ents : DataW H) : (txt r.data).length ∈ (datum H r d_ents).weights Try.prog 24 := by
 unfold datum
 simp [DataW.weights,DataW.weightsEach,Try.underlying24]
theorem weights_dents {H : Type} (r : T) (d_ents : DataW H) (k : Nat) (h : k ∈ d_ents.weights Try.prog 22) : k ∈ (datum H r d_ents).weights Try.prog 24 := by
 unfold datum
 simp [DataW.weights,DataW.weightsEach,Try.underlying24,h]
def Sub (W : World) (r : T) : Prop := (∃ es,Et.Ls W r.ents.ao r.ents.n r.ents.cap es ∧ r.ents.n * 32 ≤ 140737488351232)
theorem one_in {H : Type} {enc : TypeId × Value → H} {W : World} {b0 : Nat} {rr : Reach} {v : Value} {d : DataW H} {p : List MemPlace} {ts : List TypeId} {ds : List (DataW H)} (j : Nat)
  (hv : Value.okWide Try.prog W rr b0 24 v) (h : DataW.Trod enc Try.prog W 0 (fun _ => true) true 24 v d p)
  (hsz : (DataW.weightsEach Try.prog ts ds).all (· ≤ reachBytes) = true) (ht : ts[j]? = some 24) (hd : ds[j]? = some d) : ∃ r : T,v = val r ∧ Short r ∧ Sub W r := by
 obtain ⟨cs,rfl,hc⟩ := okWide_struct Try.underlying24 hv
 obtain ⟨fuel,hf⟩ := h
 obtain ⟨r,d_ents,p_ents,e,hx,l_ents,f_kind,f_frm,f_to,f_term,f_idx,f_bt,f_com,f_mem,f_off,f_size⟩ := open_cells hf
 have hd' : d = datum H r d_ents := hx
 subst hd'
 have hs_data : r.data.size ≤ 140737488355328 := by
  have hw := List.all_eq_true.1 hsz _ (DataW.weights_mem_each ht hd _ (weights_data r d_ents))
  rw [decide_eq_true_eq,txt_len] at hw
  unfold reachBytes at hw
  omega
 have hz_ents : (DataW.weightsEach Try.prog [22] [d_ents]).all (· ≤ reachBytes) = true := by
  refine List.all_eq_true.2 fun k hk => ?_
  refine List.all_eq_true.1 hsz k (DataW.weights_mem_each ht hd k (weights_dents r d_ents k ?_))
  simpa [DataW.weightsEach] using hk
 refine ⟨r,?_,⟨f_kind,f_frm,f_to,f_term,f_idx,f_bt,f_com,f_mem,f_off,f_size,hs_data⟩,Et.list_sized 0 l_ents hz_ents rfl rfl⟩
 have e' : cs.toList = rv r := e
 unfold val
 congr 1
 apply Array.toList_inj.1
 rw [e']
 rfl
end Go.Proofs.Ytagjbjppddbalaa.Lr
namespace Go.Proofs.Ytagjbjppddbalaa
open Go.RowKit
open Mem Pk
structure Bx (w u : World) (g : Nat) (r : Lr.T) (l : List Et.T) : Prop where
 bel : Below w.heap.size w u
 row : u.heap[g]? = some (.cells (Lr.rvA r) 24 (0,0))
 ls : Et.Ls u r.ents.ao r.ents.n r.ents.cap l
 ge : w.heap.size ≤ g
section
variable {w u v : World} {g : Nat} {r r' : Lr.T} {l l' : List Et.T}
theorem Bx.lt (h : Bx w u g r l) : g < u.heap.size := (Array.getElem?_eq_some_iff.1 h.row).1
theorem Bx.below (h : Bx w u g r l) (k : Below u.heap.size u v) : Bx w v g r l := ⟨bchain h.bel k,(k.block _ h.lt).trans h.row,h.ls.below k,h.ge⟩
theorem Bx.cell (h : Bx w u g r l) (i : Nat) : u.cell? ⟨g,i,none⟩ = (Lr.rvA r)[i]? := cell_of_row u _ i _ _ _ h.row
theorem Bx.fz (h : Bx w u g r l) (o : Nat) : u.frozen? ⟨g,o,none⟩ = false := frozen_of_row u _ o _ _ h.row
theorem Bx.c (h : Bx w u g r l) : Lr.C u g r := by
 unfold Lr.C
 exact ⟨h.cell 0,h.cell 1,h.cell 2,h.cell 3,h.cell 4,h.cell 5,h.cell 6,h.cell 7,h.cell 8,h.cell 9,h.cell 10,h.cell 11,h.cell 12⟩
theorem Bx.box (h : Below w.heap.size w u) (hl : Et.Ls u r.ents.ao r.ents.n r.ents.cap l) : Bx w (Lr.box u r) u.heap.size r l :=
 ⟨bchain h (Lr.below_own u r),heap_alloc_new u _,hl.below (Lr.below_own u r),h.size⟩
theorem Bx.lay (h : Bx w u g r l) (hl : Et.Ls w r'.ents.ao r'.ents.n r'.ents.cap l') : Bx w (Lr.lay u g r') g r' l' :=
 ⟨Lr.below_lay h.bel h.ge _,Lr.heap_lay h.row r',hl.below (Lr.below_lay h.bel h.ge _),h.ge⟩
end
theorem Lr.room_le : ∀ l : List Et.T,(∀ e ∈ l,e.data.size ≤ 1100) → Lr.room l ≤ 1200 * l.length
 | [],_ => Nat.le_refl _
 | x :: l,h => by
  have h1 := Lr.room_le l fun e he => h e (List.mem_cons_of_mem _ he)
  have h2 := h x List.mem_cons_self
  rw [Lr.room,List.length_cons]
  omega
theorem Lr.bytes_small {m : Lr.M} (h : Lr.rightB m = true) : m.bytes.length ≤ 20000 := by
 have o := Lr.ok_of h
 have h1 := (Lr.bytes_len h).2
 have h2 := Lr.room_le m.ents fun e he => (o.ents e he).2.2
 have h3 := o.n
 have h4 := o.data
 omega
theorem Lr.ents_ls {u : World} {B : Nat} {r : Lr.T} {l : List Et.T} (h : Et.Own u B (.slice r.ents.ao r.ents.n r.ents.cap) l) (hs : ∀ e ∈ l,Et.Short e) : Et.Ls u r.ents.ao r.ents.n r.ents.cap l := by
 obtain ⟨ao,cap,e,q,_⟩ := Et.own_ls h hs
 obtain ⟨z1,z2,z3⟩ := Value.slice.inj e
 rw [z1,z2,z3]
 exact q
end Go.Proofs.Ytagjbjppddbalaa
