import Derived.Deep.RegionHeld3
import Derived.Maps.AppendAt
import Derived.Laws.AppendOwnNone
import Derived.Laws.Rows
import Derived.Laws.CopyOwn
import Derived.Laws.MakeOwn
import Derived.RegionTactic
import Derived.Laws.StructEq
import Derived.ProofKit
import Derived.OpenShut
import Derived.ShutString
import Derived.ChangeOld
import Derived.SizedLaws
import Derived.Test.YtagjbjppddbalaaZLt1
import Derived.Test.YtagjbjppddbalaaZLt2
namespace Go.Proofs.Ytagjbjppddbalaa.Hd
open Go.RowKit
open Mem
def rv (r : T) : List Value := [.int .i64 r.term,.int .i64 r.vote,.int .i64 r.base,.int .i64 r.bt,.int .i64 r.mem,.string r.snap,.slice r.log.ao r.log.n r.log.cap]
theorem rv_len (r : T) : (rv r).length = 7 := rfl
theorem flat_len : ∀ rs : List T,(rs.flatMap rv).length = rs.length * 7
 | [] => rfl
 | r :: l => by
  rw [List.flatMap_cons,List.length_append,rv_len,flat_len l,List.length_cons]
  omega
theorem flat_at : ∀ (rs : List T) (k p : Nat) (hk : k < rs.length),p < 7 → (rs.flatMap rv)[k * 7 + p]? = (rv rs[k])[p]?
 | r :: l,0,p,_,hp => by
  rw [List.flatMap_cons,List.getElem?_append_left (by rw [rv_len]; omega),Nat.zero_mul,Nat.zero_add]
  rfl
 | r :: l,k + 1,p,hk,hp => by
  rw [List.flatMap_cons,List.getElem?_append_right (by rw [rv_len]; omega),rv_len,show (k + 1) * 7 + p - 7 = k * 7 + p by omega]
  exact flat_at l k p (by simpa using hk) hp
theorem one_cell (rs : List T) : ∀ v ∈ rs.flatMap rv,v.oneCell' = true := by
 intro v hv
 obtain ⟨r,_,h⟩ := List.mem_flatMap.1 hv
 unfold rv at h
 simp only [List.mem_cons,List.not_mem_nil,or_false] at h
 rcases h with rfl | rfl | rfl | rfl | rfl | rfl | rfl <;> rfl
theorem news_of {w : World} {b off : Nat} {rs : List T} (h : ∀ (k : Nat) (hk : k < rs.length),At w b (off + k * 7) rs[k]) (j : Nat) (u : Value) (hu : (rs.flatMap rv)[j]? = some u) : w.cell? ((⟨b,off,none⟩ : Addr).add j) = some u := by
 have hj : j < (rs.flatMap rv).length := by
  obtain ⟨hj,_⟩ := List.getElem?_eq_some_iff.1 hu
  exact hj
 rw [flat_len] at hj
 obtain ⟨k,p,rfl,hp⟩ : ∃ k p,j = k * 7 + p ∧ p < 7 := ⟨j / 7,j % 7,by omega,by omega⟩
 have hk : k < rs.length := by omega
 rw [flat_at rs k p hk hp] at hu
 have ha : (⟨b,off,none⟩ : Addr).add (k * 7 + p) = ⟨b,off + k * 7 + p,none⟩ := by
  unfold Addr.add
  split
  ·
   rename_i e
   simp only [Addr.mk.injEq,true_and,and_true]
   omega
  ·
   simp only [Addr.mk.injEq,true_and,and_true]
   omega
 rw [ha]
 obtain ⟨c0,c1,c2,c3,c4,c5,c6⟩ := h k hk
 have hp' : p = 0 ∨ p = 1 ∨ p = 2 ∨ p = 3 ∨ p = 4 ∨ p = 5 ∨ p = 6 := by omega
 unfold rv at hu
 rcases hp' with rfl | rfl | rfl | rfl | rfl | rfl | rfl
 all_goals simp at hu
 all_goals subst hu
 · exact c0
 · exact c1
 · exact c2
 · exact c3
 · exact c4
 · exact c5
 · exact c6
def Own (w : World) (B : Nat) (v : Value) (xs : List T) : Prop := w.ownsRow B 78 7 v xs.length (xs.flatMap rv)
theorem own_nil (w : World) (B : Nat) : Own w B (.slice none 0 0) [] := ⟨rfl,.inl ⟨rfl,rfl⟩⟩
theorem own_ls {w : World} {B : Nat} {v : Value} {xs : List T} (h : Own w B v xs) (hs : ∀ r ∈ xs,Short r) : ∃ ao cap,v = .slice ao xs.length cap ∧ Ls w ao xs.length cap xs ∧ (∀ ad,ao = some ad → ∃ g,ad = ⟨g,0,none⟩ ∧ B ≤ g) := by
 rcases h.2 with ⟨h',h2⟩ | ⟨g,cap,cur,h',hb,hg,hnc,hcm,hcs,htake⟩
 ·
  have e : xs = [] := List.length_eq_zero_iff.1 h2
  subst e
  exact ⟨none,0,h',⟨rfl,Nat.le_refl _,by omega,fun _ => rfl,.inl rfl,hs⟩,fun ad k => by cases k⟩
 ·
  refine ⟨some ⟨g,0,none⟩,cap,h',⟨rfl,hnc,hcm,fun k => (by cases k),.inr ⟨g,0,rfl,fun k hk => ?_⟩,hs⟩,fun ad k => by cases k; exact ⟨g,rfl,hb⟩⟩
  have hcell : ∀ p,p < 7 → w.cell? ⟨g,0 + k * 7 + p,none⟩ = (rv xs[k])[p]? := by
   intro p hp
   rw [Nat.zero_add,cell_of_row w g _ _ _ _ hg,← flat_at xs k p hk hp,← htake,List.getElem?_take_of_lt (by omega)]
   simp
  exact ⟨hcell 0 (by omega),hcell 1 (by omega),hcell 2 (by omega),hcell 3 (by omega),hcell 4 (by omega),hcell 5 (by omega),hcell 6 (by omega)⟩
def zero : T := ⟨0,0,0,0,0,.empty,⟨none,0,0⟩⟩
def zeroV : Value := .agg #[.int .i64 0,.int .i64 0,.int .i64 0,.int .i64 0,.int .i64 0,.string .empty,.slice none 0 0]
theorem info : (Try.prog.info? 78).map (fun i => (i.zero,i.size,i.bytes)) = some (some zeroV,7,80) := by kernel_rfl
theorem own_ge {w : World} {B : Nat} {v : Value} {xs : List T} (h : Own w B v xs) : ∀ k,v.ownBlock = some k → B ≤ k := by
 intro k hk
 rcases h.2 with ⟨h',_⟩ | ⟨g,cap,cur,h',hb,_⟩
 ·
  rw [h'] at hk
  cases hk
 ·
  rw [h'] at hk
  simp only [Value.ownBlock,Option.some.injEq] at hk
  omega
theorem own_mono {w : World} {B C : Nat} {v : Value} {xs : List T} (h : Own w B v xs) (hc : C ≤ B) : Own w C v xs := by
 obtain ⟨h1,h2⟩ := h
 refine ⟨h1,?_⟩
 rcases h2 with h2 | ⟨g,cap,cur,h',hb,h3⟩
 · exact .inl h2
 · exact .inr ⟨g,cap,cur,h',by omega,h3⟩
theorem own_empty {X : World} {B g : Nat} (hB : B ≤ g) (hg : X.heap[g]? = some (.cells #[] 78 (0,0))) : Own X B (.slice (some ⟨g,0,none⟩) 0 0) [] :=
 ⟨rfl,.inr ⟨g,0,#[],rfl,hB,hg,Nat.le_refl _,Nat.zero_le _,rfl,rfl⟩⟩
theorem own_alloc {w : World} {B : Nat} {v : Value} {xs : List T} (h : Own w B v xs) (o : Obj) : Own (w.alloc o) B v xs := World.ownsRow.alloc h o
theorem own_drew {w : World} {B : Nat} {v : Value} {M : List T} (h : Own w B v M) : Own w.drew B v M := h
theorem own_below {w u : World} {B : Nat} {v : Value} {xs : List T} (h : Own w B v xs) (k : Below w.heap.size w u) : Own u B v xs := by
 obtain ⟨h1,h2⟩ := h
 refine ⟨h1,?_⟩
 rcases h2 with h2 | ⟨g,cap,cur,h',hb,hg,h3⟩
 · exact .inl h2
 ·
  refine .inr ⟨g,cap,cur,h',hb,?_,h3⟩
  have hl : g < w.heap.size := by
   obtain ⟨hl,_⟩ := Array.getElem?_eq_some_iff.1 hg
   exact hl
  rw [k.block g hl]
  exact hg
def block (r : T) : Obj := .cells #[.int .i64 r.term,.int .i64 r.vote,.int .i64 r.base,.int .i64 r.bt,.int .i64 r.mem,.string r.snap,.slice r.log.ao r.log.n r.log.cap] 78 (0,0)
theorem seg_block {X : World} {g : Nat} {r : T} (h : X.heap[g]? = some (block r)) : Seg X (some ⟨g,0,none⟩) [r] := by
 refine .inr ⟨g,0,rfl,fun k hk => ?_⟩
 obtain rfl : k = 0 := by simpa using hk
 unfold block at h
 refine ⟨?_,?_,?_,?_,?_,?_,?_⟩
 all_goals rw [cell_of_row X g _ _ _ _ h]
 all_goals rfl
end Go.Proofs.Ytagjbjppddbalaa.Hd
namespace Go.Proofs.Ytagjbjppddbalaa.Hd
open Go.RowKit
open Mem
def Block (w : World) (g : Nat) (ts : List T) : Prop := w.heap[g]? = some (.cells (ts.flatMap rv).toArray 78 (0,0))
theorem Block.lt {w : World} {g : Nat} {ts : List T} (h : Block w g ts) : g < w.heap.size := by
 obtain ⟨hg,_⟩ := Array.getElem?_eq_some_iff.1 h
 exact hg
theorem Block.below {w u : World} {g : Nat} {ts : List T} (h : Block w g ts) (k : Below w.heap.size w u) : Block u g ts := (k.block g h.lt).trans h
theorem Block.row {w : World} {g : Nat} {ts : List T} (h : Block w g ts) (k : Nat) (hk : k < ts.length) : At w g (k * 7) ts[k] := by
 have hcell : ∀ p,p < 7 → w.cell? ⟨g,k * 7 + p,none⟩ = (rv ts[k])[p]? := by
  intro p hp
  rw [cell_of_row w g _ _ _ _ h,← flat_at ts k p hk hp]
  simp
 exact ⟨hcell 0 (by omega),hcell 1 (by omega),hcell 2 (by omega),hcell 3 (by omega),hcell 4 (by omega),hcell 5 (by omega),hcell 6 (by omega)⟩
theorem Block.frozen {w : World} {g : Nat} {ts : List T} (h : Block w g ts) (k : Nat) : w.frozen? ⟨g,k,none⟩ = false := frozen_of_row w g k _ _ h
theorem Block.ls {w : World} {g : Nat} {ts zs : List T} (h : Block w g (ts ++ zs)) (n cap : Nat) (hn : n = ts.length) (hc : n ≤ cap) (hm : cap ≤ 9223372036854775807) (hs : ∀ r ∈ ts,Short r) : Ls w (some ⟨g,0,none⟩) n cap ts := by
 refine ⟨hn,hc,hm,(fun k => by cases k),.inr ⟨g,0,rfl,fun k hk => ?_⟩,hs⟩
 have hr := h.row k (by rw [List.length_append]; omega)
 rw [List.getElem_append_left hk] at hr
 rw [Nat.zero_add]
 exact hr
def zeros (n : Nat) : Array Value := ((List.replicate n zero).flatMap rv).toArray
theorem sizeZ : (Try.prog.info? 78).map (·.size) = some 7 := by kernel_rfl
theorem made (n : Nat) : madeCells zeroV.cells (n * 7) = zeros n := by
 apply Array.ext_getElem?
 intro j
 by_cases hj : j < n * 7
 ·
  obtain ⟨k,p,rfl,hp⟩ : ∃ k p,j = k * 7 + p ∧ p < 7 := ⟨j / 7,j % 7,by omega,by omega⟩
  have hk : k < n := by omega
  have hz : (zeros n)[k * 7 + p]? = (rv zero)[p]? := by
   unfold zeros
   rw [List.getElem?_toArray,flat_at (List.replicate n zero) k p (by simpa using hk) hp,List.getElem_replicate]
  rw [hz]
  have e : (k * 7 + p) % 7 = p := by omega
  have hp' : p = 0 ∨ p = 1 ∨ p = 2 ∨ p = 3 ∨ p = 4 ∨ p = 5 ∨ p = 6 := by omega
  unfold madeCells
  rw [Array.getElem?_map,Array.getElem?_range,if_pos hj]
  simp only [Option.map_some]
  rw [show zeroV.cells.size = 7 from rfl,e]
  rcases hp' with rfl | rfl | rfl | rfl | rfl | rfl | rfl <;> rfl
 ·
  rw [Array.getElem?_eq_none (by rw [size_madeCells]; omega),Array.getElem?_eq_none]
  unfold zeros
  rw [List.size_toArray,flat_len,List.length_replicate]
  omega
theorem block_made (u : World) (n : Nat) : Block (u.alloc (.cells (zeros n) 78)) u.heap.size (List.replicate n zero) := heap_alloc_new u _
theorem set_right {a : T} (X : List Value) (k p : Nat) (v : Value) : (rv a ++ X).set ((k + 1) * 7 + p) v = rv a ++ X.set (k * 7 + p) v := by
 rw [List.set_append_right _ _ (by rw [rv_len]; omega),rv_len,show (k + 1) * 7 + p - 7 = k * 7 + p by omega]
theorem flat_set : ∀ (ts : List T) (k : Nat) (r : T),k < ts.length → (ts.set k r).flatMap rv = ((((((((ts.flatMap rv).set (k * 7) (.int .i64 r.term)).set (k * 7 + 1) (.int .i64 r.vote)).set (k * 7 + 2) (.int .i64 r.base)).set (k * 7 + 3) (.int .i64 r.bt)).set (k * 7 + 4) (.int .i64 r.mem)).set (k * 7 + 5) (.string r.snap)).set (k * 7 + 6) (.slice r.log.ao r.log.n r.log.cap)) := by
 intro ts
 induction ts with
 | nil =>
  intro k r h
  simp at h
 | cons a l ih =>
 intro k r h
 cases k with
 | zero =>
  rw [List.set_cons_zero,List.flatMap_cons,List.flatMap_cons]
  simp only [rv,Nat.zero_mul,Nat.zero_add,List.cons_append,List.nil_append,List.set_cons_zero,List.set_cons_succ]
 | succ k =>
  have ih := ih k r (by simpa using h)
  have e0 := fun (X : List Value) (v : Value) => set_right (a := a) X k 0 v
  simp only [Nat.add_zero] at e0
  rw [List.set_cons_succ,List.flatMap_cons,ih,List.flatMap_cons,e0,set_right,set_right,set_right,set_right,set_right,set_right]
theorem Block.store {w : World} {g : Nat} {ts : List T} (h : Block w g ts) (k : Nat) (hk : k < ts.length) (r : T) :
  Block (((((((w.setCell ⟨g,k * 7,none⟩ (.int .i64 r.term)).setCell ⟨g,k * 7 + 1,none⟩ (.int .i64 r.vote)).setCell ⟨g,k * 7 + 2,none⟩ (.int .i64 r.base)).setCell ⟨g,k * 7 + 3,none⟩ (.int .i64 r.bt)).setCell ⟨g,k * 7 + 4,none⟩ (.int .i64 r.mem)).setCell ⟨g,k * 7 + 5,none⟩ (.string r.snap)).setCell ⟨g,k * 7 + 6,none⟩ (.slice r.log.ao r.log.n r.log.cap)) g (ts.set k r) := by
 have h1 := heap_setCell_same _ g (k * 7) _ _ (.int .i64 r.term) h
 have h2 := heap_setCell_same _ g (k * 7 + 1) _ _ (.int .i64 r.vote) h1
 have h3 := heap_setCell_same _ g (k * 7 + 2) _ _ (.int .i64 r.base) h2
 have h4 := heap_setCell_same _ g (k * 7 + 3) _ _ (.int .i64 r.bt) h3
 have h5 := heap_setCell_same _ g (k * 7 + 4) _ _ (.int .i64 r.mem) h4
 have h6 := heap_setCell_same _ g (k * 7 + 5) _ _ (.string r.snap) h5
 have h7 := heap_setCell_same _ g (k * 7 + 6) _ _ (.slice r.log.ao r.log.n r.log.cap) h6
 unfold Block
 rw [h7,flat_set ts k r hk]
 simp only [List.setIfInBounds_toArray]
theorem below_store {B g : Nat} {w0 w : World} (h : Below B w0 w) (hg : B ≤ g) (k : Nat) (x0 x1 x2 x3 x4 x5 x6 : Value) :
  Below B w0 (((((((w.setCell ⟨g,k * 7,none⟩ x0).setCell ⟨g,k * 7 + 1,none⟩ x1).setCell ⟨g,k * 7 + 2,none⟩ x2).setCell ⟨g,k * 7 + 3,none⟩ x3).setCell ⟨g,k * 7 + 4,none⟩ x4).setCell ⟨g,k * 7 + 5,none⟩ x5).setCell ⟨g,k * 7 + 6,none⟩ x6) :=
 (((((((h.setCell hg x0).setCell hg x1).setCell hg x2).setCell hg x3).setCell hg x4).setCell hg x5).setCell hg x6)
theorem own_store {w : World} {B g n cap : Nat} {M : List T} (h : Own w B (.slice (some ⟨g,0,none⟩) n cap) M) (k : Nat) (hk : k < M.length) (r : T) :
  Own (((((((w.setCell ⟨g,k * 7,none⟩ (.int .i64 r.term)).setCell ⟨g,k * 7 + 1,none⟩ (.int .i64 r.vote)).setCell ⟨g,k * 7 + 2,none⟩ (.int .i64 r.base)).setCell ⟨g,k * 7 + 3,none⟩ (.int .i64 r.bt)).setCell ⟨g,k * 7 + 4,none⟩ (.int .i64 r.mem)).setCell ⟨g,k * 7 + 5,none⟩ (.string r.snap)).setCell ⟨g,k * 7 + 6,none⟩ (.slice r.log.ao r.log.n r.log.cap)) B (.slice (some ⟨g,0,none⟩) n cap) (M.set k r) := by
 rcases h.2 with ⟨h',_⟩ | ⟨g',cap',cur,h',hb,hg,hnc,hcm,hcs,htake⟩
 · cases h'
 ·
  simp only [Value.slice.injEq,Option.some.injEq,Addr.mk.injEq,and_true] at h'
  obtain ⟨e1,e2,e3⟩ := h'
  subst e1 e3
  have h1 := heap_setCell_same _ g (k * 7) _ _ (.int .i64 r.term) hg
  have h2 := heap_setCell_same _ g (k * 7 + 1) _ _ (.int .i64 r.vote) h1
  have h3 := heap_setCell_same _ g (k * 7 + 2) _ _ (.int .i64 r.base) h2
  have h4 := heap_setCell_same _ g (k * 7 + 3) _ _ (.int .i64 r.bt) h3
  have h5 := heap_setCell_same _ g (k * 7 + 4) _ _ (.int .i64 r.mem) h4
  have h6 := heap_setCell_same _ g (k * 7 + 5) _ _ (.string r.snap) h5
  have h7 := heap_setCell_same _ g (k * 7 + 6) _ _ (.slice r.log.ao r.log.n r.log.cap) h6
  refine ⟨by rw [flat_len],.inr ⟨g,cap,_,by rw [List.length_set,e2],hb,h7,by rw [List.length_set]; exact hnc,hcm,by simpa using hcs,?_⟩⟩
  rw [List.length_set,flat_set M k r hk]
  simp only [Array.toList_setIfInBounds]
  rw [← htake]
  simp only [List.take_set]
theorem own_at {w : World} {B g n cap : Nat} {M : List T} (h : Own w B (.slice (some ⟨g,0,none⟩) n cap) M) (k : Nat) (hk : k < M.length) : At w g (k * 7) M[k] ∧ (∀ o,w.frozen? ⟨g,o,none⟩ = false) ∧ B ≤ g := by
 rcases h.2 with ⟨h',_⟩ | ⟨g',cap',cur,h',hb,hg,hnc,hcm,hcs,htake⟩
 · cases h'
 ·
  simp only [Value.slice.injEq,Option.some.injEq,Addr.mk.injEq,and_true] at h'
  obtain ⟨e1,e2,e3⟩ := h'
  subst e1 e3
  have hcell : ∀ p,p < 7 → w.cell? ⟨g,k * 7 + p,none⟩ = (rv M[k])[p]? := by
   intro p hp
   rw [cell_of_row w g _ _ _ _ hg,← flat_at M k p hk hp,← htake,List.getElem?_take_of_lt (by omega)]
   simp
  exact ⟨⟨hcell 0 (by omega),hcell 1 (by omega),hcell 2 (by omega),hcell 3 (by omega),hcell 4 (by omega),hcell 5 (by omega),hcell 6 (by omega)⟩,fun o => frozen_of_row w g o _ _ hg,hb⟩
theorem flat_put (r : T) (p : Nat) (x : Value) (hp : p < 7) : ∀ (M : List T) (k : Nat) (hk : k < M.length),rv r = (rv M[k]).set p x → (M.set k r).flatMap rv = (M.flatMap rv).set (k * 7 + p) x
 | a :: l,0,_,h => by
  have h' : rv r = (rv a).set p x := h
  rw [List.set_cons_zero,List.flatMap_cons,List.flatMap_cons,Nat.zero_mul,Nat.zero_add,List.set_append_left _ _ (by rw [rv_len]; exact hp),h']
 | a :: l,k + 1,hk,h => by
  have ih := flat_put r p x hp l k (by simpa using hk) (by simpa using h)
  rw [List.set_cons_succ,List.flatMap_cons,List.flatMap_cons,List.set_append_right _ _ (by rw [rv_len]; omega),rv_len,show (k + 1) * 7 + p - 7 = k * 7 + p by omega,ih]
theorem own_put {w : World} {B g n cap : Nat} {M : List T} (h : Own w B (.slice (some ⟨g,0,none⟩) n cap) M) (k p : Nat) (hk : k < M.length) (hp : p < 7) (x : Value) (r : T) (hr : rv r = (rv M[k]).set p x) :
  Own (w.setCell ⟨g,k * 7 + p,none⟩ x) B (.slice (some ⟨g,0,none⟩) n cap) (M.set k r) := by
 rcases h.2 with ⟨h',_⟩ | ⟨g',cap',cur,h',hb,hg,hnc,hcm,hcs,htake⟩
 · cases h'
 ·
  simp only [Value.slice.injEq,Option.some.injEq,Addr.mk.injEq,and_true] at h'
  obtain ⟨e1,e2,e3⟩ := h'
  subst e1 e3
  have h1 := heap_setCell_same _ g (k * 7 + p) _ _ x hg
  refine ⟨by rw [flat_len],.inr ⟨g,cap,_,by rw [List.length_set,e2],hb,h1,by rw [List.length_set]; exact hnc,hcm,by simpa using hcs,?_⟩⟩
  rw [List.length_set,flat_put r p x hp M k hk hr]
  simp only [Array.toList_setIfInBounds]
  rw [← htake]
  simp only [List.take_set]
theorem own_of_block {w : World} {B g n : Nat} {M : List T} (h : Block w g M) (hB : B ≤ g) (hn : n = M.length) (hm : n ≤ 100000) : Own w B (.slice (some ⟨g,0,none⟩) n n) M := by
 subst hn
 exact ⟨by rw [flat_len],.inr ⟨g,M.length,_,rfl,hB,h,Nat.le_refl _,by have : maxLen = 9223372036854775807 := rfl; omega,by rw [List.size_toArray,flat_len],List.take_of_length_le (by show (M.flatMap rv).length ≤ _; rw [flat_len]; exact Nat.le_refl _)⟩⟩
theorem own_far {w : World} {B : Nat} {v : Value} {M : List T} (h : Own w B v M) {b : Nat} (hne : b < B) (o : Nat) (x : Value) : Own (w.setCell ⟨b,o,none⟩ x) B v M := by
 obtain ⟨h1,h2⟩ := h
 refine ⟨h1,?_⟩
 rcases h2 with h2 | ⟨g,cap,cur,h',hb,hg,h3⟩
 · exact .inl h2
 · exact .inr ⟨g,cap,cur,h',hb,by rw [heap_setCell_other w ⟨b,o,none⟩ g x (by show g ≠ b; omega)]; exact hg,h3⟩
theorem own_cap (u : World) (B c : Nat) (hB : B ≤ u.heap.size) (hc : c ≤ 1000) : Own (u.alloc (.cells (zeros c) 78)) B (.slice (some ⟨u.heap.size,0,none⟩) 0 c) [] :=
 ⟨rfl,.inr ⟨u.heap.size,c,zeros c,rfl,hB,heap_alloc_new u _,Nat.zero_le _,by have : maxLen = 9223372036854775807 := rfl; omega,by unfold zeros; rw [List.size_toArray,flat_len,List.length_replicate],rfl⟩⟩
end Go.Proofs.Ytagjbjppddbalaa.Hd
set_option maxRecDepth 100000
set_option linter.unusedVariables false
namespace Go.Proofs.Ytagjbjppddbalaa
open Go.RowKit
open Mem
def Hd.with (r : Hd.T) (s : Sl) : Hd.T := ⟨r.term,r.vote,r.base,r.bt,r.mem,r.snap,s⟩
theorem Hd.block_box (w : World) (r : Hd.T) : Hd.Block (Hd.box w r) w.heap.size [r] := heap_alloc_new w _
theorem Hd.Block.log {w : World} {g : Nat} {r : Hd.T} (h : Hd.Block w g [r]) (s : Sl) : Hd.Block (w.setCell ⟨g,6,none⟩ (.slice s.ao s.n s.cap)) g [Hd.with r s] := (heap_setCell_same w g 6 _ _ _ h).trans rfl
theorem Hd.Block.cells {w : World} {g : Nat} {r : Hd.T} (h : Hd.Block w g [r]) : Hd.C w g r := by
 obtain ⟨c0,c1,c2,c3,c4,c5,c6⟩ := h.row 0 (by simp)
 exact ⟨c0,c1,c2,c3,c4,c5,c6⟩
theorem Hd.cell_same {w u : World} {b : Nat} (h : u.heap[b]? = w.heap[b]?) (o : Nat) : u.cell? ⟨b,o,none⟩ = w.cell? ⟨b,o,none⟩ := by
 simp [World.cell?,h]
theorem Wl.headed_base {h : Wl.H} (k : Wl.headed h = true) : 0 ≤ h.base ∧ h.base ≤ 1099511627776 := by
 unfold Wl.headed Wl.within Wl.top at k
 simp only [Bool.and_eq_true,decide_eq_true_eq] at k
 exact k.2.2.1
theorem Wl.more_step (h : Wl.H) (l : List Et.T) (k : Nat) (hk : k < l.length) : Wl.more (h.with (l.take k)) (l.drop k) = (Wl.fits (h.with (l.take k)) l[k] && Wl.more (h.with (l.take (k + 1))) (l.drop (k + 1))) := by
 rw [List.drop_eq_getElem_cons hk,Wl.more,List.take_succ_eq_append_getElem hk]
 rfl
set_option maxHeartbeats 4000000 in
theorem wl_right (r : Hd.T) (l : List Et.T) (w : World) (hl : Et.Ls w r.log.ao r.log.n r.log.cap l) (hz : r.snap.size ≤ 140737488355328) :
  Calls Try.prog 52 #[Hd.val r] w fun e w' => e = .returned (.bool (Wl.right (Hd.h r l))) ∧ Below w.heap.size w w' := by
 obtain ⟨⟨ao,n,cap⟩,hlog⟩ : ∃ s,r.log = s := ⟨_,rfl⟩
 rw [hlog] at hl
 dsimp only at hl
 have HL := Lib.hid hl
 have hr1 := hl.fits
 have hr2 := hl.reach
 have HN := Lib.hid hl.len
 obtain ⟨W,hW,hbW,hC⟩ := Hd.boxed1 w r
 have HBW := Lib.hid hbW
 have HBk : Hid (Hd.Block W w.heap.size [r]) := Lib.hid (hW ▸ Hd.block_box w r)
 have HR : Hid (Wl.right (Hd.h r l) = (Wl.headed (Hd.h r l) && ((((r.snap.toList == []) == (r.base == 0)) && decide ((r.snap.size : Int) ≤ 65536)) && Wl.more ((Hd.h r l).with []) l))) := Lib.hid (by
  unfold Wl.right Wl.snapOk
  have e3 : decide (r.snap.size = 0) = (r.snap.toList == []) := by
   have := txt_len r.snap
   rw [tl,Bool.eq_iff_iff,decide_eq_true_iff,beq_iff_eq,← List.length_eq_zero_iff,this]
  have e2 : decide (r.snap.size ≤ 65536) = decide ((r.snap.size : Int) ≤ 65536) := by rw [decide_eq_decide]; omega
  rw [show (Hd.h r l).snap = r.snap from rfl,e3,e2]
  rfl)
 have HD : Hid (∀ s,Hd.h (Hd.with r s) = Hd.h r) := Lib.hid fun s => rfl
 have cH := wl_headed r l W
 unfold Hd.val at cH
 unfold Hd.C at hC
 rw [hlog] at cH hW hC
 dsimp only at cH hW hC
 obtain ⟨a0,a1,a2,a3,a4,a5,a6⟩ := hC
 clear hl hbW
 unfold Hd.val
 rw [hlog]
 dsimp only
 have HLg := Lib.hid hlog
 clear hlog
 cases q1 : Wl.headed (Hd.h r l)
 ·
  rw [q1] at cH
  rw [q1,Bool.false_and] at HR
  go_enter Try.func52,Try.ntmps52
  go_wp2_with (go_at_call 59; refine cH.mono ?_; rintro e w1 ⟨rfl,b1⟩; have HB1 := Lib.hid (bchain HBW.out b1); clear b1 a0 a1 a2 a3 a4 a5 a6 cH)
  go_ret
  exact ⟨ret_bool HR.out.symm,HB1.out⟩
 have HQ := Lib.hid (Wl.headed_base q1)
 rw [q1] at cH
 rw [q1,Bool.true_and] at HR
 cases q2 : ((r.snap.toList == []) == (r.base == 0))
 ·
  rw [q2,Bool.false_and,Bool.false_and] at HR
  have p2 : (r.base == 0) = !(r.snap.toList == []) := by
   revert q2
   cases (r.snap.toList == []) <;> cases (r.base == 0) <;> decide
  clear q2
  go_enter Try.func52,Try.ntmps52
  cases p1 : (r.snap.toList == [])
  ·
   rw [p1] at p2
   try rw [Bool.not_false] at p2
   try rw [Bool.not_true] at p2
   go_wp2_with (go_at_call 59; refine cH.mono ?_; rintro e w1 ⟨rfl,b1⟩; have HB1 := Lib.hid (bchain HBW.out b1); have HK1 := Lib.hid (HBk.out.below b1); have a5' := ((bcell b1).1 _ _ (cell_lt a5)).trans a5; have a2' := ((bcell b1).1 _ _ (cell_lt a2)).trans a2; have a6' := ((bcell b1).1 _ _ (cell_lt a6)).trans a6; clear b1 a0 a1 a2 a3 a4 a5 a6 cH)
   go_ret
   exact ⟨ret_bool HR.out.symm,HB1.out⟩
  ·
   rw [p1] at p2
   try rw [Bool.not_false] at p2
   try rw [Bool.not_true] at p2
   go_wp2_with (go_at_call 59; refine cH.mono ?_; rintro e w1 ⟨rfl,b1⟩; have HB1 := Lib.hid (bchain HBW.out b1); have HK1 := Lib.hid (HBk.out.below b1); have a5' := ((bcell b1).1 _ _ (cell_lt a5)).trans a5; have a2' := ((bcell b1).1 _ _ (cell_lt a2)).trans a2; have a6' := ((bcell b1).1 _ _ (cell_lt a6)).trans a6; clear b1 a0 a1 a2 a3 a4 a5 a6 cH)
   go_ret
   exact ⟨ret_bool HR.out.symm,HB1.out⟩
 rw [q2,Bool.true_and] at HR
 by_cases h3 : (65536 : Int) < (r.snap.size : Int)
 ·
  rw [decide_eq_false (by omega),Bool.false_and] at HR
  have p2 : (r.base == 0) = (r.snap.toList == []) := by
   revert q2
   cases (r.snap.toList == []) <;> cases (r.base == 0) <;> decide
  clear q2
  go_enter Try.func52,Try.ntmps52
  cases p1 : (r.snap.toList == [])
  ·
   rw [p1] at p2
   try rw [Bool.not_false] at p2
   try rw [Bool.not_true] at p2
   go_wp2_with (go_at_call 59; refine cH.mono ?_; rintro e w1 ⟨rfl,b1⟩; have HB1 := Lib.hid (bchain HBW.out b1); have HK1 := Lib.hid (HBk.out.below b1); have a5' := ((bcell b1).1 _ _ (cell_lt a5)).trans a5; have a2' := ((bcell b1).1 _ _ (cell_lt a2)).trans a2; have a6' := ((bcell b1).1 _ _ (cell_lt a6)).trans a6; clear b1 a0 a1 a2 a3 a4 a5 a6 cH)
   go_ret
   exact ⟨ret_bool HR.out.symm,HB1.out⟩
  ·
   rw [p1] at p2
   try rw [Bool.not_false] at p2
   try rw [Bool.not_true] at p2
   go_wp2_with (go_at_call 59; refine cH.mono ?_; rintro e w1 ⟨rfl,b1⟩; have HB1 := Lib.hid (bchain HBW.out b1); have HK1 := Lib.hid (HBk.out.below b1); have a5' := ((bcell b1).1 _ _ (cell_lt a5)).trans a5; have a2' := ((bcell b1).1 _ _ (cell_lt a2)).trans a2; have a6' := ((bcell b1).1 _ _ (cell_lt a6)).trans a6; clear b1 a0 a1 a2 a3 a4 a5 a6 cH)
   go_ret
   exact ⟨ret_bool HR.out.symm,HB1.out⟩
 rw [decide_eq_true (by omega),Bool.true_and] at HR
 have p2 : (r.base == 0) = (r.snap.toList == []) := by
  revert q2
  cases (r.snap.toList == []) <;> cases (r.base == 0) <;> decide
 clear q2
 go_enter Try.func52,Try.ntmps52
 cases p1 : (r.snap.toList == [])
 ·
  rw [p1] at p2
  try rw [Bool.not_false] at p2
  try rw [Bool.not_true] at p2
  go_wp2_with (go_at_call 59; refine cH.mono ?_; rintro e w1 ⟨rfl,b1⟩; have HB1 := Lib.hid (bchain HBW.out b1); have HK1 := Lib.hid (HBk.out.below b1); have a5' := ((bcell b1).1 _ _ (cell_lt a5)).trans a5; have a2' := ((bcell b1).1 _ _ (cell_lt a2)).trans a2; have a6' := ((bcell b1).1 _ _ (cell_lt a6)).trans a6; clear b1 a0 a1 a2 a3 a4 a5 a6 cH)
  clear hW HBk HBW p1 p2 h3 q1 a5' a2' a6'
  go_loopw [5,28] (fun _ i wr => ∃ k : Nat,k ≤ n ∧ i = .int .i64 k ∧ Hid (Below w.heap.size w wr) ∧ (∃ s,Hid (Hd.Block wr w.heap.size [Hd.with r s])) ∧ Hid (Wl.more ((Hd.h r l).with (l.take k)) (l.drop k) = Wl.right (Hd.h r l))) (fun _ i _ => n - (intOf i).toNat)
  case atStart => exact ⟨0,by omega,rfl,HB1,⟨⟨ao,n,cap⟩,HLg.out ▸ HK1⟩,Lib.hid HR.out.symm⟩
  case round =>
   clear HB1 HK1 HR
   rename World => wz
   obtain ⟨k,hk,rfl,HB,⟨s,HK⟩,HM⟩ := hrel
   by_cases hlt : k < n
   ·
    obtain ⟨b,off,rfl⟩ := HL.out.at (by omega)
    have hkl : k < l.length := HN.out ▸ hlt
    have hl' := HL.out.below HB.out
    have hrow := hl'.row k hkl
    have hxs := HL.out.short _ (List.getElem_mem hkl)
    have HSt := Lib.hid (Wl.more_step (Hd.h r l) l k hkl)
    obtain ⟨x,hx⟩ : ∃ x,l[k] = x := ⟨_,rfl⟩
    rw [hx] at hrow HSt hxs
    obtain ⟨g0,g1,g2⟩ := hrow
    obtain ⟨W1,hW1,hbW1,hE⟩ := Et.boxed1 wz x
    have HB1 := Lib.hid (bchain HB.out hbW1)
    have HK1 := Lib.hid (HK.out.below hbW1)
    have f6 := HK1.out.frozen 6
    obtain ⟨i0,i1,i2,i3,i4,i5,i6⟩ := HK1.out.cells
    obtain ⟨hsl,hl2⟩ := hl'.to k hk
    obtain ⟨W2,hW2⟩ : ∃ W2,W1.setCell ⟨w.heap.size,6,none⟩ (.slice (some ⟨b,off,none⟩) k cap) = W2 := ⟨_,rfl⟩
    have hu2 : UpdQ (fun b => b = w.heap.size) W1 W2 := hW2 ▸ UpdQ.set (Q := fun b => b = w.heap.size) W1 rfl 6 _
    have HK2 : Hid (Hd.Block W2 w.heap.size [Hd.with r ⟨some ⟨b,off,none⟩,k,cap⟩]) := Lib.hid (hW2 ▸ HK1.out.log ⟨some ⟨b,off,none⟩,k,cap⟩)
    have hB2 : Below w.heap.size w W2 := hW2 ▸ bset HB1.out (Nat.le_refl _) 6 _
    have HB2 := Lib.hid hB2
    have hE2 : Et.C W2 wz.heap.size x := by
     have hlz := HK.out.lt
     obtain ⟨z0,z1,z2⟩ := hE
     have hb := hu2.block wz.heap.size (cell_lt z0) (by omega)
     exact ⟨(Hd.cell_same hb _).trans z0,(Hd.cell_same hb _).trans z1,(Hd.cell_same hb _).trans z2⟩
    obtain ⟨j0,j1,j2,j3,j4,j5,j6⟩ := HK2.out.cells
    unfold Et.C at hE2
    obtain ⟨z0,z1,z2⟩ := hE2
    have hL2 : Et.Ls W2 (some ⟨b,off,none⟩) k cap (l.take k) := by
     have := (HL.out.to k hk).2.below hB2
     exact this
    have cF := wl_fits (Hd.with r ⟨some ⟨b,off,none⟩,k,cap⟩) (l.take k) x W2 hL2 ⟨by have := HQ.out.1; exact (by show -1000000000000000000 ≤ (Hd.h r l).base; omega),by have := HQ.out.2; exact (by show (Hd.h r l).base ≤ 1000000000000000000; omega)⟩ hxs
    rw [show Hd.h (Hd.with r ⟨some ⟨b,off,none⟩,k,cap⟩) (l.take k) = (Hd.h r l).with (l.take k) from rfl] at cF
    unfold Hd.val Et.val Hd.with at cF
    simp only at cF j0 j1 j2 j3 j4 j5 j6
    clear hl' hbW1 hE hl2 hL2 hu2 hB2 HK hx
    cases q9 : Wl.fits ((Hd.h r l).with (l.take k)) x
    ·
     rw [q9] at cF
     have HR9 : Hid (Wl.right (Hd.h r l) = false) := Lib.hid (by rw [← HM.out,HSt.out,q9,Bool.false_and])
     clear HSt HM q9
     go_wp2_with (go_at_call 60; refine cF.mono ?_; rintro e w3 ⟨rfl,b3⟩; have HB3 := Lib.hid (bchain HB2.out b3); clear b3 cF)
     go_ret
     exact ⟨ret_bool HR9.out.symm,HB3.out⟩
    ·
     rw [q9] at cF
     have HM9 : Hid (Wl.more ((Hd.h r l).with (l.take (k + 1))) (l.drop (k + 1)) = Wl.right (Hd.h r l)) := Lib.hid (by rw [← HM.out,HSt.out,q9,Bool.true_and])
     clear HSt HM q9
     go_wp2_with (go_at_call 60; refine cF.mono ?_; rintro e w3 ⟨rfl,b3⟩; have HB3 := Lib.hid (bchain HB2.out b3); have HK3 := Lib.hid (HK2.out.below b3); clear b3 cF)
     go_roundw
     case rel => exact ⟨k + 1,by omega,by go_num,HB3,⟨_,HK3⟩,HM9⟩
     case measure => simp [intOf]; omega
   ·
    have HR9 : Hid (Wl.right (Hd.h r l) = true) := Lib.hid (by
     rw [← HM.out,List.drop_eq_nil_of_le (by have := HN.out; omega)]
     rfl)
    clear HM HK
    go_wp2_with fail
    go_ret
    exact ⟨ret_bool HR9.out.symm,HB.out⟩
 ·
  rw [p1] at p2
  try rw [Bool.not_false] at p2
  try rw [Bool.not_true] at p2
  go_wp2_with (go_at_call 59; refine cH.mono ?_; rintro e w1 ⟨rfl,b1⟩; have HB1 := Lib.hid (bchain HBW.out b1); have HK1 := Lib.hid (HBk.out.below b1); have a5' := ((bcell b1).1 _ _ (cell_lt a5)).trans a5; have a2' := ((bcell b1).1 _ _ (cell_lt a2)).trans a2; have a6' := ((bcell b1).1 _ _ (cell_lt a6)).trans a6; clear b1 a0 a1 a2 a3 a4 a5 a6 cH)
  clear hW HBk HBW p1 p2 h3 q1 a5' a2' a6'
  go_loopw [5,28] (fun _ i wr => ∃ k : Nat,k ≤ n ∧ i = .int .i64 k ∧ Hid (Below w.heap.size w wr) ∧ (∃ s,Hid (Hd.Block wr w.heap.size [Hd.with r s])) ∧ Hid (Wl.more ((Hd.h r l).with (l.take k)) (l.drop k) = Wl.right (Hd.h r l))) (fun _ i _ => n - (intOf i).toNat)
  case atStart => exact ⟨0,by omega,rfl,HB1,⟨⟨ao,n,cap⟩,HLg.out ▸ HK1⟩,Lib.hid HR.out.symm⟩
  case round =>
   clear HB1 HK1 HR
   rename World => wz
   obtain ⟨k,hk,rfl,HB,⟨s,HK⟩,HM⟩ := hrel
   by_cases hlt : k < n
   ·
    obtain ⟨b,off,rfl⟩ := HL.out.at (by omega)
    have hkl : k < l.length := HN.out ▸ hlt
    have hl' := HL.out.below HB.out
    have hrow := hl'.row k hkl
    have hxs := HL.out.short _ (List.getElem_mem hkl)
    have HSt := Lib.hid (Wl.more_step (Hd.h r l) l k hkl)
    obtain ⟨x,hx⟩ : ∃ x,l[k] = x := ⟨_,rfl⟩
    rw [hx] at hrow HSt hxs
    obtain ⟨g0,g1,g2⟩ := hrow
    obtain ⟨W1,hW1,hbW1,hE⟩ := Et.boxed1 wz x
    have HB1 := Lib.hid (bchain HB.out hbW1)
    have HK1 := Lib.hid (HK.out.below hbW1)
    have f6 := HK1.out.frozen 6
    obtain ⟨i0,i1,i2,i3,i4,i5,i6⟩ := HK1.out.cells
    obtain ⟨hsl,hl2⟩ := hl'.to k hk
    obtain ⟨W2,hW2⟩ : ∃ W2,W1.setCell ⟨w.heap.size,6,none⟩ (.slice (some ⟨b,off,none⟩) k cap) = W2 := ⟨_,rfl⟩
    have hu2 : UpdQ (fun b => b = w.heap.size) W1 W2 := hW2 ▸ UpdQ.set (Q := fun b => b = w.heap.size) W1 rfl 6 _
    have HK2 : Hid (Hd.Block W2 w.heap.size [Hd.with r ⟨some ⟨b,off,none⟩,k,cap⟩]) := Lib.hid (hW2 ▸ HK1.out.log ⟨some ⟨b,off,none⟩,k,cap⟩)
    have hB2 : Below w.heap.size w W2 := hW2 ▸ bset HB1.out (Nat.le_refl _) 6 _
    have HB2 := Lib.hid hB2
    have hE2 : Et.C W2 wz.heap.size x := by
     have hlz := HK.out.lt
     obtain ⟨z0,z1,z2⟩ := hE
     have hb := hu2.block wz.heap.size (cell_lt z0) (by omega)
     exact ⟨(Hd.cell_same hb _).trans z0,(Hd.cell_same hb _).trans z1,(Hd.cell_same hb _).trans z2⟩
    obtain ⟨j0,j1,j2,j3,j4,j5,j6⟩ := HK2.out.cells
    unfold Et.C at hE2
    obtain ⟨z0,z1,z2⟩ := hE2
    have hL2 : Et.Ls W2 (some ⟨b,off,none⟩) k cap (l.take k) := by
     have := (HL.out.to k hk).2.below hB2
     exact this
    have cF := wl_fits (Hd.with r ⟨some ⟨b,off,none⟩,k,cap⟩) (l.take k) x W2 hL2 ⟨by have := HQ.out.1; exact (by show -1000000000000000000 ≤ (Hd.h r l).base; omega),by have := HQ.out.2; exact (by show (Hd.h r l).base ≤ 1000000000000000000; omega)⟩ hxs
    rw [show Hd.h (Hd.with r ⟨some ⟨b,off,none⟩,k,cap⟩) (l.take k) = (Hd.h r l).with (l.take k) from rfl] at cF
    unfold Hd.val Et.val Hd.with at cF
    simp only at cF j0 j1 j2 j3 j4 j5 j6
    clear hl' hbW1 hE hl2 hL2 hu2 hB2 HK hx
    cases q9 : Wl.fits ((Hd.h r l).with (l.take k)) x
    ·
     rw [q9] at cF
     have HR9 : Hid (Wl.right (Hd.h r l) = false) := Lib.hid (by rw [← HM.out,HSt.out,q9,Bool.false_and])
     clear HSt HM q9
     go_wp2_with (go_at_call 60; refine cF.mono ?_; rintro e w3 ⟨rfl,b3⟩; have HB3 := Lib.hid (bchain HB2.out b3); clear b3 cF)
     go_ret
     exact ⟨ret_bool HR9.out.symm,HB3.out⟩
    ·
     rw [q9] at cF
     have HM9 : Hid (Wl.more ((Hd.h r l).with (l.take (k + 1))) (l.drop (k + 1)) = Wl.right (Hd.h r l)) := Lib.hid (by rw [← HM.out,HSt.out,q9,Bool.true_and])
     clear HSt HM q9
     go_wp2_with (go_at_call 60; refine cF.mono ?_; rintro e w3 ⟨rfl,b3⟩; have HB3 := Lib.hid (bchain HB2.out b3); have HK3 := Lib.hid (HK2.out.below b3); clear b3 cF)
     go_roundw
     case rel => exact ⟨k + 1,by omega,by go_num,HB3,⟨_,HK3⟩,HM9⟩
     case measure => simp [intOf]; omega
   ·
    have HR9 : Hid (Wl.right (Hd.h r l) = true) := Lib.hid (by
     rw [← HM.out,List.drop_eq_nil_of_le (by have := HN.out; omega)]
     rfl)
    clear HM HK
    go_wp2_with fail
    go_ret
    exact ⟨ret_bool HR9.out.symm,HB.out⟩
end Go.Proofs.Ytagjbjppddbalaa
namespace Go.Proofs.Ytagjbjppddbalaa
open Go.RowKit
open Mem
open Go.Sort (grow)
theorem Lr.within_iff (n lo hi : Int) : Wl.within n lo hi = true ↔ lo ≤ n ∧ n ≤ hi := by
 unfold Wl.within
 rw [Bool.and_eq_true,decide_eq_true_iff,decide_eq_true_iff]
set_option maxHeartbeats 2000000 in
theorem lt_piece (r : Lr.T) (l : List Et.T) (w : World) :
  Calls Try.prog 54 #[Lr.val r] w fun e w' => e = .returned (.bool (Lr.pieceB (Lr.m r l))) ∧ Below w.heap.size w w' := by
 have HBW : Hid (Below w.heap.size w (Lr.box w r)) := Lib.hid (Lr.below_own w r)
 have HE : Hid (Lr.pieceB (Lr.m r l) = (Wl.within r.size 1 65536 && (Wl.within r.off 0 (r.size - 1) && Wl.within (r.data.size : Int) 1 (min 600 (r.size - r.off))))) := Lib.hid rfl
 cases q0 : Wl.within r.size 1 65536
 ·
  rw [q0,Bool.false_and] at HE
  unfold Lr.val
  go_enter Try.func54,Try.ntmps54
  go_wp2_with (go_at_call 51; refine (lt_within _ _ _ _).mono ?_; rintro e u ⟨rfl,rfl⟩; try (first | rw [q0]))
  go_ret
  exact ⟨ret_bool HE.out.symm,HBW.out⟩
 obtain ⟨s1,s2⟩ := (Lr.within_iff _ _ _).1 q0
 rw [q0,Bool.true_and] at HE
 cases q1 : Wl.within r.off 0 (r.size - 1)
 ·
  rw [q1,Bool.false_and] at HE
  unfold Lr.val
  go_enter Try.func54,Try.ntmps54
  go_wp2_with (go_at_call 51; refine (lt_within _ _ _ _).mono ?_; rintro e u ⟨rfl,rfl⟩; try (first | rw [q0] | rw [q1]))
  go_ret
  exact ⟨ret_bool HE.out.symm,HBW.out⟩
 obtain ⟨o1,o2⟩ := (Lr.within_iff _ _ _).1 q1
 rw [q1,Bool.true_and] at HE
 by_cases hm : 600 ≤ r.size - r.off
 ·
  have em : min 600 (r.size - r.off) = 600 := by omega
  rw [em] at HE
  cases q2 : Wl.within (r.data.size : Int) 1 600
  ·
   rw [q2] at HE
   unfold Lr.val
   go_enter Try.func54,Try.ntmps54
   go_wp2_with (go_at_call 51; refine (lt_within _ _ _ _).mono ?_; rintro e u ⟨rfl,rfl⟩; try (first | rw [q0] | rw [q1] | rw [q2]))
   go_ret
   exact ⟨ret_bool HE.out.symm,HBW.out⟩
  ·
   rw [q2] at HE
   unfold Lr.val
   go_enter Try.func54,Try.ntmps54
   go_wp2_with (go_at_call 51; refine (lt_within _ _ _ _).mono ?_; rintro e u ⟨rfl,rfl⟩; try (first | rw [q0] | rw [q1] | rw [q2]))
   go_ret
   exact ⟨ret_bool HE.out.symm,HBW.out⟩
 ·
  have nm : r.size - r.off < 600 := by omega
  have em : min 600 (r.size - r.off) = r.size - r.off := by omega
  rw [em] at HE
  cases q2 : Wl.within (r.data.size : Int) 1 (r.size - r.off)
  ·
   rw [q2] at HE
   unfold Lr.val
   go_enter Try.func54,Try.ntmps54
   go_wp2_with (go_at_call 51; refine (lt_within _ _ _ _).mono ?_; rintro e u ⟨rfl,rfl⟩; try (first | rw [q0] | rw [q1] | rw [q2]))
   go_ret
   exact ⟨ret_bool HE.out.symm,HBW.out⟩
  ·
   rw [q2] at HE
   unfold Lr.val
   go_enter Try.func54,Try.ntmps54
   go_wp2_with (go_at_call 51; refine (lt_within _ _ _ _).mono ?_; rintro e u ⟨rfl,rfl⟩; try (first | rw [q0] | rw [q1] | rw [q2]))
   go_ret
   exact ⟨ret_bool HE.out.symm,HBW.out⟩
set_option maxHeartbeats 1500000 in
theorem lt_fits (r : Lr.T) (l : List Et.T) (w : World) (hl : Et.Ls w r.ents.ao r.ents.n r.ents.cap l) :
  Calls Try.prog 38 #[Lr.val r] w fun e w' => e = .returned (.bool (Lr.fitsB (Lr.m r l))) ∧ Below w.heap.size w w' := by
 have HBW : Hid (Below w.heap.size w (Lr.box w r)) := Lib.hid (Lr.below_own w r)
 have HTo := fun u => lt_told r u
 have HPi := fun u => lt_piece r l u
 have HRi : Hid (∀ u,Below w.heap.size w u → Calls Try.prog 52 #[Hd.val (Lr.hd r)] u fun e w' => e = .returned (.bool (Wl.right (Lr.toldH (Lr.m r l)))) ∧ Below u.heap.size u w') := Lib.hid fun u hu => by
  rw [← Lr.hd_h]
  refine wl_right (Lr.hd r) l u ?_ ?_
  · exact hl.below hu
  ·
   unfold Lr.hd
   dsimp only
   split <;> decide
 have HN : Hid (r.ents.n = l.length) := Lib.hid hl.len
 have hn9 := hl.reach
 have hn8 := hl.fits
 clear hl
 have HF : Hid (Lr.fitsB (Lr.m r l) = if r.kind = 2 then true else if r.kind = 4 then true else if r.kind = 1 then decide ((r.ents.n : Int) ≤ 8) && Wl.right (Lr.toldH (Lr.m r l)) else if r.kind = 3 then decide ((r.ents.n : Int) ≤ 8) && Wl.right (Lr.toldH (Lr.m r l))
  else if r.kind = 5 then decide (r.idx ≠ 0) && (decide (r.bt ≠ 0) && (Wl.within r.mem 1 127 && Lr.pieceB (Lr.m r l))) else if r.kind = 6 then decide (r.idx ≠ 0) && Wl.within r.off 0 65536 else false) := Lib.hid (by
  unfold Lr.fitsB
  have e : decide ((Lr.m r l).ents.length ≤ 8) = decide ((r.ents.n : Int) ≤ 8) := by rw [HN.out,decide_eq_decide]; show l.length ≤ 8 ↔ _; omega
  rw [e]
  rfl)
 by_cases h2 : r.kind = 2
 ·
  have HE : Hid (Lr.fitsB (Lr.m r l) = true) := Lib.hid (by rw [HF.out,if_pos h2])
  have e2 : (r.kind == 2) = true := beq_iff_eq.2 h2
  clear HF h2
  unfold Lr.val
  go_enter Try.func38,Try.ntmps38
  go_wp2
  go_ret
  exact ⟨ret_bool HE.out.symm,Lr.below_own w r⟩
 by_cases h4 : r.kind = 4
 ·
  have HE : Hid (Lr.fitsB (Lr.m r l) = true) := Lib.hid (by rw [HF.out,if_neg h2,if_pos h4])
  have e4 : (r.kind == 4) = true := beq_iff_eq.2 h4
  clear HF h4
  unfold Lr.val
  go_enter Try.func38,Try.ntmps38
  go_wp2
  go_ret
  exact ⟨ret_bool HE.out.symm,Lr.below_own w r⟩
 by_cases h1 : r.kind = 1
 ·
  have HE : Hid (Lr.fitsB (Lr.m r l) = (decide ((r.ents.n : Int) ≤ 8) && Wl.right (Lr.toldH (Lr.m r l)))) := Lib.hid (by rw [HF.out,if_neg h2,if_neg h4,if_pos h1])
  have e1 : (r.kind == 1) = true := beq_iff_eq.2 h1
  clear HF h1
  by_cases h8 : (r.ents.n : Int) ≤ 8
  ·
   rw [decide_eq_true h8,Bool.true_and] at HE
   unfold Lr.val at HTo ⊢
   go_enter Try.func38,Try.ntmps38
   go_wp2_with (first | (go_at_call 53; refine (HTo _).mono ?_; rintro e w1 ⟨rfl,b1⟩; have HB1 := Lib.hid (bchain (Lr.below_own w r) b1); clear b1) | (go_at_call 52; refine (HRi.out _ HB1.out).mono ?_; rintro e w2 ⟨rfl,b2⟩; have HB2 := Lib.hid (bchain HB1.out b2); clear b2))
   go_ret
   exact ⟨ret_bool HE.out.symm,HB2.out⟩
  ·
   rw [decide_eq_false h8,Bool.false_and] at HE
   unfold Lr.val
   go_enter Try.func38,Try.ntmps38
   go_wp2
   go_ret
   exact ⟨ret_bool HE.out.symm,Lr.below_own w r⟩
 by_cases h3 : r.kind = 3
 ·
  have HE : Hid (Lr.fitsB (Lr.m r l) = (decide ((r.ents.n : Int) ≤ 8) && Wl.right (Lr.toldH (Lr.m r l)))) := Lib.hid (by rw [HF.out,if_neg h2,if_neg h4,if_neg h1,if_pos h3])
  have e3 : (r.kind == 3) = true := beq_iff_eq.2 h3
  clear HF h3
  by_cases h8 : (r.ents.n : Int) ≤ 8
  ·
   rw [decide_eq_true h8,Bool.true_and] at HE
   unfold Lr.val at HTo ⊢
   go_enter Try.func38,Try.ntmps38
   go_wp2_with (first | (go_at_call 53; refine (HTo _).mono ?_; rintro e w1 ⟨rfl,b1⟩; have HB1 := Lib.hid (bchain (Lr.below_own w r) b1); clear b1) | (go_at_call 52; refine (HRi.out _ HB1.out).mono ?_; rintro e w2 ⟨rfl,b2⟩; have HB2 := Lib.hid (bchain HB1.out b2); clear b2))
   go_ret
   exact ⟨ret_bool HE.out.symm,HB2.out⟩
  ·
   rw [decide_eq_false h8,Bool.false_and] at HE
   unfold Lr.val
   go_enter Try.func38,Try.ntmps38
   go_wp2
   go_ret
   exact ⟨ret_bool HE.out.symm,Lr.below_own w r⟩
 by_cases h5 : r.kind = 5
 ·
  have HE : Hid (Lr.fitsB (Lr.m r l) = (decide (r.idx ≠ 0) && (decide (r.bt ≠ 0) && (Wl.within r.mem 1 127 && Lr.pieceB (Lr.m r l))))) := Lib.hid (by rw [HF.out,if_neg h2,if_neg h4,if_neg h1,if_neg h3,if_pos h5])
  have e5 : (r.kind == 5) = true := beq_iff_eq.2 h5
  clear HF h5
  by_cases i0 : r.idx = 0
  ·
   rw [decide_eq_false (fun z => z i0),Bool.false_and] at HE
   have p0 : (r.idx != 0) = false := by rw [bne,beq_iff_eq.2 i0]; rfl
   clear i0
   unfold Lr.val
   go_enter Try.func38,Try.ntmps38
   go_wp2
   go_ret
   exact ⟨ret_bool HE.out.symm,Lr.below_own w r⟩
  rw [decide_eq_true i0,Bool.true_and] at HE
  have p0 : (r.idx != 0) = true := by rw [bne,beq_eq_false_iff_ne.2 i0]; rfl
  by_cases i1 : r.bt = 0
  ·
   rw [decide_eq_false (fun z => z i1),Bool.false_and] at HE
   have p1 : (r.bt != 0) = false := by rw [bne,beq_iff_eq.2 i1]; rfl
   clear i1
   unfold Lr.val
   go_enter Try.func38,Try.ntmps38
   go_wp2
   go_ret
   exact ⟨ret_bool HE.out.symm,Lr.below_own w r⟩
  rw [decide_eq_true i1,Bool.true_and] at HE
  have p1 : (r.bt != 0) = true := by rw [bne,beq_eq_false_iff_ne.2 i1]; rfl
  cases q : Wl.within r.mem 1 127
  ·
   rw [q,Bool.false_and] at HE
   unfold Lr.val
   go_enter Try.func38,Try.ntmps38
   go_wp2_with (go_at_call 51; refine (lt_within _ _ _ _).mono ?_; rintro e u ⟨rfl,rfl⟩; try rw [q])
   go_ret
   exact ⟨ret_bool HE.out.symm,Lr.below_own w r⟩
  ·
   rw [q,Bool.true_and] at HE
   unfold Lr.val at HPi ⊢
   go_enter Try.func38,Try.ntmps38
   go_wp2_with (first | (go_at_call 51; refine (lt_within _ _ _ _).mono ?_; rintro e u ⟨rfl,rfl⟩; try rw [q]) | (go_at_call 54; refine (HPi _).mono ?_; rintro e w1 ⟨rfl,b1⟩; have HB1 := Lib.hid (bchain (Lr.below_own w r) b1); clear b1))
   go_ret
   exact ⟨ret_bool HE.out.symm,HB1.out⟩
 by_cases h6 : r.kind = 6
 ·
  have HE : Hid (Lr.fitsB (Lr.m r l) = (decide (r.idx ≠ 0) && Wl.within r.off 0 65536)) := Lib.hid (by rw [HF.out,if_neg h2,if_neg h4,if_neg h1,if_neg h3,if_neg h5,if_pos h6])
  have e6 : (r.kind == 6) = true := beq_iff_eq.2 h6
  clear HF h6
  by_cases i0 : r.idx = 0
  ·
   rw [decide_eq_false (fun z => z i0),Bool.false_and] at HE
   have p0 : (r.idx != 0) = false := by rw [bne,beq_iff_eq.2 i0]; rfl
   clear i0
   unfold Lr.val
   go_enter Try.func38,Try.ntmps38
   go_wp2
   go_ret
   exact ⟨ret_bool HE.out.symm,Lr.below_own w r⟩
  rw [decide_eq_true i0,Bool.true_and] at HE
  have p0 : (r.idx != 0) = true := by rw [bne,beq_eq_false_iff_ne.2 i0]; rfl
  unfold Lr.val
  go_enter Try.func38,Try.ntmps38
  go_wp2_with (go_at_call 51; refine (lt_within _ _ _ _).mono ?_; rintro e u ⟨rfl,rfl⟩; try rw [q])
  go_ret
  exact ⟨ret_bool HE.out.symm,Lr.below_own w r⟩
 ·
  have HE : Hid (Lr.fitsB (Lr.m r l) = false) := Lib.hid (by rw [HF.out,if_neg h2,if_neg h4,if_neg h1,if_neg h3,if_neg h5,if_neg h6])
  clear HF
  unfold Lr.val
  go_enter Try.func38,Try.ntmps38
  go_wp2
  go_ret
  exact ⟨ret_bool HE.out.symm,Lr.below_own w r⟩
end Go.Proofs.Ytagjbjppddbalaa
namespace Go.Proofs.Ytagjbjppddbalaa
open Go.RowKit
open Mem
open Go.Sort (grow)
theorem headed_ag (r : Lr.T) (l : List Et.T) (u : World) (i : Nat) (os : Array Obj) : AnsW 35 #[Lr.val r] u i os (.bool (Lr.headB (Lr.m r l))) := Calls.regrown_of (lt_headed r l _)
theorem all_ag (r : Lr.T) (l : List Et.T) (u : World) (hn : r.ents.n = l.length) (i : Nat) (os : Array Obj) : AnsW 36 #[Lr.val r] u i os (Lr.coV (Lr.allM (Lr.m r l))) := Calls.regrown_of (lt_all r l _ hn)
theorem named_ag (r : Lr.T) (l : List Et.T) (u : World) (hn : r.ents.n = l.length) (i : Nat) (os : Array Obj) : AnsW 37 #[Lr.val r] u i os (Lr.coV (Lr.namedM (Lr.m r l))) := Calls.regrown_of (lt_named r l _ hn)
theorem fits_ag (r : Lr.T) (l : List Et.T) (u : World) (hl : Et.Ls u r.ents.ao r.ents.n r.ents.cap l) (i : Nat) (os : Array Obj) : AnsW 38 #[Lr.val r] u i os (.bool (Lr.fitsB (Lr.m r l))) := Calls.regrown_of (lt_fits r l _ (hl.below (below_regrown u i os)))
theorem Lr.txt_eq (a b : ByteArray) : a.toList = b.toList ↔ a = b := by
 constructor
 ·
  intro h
  rw [ByteArray.toList_eq,ByteArray.toList_eq] at h
  exact ByteArray.ext (Array.toList_inj.1 h)
 ·
  rintro rfl
  rfl
theorem Lr.co_eql (a b : Lr.Co) (w : World) : (binOp .eql 58 (Lr.coV a) (Lr.coV b)).run Try.prog w = .ok (.bool (Lr.Co.eqB a b)) w := by
 unfold Lr.coV
 by_cases h : a = b
 ·
  subst h
  rw [(Lr.Co.eqB_iff a a).2 rfl]
  simp [go_sem,Try.underlying58]
 ·
  have h' : ¬ (a.idx = b.idx ∧ a.bt = b.bt ∧ a.com = b.com ∧ a.mem = b.mem ∧ a.off = b.off ∧ a.size = b.size ∧ a.yes = b.yes ∧ a.data = b.data ∧ a.n = b.n) := fun k => h ((Lr.Co.eqB_iff a b).1 (decide_eq_true k))
  rw [Bool.eq_false_iff.2 fun k => h ((Lr.Co.eqB_iff a b).1 k)]
  simp only [← Lr.txt_eq] at h'
  simp [go_sem,Try.underlying58]
  exact fun p0 p1 p2 p3 p4 p5 p6 p7 p8 => h' ⟨p0,p1,p2,p3,p4,p5,p6,p7,p8⟩
theorem Lr.co_guard (x y : Operand) (a b : Lr.Co) (w : World) : (eqGuard .eql 58 x y (Lr.coV a) (Lr.coV b)).run Try.prog w = .ok () w := by
 unfold Lr.coV
 exact run_eqGuard_agg w _ _ _ _ _ _ (by kernel_rfl)
set_option maxHeartbeats 2000000 in
theorem lt_right (r : Lr.T) (l : List Et.T) (w : World) (hl : Et.Ls w r.ents.ao r.ents.n r.ents.cap l) :
  Calls Try.prog 17 #[Lr.val r] w fun e w' => e = .returned (.bool (Lr.rightB (Lr.m r l))) ∧ Below w.heap.size w w' := by
 obtain ⟨W,hW,hbW,hC⟩ := Lr.boxed1 w r
 have HBW := Lib.hid hbW
 have c1 := headed_ag r l W
 have c2 := all_ag r l W hl.len
 have c3 := named_ag r l W hl.len
 have c4 := fits_ag r l W (hl.below hbW)
 have HE : Hid (Lr.rightB (Lr.m r l) = (Lr.headB (Lr.m r l) && (Lr.Co.eqB (Lr.allM (Lr.m r l)) (Lr.namedM (Lr.m r l)) && Lr.fitsB (Lr.m r l)))) := Lib.hid rfl
 have HQ := fun w => Lr.co_eql (Lr.allM (Lr.m r l)) (Lr.namedM (Lr.m r l)) w
 have HG := fun x y w => Lr.co_guard x y (Lr.allM (Lr.m r l)) (Lr.namedM (Lr.m r l)) w
 obtain ⟨cA,hA⟩ : ∃ c,Lr.coV (Lr.allM (Lr.m r l)) = c := ⟨_,rfl⟩
 obtain ⟨cB,hB⟩ : ∃ c,Lr.coV (Lr.namedM (Lr.m r l)) = c := ⟨_,rfl⟩
 rw [hA] at c2 HQ HG
 rw [hB] at c3 HQ HG
 clear hA hB
 unfold AnsW Lr.val at c1 c2 c3 c4
 unfold Lr.C at hC
 obtain ⟨a0,a1,a2,a3,a4,a5,a6,a7,a8,a9,a10,a11,a12⟩ := hC
 have a0' := cell_regrown a0
 have a1' := cell_regrown a1
 have a2' := cell_regrown a2
 have a3' := cell_regrown a3
 have a4' := cell_regrown a4
 have a5' := cell_regrown a5
 have a6' := cell_regrown a6
 have a7' := cell_regrown a7
 have a8' := cell_regrown a8
 have a9' := cell_regrown a9
 have a10' := cell_regrown a10
 have a11' := cell_regrown a11
 have a12' := cell_regrown a12
 clear a0 a1 a2 a3 a4 a5 a6 a7 a8 a9 a10 a11 a12 hbW hl
 unfold Lr.val
 cases q1 : Lr.headB (Lr.m r l)
 ·
  rw [q1] at c1
  rw [q1,Bool.false_and] at HE
  clear HQ HG
  go_enter Try.func17,Try.ntmps17
  go_wp2_with fail
  clear hW
  refine wp_region_quiet_below (by kernel_rfl) (by kernel_rfl) ?_
  repeat (first | go_big_quiet_step ((go_at_call 35; with_reducible exact c1 _ _)) | quiet_step ((go_at_call 35; with_reducible exact c1 _ _)))
  refine wpQuiet_nil ?_
  intro _ hw'
  obtain ⟨⟨dq,osq⟩,hw''⟩ := hw'
  subst hw''
  have HB2 := Lib.hid (bchain HBW.out (below_regrown W dq osq))
  go_wp2_with fail
  go_ret
  exact ⟨ret_bool HE.out.symm,HB2.out⟩
 rw [q1] at c1
 rw [q1,Bool.true_and] at HE
 cases q2 : Lr.Co.eqB (Lr.allM (Lr.m r l)) (Lr.namedM (Lr.m r l))
 ·
  rw [q2] at HQ
  rw [q2,Bool.false_and] at HE
  clear q1 q2
  go_enter Try.func17,Try.ntmps17
  go_wp2_with fail
  clear hW
  refine wp_region_quiet_below (by kernel_rfl) (by kernel_rfl) ?_
  repeat (first | go_big_quiet_step (first | (go_at_call 35; with_reducible exact c1 _ _) | (go_at_call 36; with_reducible exact c2 _ _) | (go_at_call 37; with_reducible exact c3 _ _)) | quiet_step (first | (go_at_call 35; with_reducible exact c1 _ _) | (go_at_call 36; with_reducible exact c2 _ _) | (go_at_call 37; with_reducible exact c3 _ _)))
  refine wpQuiet_nil ?_
  intro _ hw'
  obtain ⟨⟨dq,osq⟩,hw''⟩ := hw'
  subst hw''
  have HB2 := Lib.hid (bchain HBW.out (below_regrown W dq osq))
  go_wp2_with fail
  go_ret
  exact ⟨ret_bool HE.out.symm,HB2.out⟩
 ·
  rw [q2] at HQ
  rw [q2,Bool.true_and] at HE
  clear q1 q2
  go_enter Try.func17,Try.ntmps17
  go_wp2_with fail
  clear hW
  refine wp_region_quiet_below (by kernel_rfl) (by kernel_rfl) ?_
  repeat (first | go_big_quiet_step (first | (go_at_call 35; with_reducible exact c1 _ _) | (go_at_call 36; with_reducible exact c2 _ _) | (go_at_call 37; with_reducible exact c3 _ _) | (go_at_call 38; with_reducible exact c4 _ _)) | quiet_step (first | (go_at_call 35; with_reducible exact c1 _ _) | (go_at_call 36; with_reducible exact c2 _ _) | (go_at_call 37; with_reducible exact c3 _ _) | (go_at_call 38; with_reducible exact c4 _ _)))
  refine wpQuiet_nil ?_
  intro _ hw'
  obtain ⟨⟨dq,osq⟩,hw''⟩ := hw'
  subst hw''
  have HB2 := Lib.hid (bchain HBW.out (below_regrown W dq osq))
  go_wp2_with fail
  go_ret
  exact ⟨ret_bool HE.out.symm,HB2.out⟩
end Go.Proofs.Ytagjbjppddbalaa
namespace Go.Proofs.Ytagjbjppddbalaa.Lr
open Pk Wl
section
variable {bs : List UInt8}
theorem bwd_num {s : St} {r : List UInt8} (h : Rem bs (rNum bs s).2 r) : Rem bs s (nm (rNum bs s).1 ++ r) := by
 by_cases he : s.err = 0
 ·
  cases hn : num (bs.drop s.at') with
  | inl e =>
   rw [rNum_bad he hn] at h
   exfalso
   have h1 : e = 0 := h.1
   subst h1
   have hne : ∀ (l : List UInt8) (k u : Nat),rd k u l ≠ .inl 0 := by
    intro l
    induction l with
    | nil => intro k u h; rw [rd_nil] at h; cases h
    | cons x l ih =>
     intro k u h
     rw [rd] at h
     split at h
     · cases h
     ·
      split at h
      · exact ih _ _ h
      ·
       split at h
       · cases h
       · cases h
   exact hne _ _ _ hn
  | inr q =>
   obtain ⟨u,z⟩ := q
   rw [rNum_ok he hn] at h ⊢
   obtain ⟨h1,h2,h3,_⟩ := num_is hn
   refine ⟨he,?_⟩
   show bs.drop s.at' = nm (uz u) ++ r
   unfold nm
   rw [zz_uz,h1,List.drop_drop,← h.2]
 ·
  rw [rNum_wrong he] at h
  exact absurd h.1 he
theorem bwd_count {s : St} {most : Int} {r : List UInt8} (h : Rem bs (rCount bs most s).2 r) : Rem bs s (nm (rCount bs most s).1 ++ r) ∧ 0 ≤ (rCount bs most s).1 ∧ (rCount bs most s).1 ≤ most ∧ (rCount bs most s).1 ≤ (r.length : Int) := by
 by_cases hb : (bs.length : Int) - ((rWithin bs 0 most s).2.at' : Int) < (rWithin bs 0 most s).1
 ·
  rw [rCount_short hb] at h
  cases h.1
 ·
  rw [rCount_ok hb] at h ⊢
  by_cases he : (rNum bs s).2.err = 0
  ·
   by_cases hlo : (rNum bs s).1 < 0 ∨ most < (rNum bs s).1
   ·
    rw [rWithin_long he hlo] at h
    cases h.1
   ·
    rw [rWithin_ok he hlo] at h hb ⊢
    have h2 := h.2
    have hl := congrArg List.length h2
    rw [List.length_drop] at hl
    exact ⟨bwd_num h,by omega,by omega,by omega⟩
  ·
   rw [rWithin_wrong he] at h
   exact absurd h.1 he
theorem bwd_text {s : St} {most : Int} {r : List UInt8} (h : Rem bs (rText bs most s).2 r) : Rem bs s (tx (rText bs most s).1 ++ r) ∧ ((rText bs most s).1.size : Int) ≤ most := by
 have he : (rCount bs most s).2.err = 0 := h.1
 obtain ⟨h1,h2,h3,h4⟩ := bwd_count (bs := bs) (s := s) (most := most) (r := bs.drop (rCount bs most s).2.at') ⟨he,rfl⟩
 obtain ⟨q,hq⟩ : ∃ q : Nat,(rCount bs most s).1 = q := ⟨(rCount bs most s).1.toNat,by omega⟩
 have hd : bs.drop ((rCount bs most s).2.at' + q) = r := by
  have := h.2
  unfold rText at this
  rw [hq,Int.toNat_natCast] at this
  exact this
 unfold rText
 rw [hq,Int.toNat_natCast]
 rw [hq] at h1 h3 h4
 have hs : (bs.take ((rCount bs most s).2.at' + q)).drop (rCount bs most s).2.at' = (bs.drop (rCount bs most s).2.at').take q := by
  rw [List.drop_take,show (rCount bs most s).2.at' + q - (rCount bs most s).2.at' = q by omega]
 rw [hs]
 have hsz : (str ((bs.drop (rCount bs most s).2.at').take q)).size = q := by
  have ht : (txt (str ((bs.drop (rCount bs most s).2.at').take q))).length = q := by
   show ((bs.drop (rCount bs most s).2.at').take q).length = q
   rw [List.length_take]
   omega
  rw [← txt_len,ht]
 show Rem bs s (tx (str ((bs.drop (rCount bs most s).2.at').take q)) ++ r) ∧ (((str ((bs.drop (rCount bs most s).2.at').take q)).size : Nat) : Int) ≤ most
 refine ⟨?_,by omega⟩
 unfold tx
 rw [hsz,List.append_assoc,← hd,← List.drop_drop]
 have hx : txt (str ((bs.drop (rCount bs most s).2.at').take q)) ++ (bs.drop (rCount bs most s).2.at').drop q = bs.drop (rCount bs most s).2.at' := List.take_append_drop q _
 rw [hx]
 exact h1
theorem fwd_flag {s : St} {b : Bool} {r : List UInt8} (h : Rem bs s (flB b ++ r)) : (rFlag bs s).1 = b ∧ Rem bs (rFlag bs s).2 r := by
 unfold flB at h
 have hf : Fit (if b = true then (1 : Int) else 0) := by cases b <;> exact ⟨by decide,by decide⟩
 obtain ⟨h1,h2⟩ := fwd_num h hf
 unfold rFlag
 rw [if_neg (by rw [h1]; cases b <;> simp),h1]
 refine ⟨?_,h2⟩
 cases b <;> rfl
theorem bwd_flag {s : St} {r : List UInt8} (h : Rem bs (rFlag bs s).2 r) : Rem bs s (flB (rFlag bs s).1 ++ r) := by
 by_cases hb : (rNum bs s).1 ≠ 0 ∧ (rNum bs s).1 ≠ 1
 ·
  unfold rFlag at h
  rw [if_pos hb] at h
  exact absurd h.1 (by simp)
 ·
  have e : rFlag bs s = (decide ((rNum bs s).1 = 1),(rNum bs s).2) := if_neg hb
  rw [e] at h ⊢
  have h1 := bwd_num h
  have e2 : (if decide ((rNum bs s).1 = 1) = true then (1 : Int) else 0) = (rNum bs s).1 := by
   by_cases z : (rNum bs s).1 = 1
   ·
    rw [z]
    rfl
   ·
    have : (rNum bs s).1 = 0 := Decidable.byContradiction fun y => hb ⟨y,z⟩
    rw [this]
    rfl
  unfold flB
  rw [e2]
  exact h1
def EntOk (e : Et.T) : Prop := Fit e.term ∧ Fit e.mem ∧ e.data.size ≤ 1100
theorem fwd_ent {s : St} {e : Et.T} {r : List UInt8} (h : Rem bs s (entB e ++ r)) (ho : EntOk e) : (rEnt bs s).1 = e ∧ Rem bs (rEnt bs s).2 r := by
 obtain ⟨o1,o2,o3⟩ := ho
 unfold entB at h
 simp only [List.append_assoc] at h
 obtain ⟨e1,h1⟩ := fwd_num h o1
 obtain ⟨e2,h2⟩ := fwd_num h1 o2
 obtain ⟨e3,h3⟩ := fwd_text (most := 1100) h2 (by omega) (by omega)
 unfold rEnt
 rw [e1,e2,e3]
 exact ⟨rfl,h3⟩
theorem bwd_ent {s : St} {r : List UInt8} (h : Rem bs (rEnt bs s).2 r) : Rem bs s (entB (rEnt bs s).1 ++ r) := by
 unfold rEnt at h ⊢
 dsimp only at h ⊢
 have c := (bwd_text h).1
 have b := bwd_num c
 have a := bwd_num b
 unfold entB
 simp only [List.append_assoc]
 exact a
theorem fwd_ents : ∀ (l : List Et.T) (s : St) (r : List UInt8),(∀ e ∈ l,EntOk e) → Rem bs s (entsB l ++ r) → (rEnts bs l.length s).1 = l ∧ Rem bs (rEnts bs l.length s).2 r
 | [],_,_,_,h => ⟨rfl,h⟩
 | a :: l,s,r,ho,h => by
  rw [entsB,List.append_assoc] at h
  obtain ⟨h1,h2⟩ := fwd_ent h (ho a (by simp))
  obtain ⟨g1,g2⟩ := fwd_ents l _ r (fun x hx => ho x (by simp [hx])) h2
  rw [List.length_cons,rEnts,h1,g1]
  exact ⟨rfl,g2⟩
theorem rEnts_len : ∀ (k : Nat) (s : St),(rEnts bs k s).1.length = k
 | 0,_ => rfl
 | k + 1,s => by rw [rEnts,List.length_cons,rEnts_len k]
theorem bwd_ents : ∀ (k : Nat) (s : St) (r : List UInt8),Rem bs (rEnts bs k s).2 r → Rem bs s (entsB (rEnts bs k s).1 ++ r)
 | 0,_,_,h => h
 | k + 1,s,r,h => by
  have h1 := bwd_ents k _ r h
  have g1 := bwd_ent h1
  rw [rEnts,entsB,List.append_assoc]
  exact g1
theorem entB_pos (e : Et.T) : 1 ≤ (entB e).length := by
 unfold entB
 rw [List.length_append]
 have := nm_pos e.term
 omega
theorem entsB_len : ∀ l : List Et.T,l.length ≤ (entsB l).length
 | [] => Nat.le_refl _
 | a :: l => by
  have h1 := entsB_len l
  have h2 := entB_pos a
  rw [entsB,List.length_append,List.length_cons]
  omega
theorem fwd_m {m : M} (ho : Ok m) {s : St} {r : List UInt8} (h : Rem bs s (m.bytes ++ r)) : rM bs s = m ∧ Rem bs (eM bs s) r := by
 obtain ⟨o1,o2,o3,o4,o5,o6,o7,o8,o9,o10,o11,o12,o13⟩ := ho
 have hbt : Fit m.bt := ⟨by omega,by omega⟩
 unfold M.bytes M.ten numsB numsB numsB numsB numsB numsB numsB numsB numsB numsB numsB at h
 simp only [List.append_assoc,List.nil_append] at h
 obtain ⟨e0,h1⟩ := fwd_num (s := sN bs s 0) h ⟨by omega,by omega⟩
 obtain ⟨e1,h2⟩ := fwd_num (s := sN bs s 1) h1 ⟨by omega,by omega⟩
 obtain ⟨e2,h3⟩ := fwd_num (s := sN bs s 2) h2 ⟨by omega,by omega⟩
 obtain ⟨e3,h4⟩ := fwd_num (s := sN bs s 3) h3 ⟨by omega,by omega⟩
 obtain ⟨e4,h5⟩ := fwd_num (s := sN bs s 4) h4 ⟨by omega,by omega⟩
 obtain ⟨e5,h6⟩ := fwd_num (s := sN bs s 5) h5 hbt
 obtain ⟨e6,h7⟩ := fwd_num (s := sN bs s 6) h6 ⟨by omega,by omega⟩
 obtain ⟨e7,h8⟩ := fwd_num (s := sN bs s 7) h7 ⟨by omega,by omega⟩
 obtain ⟨e8,h9⟩ := fwd_num (s := sN bs s 8) h8 ⟨by omega,by omega⟩
 obtain ⟨e9,h10⟩ := fwd_num (s := sN bs s 9) h9 ⟨by omega,by omega⟩
 obtain ⟨e10,h11⟩ := fwd_flag (s := sN bs s 10) h10
 obtain ⟨e11,h12⟩ := fwd_text (s := sF bs s) (most := 600) h11 (by omega) (by omega)
 have hl := entsB_len m.ents
 obtain ⟨e12,h13⟩ := fwd_count (s := sT bs s) (most := 8) h12 (by omega) (by omega) (by rw [List.length_append]; omega)
 obtain ⟨e13,h14⟩ := fwd_ents m.ents (sC bs s) r (fun e he => by
  obtain ⟨k1,k2,k3⟩ := o13 e he
  exact ⟨⟨by omega,by omega⟩,⟨by omega,by omega⟩,k3⟩) h13
 have hn : nC bs s = m.ents.length := by
  unfold nC
  rw [e12,Int.toNat_natCast]
 unfold rM eM
 rw [hn,e10,e11,e13]
 refine ⟨?_,h14⟩
 unfold vN
 rw [e0,e1,e2,e3,e4,e5,e6,e7,e8,e9]
theorem bwd_m {s : St} {r : List UInt8} (h : Rem bs (eM bs s) r) : Rem bs s ((rM bs s).bytes ++ r) := by
 have h1 := bwd_ents _ _ _ h
 obtain ⟨h2,h3,_,_⟩ := bwd_count (s := sT bs s) h1
 have h4 := (bwd_text (s := sF bs s) h2).1
 have h5 := bwd_flag (s := sN bs s 10) h4
 have g9 := bwd_num (s := sN bs s 9) h5
 have g8 := bwd_num (s := sN bs s 8) g9
 have g7 := bwd_num (s := sN bs s 7) g8
 have g6 := bwd_num (s := sN bs s 6) g7
 have g5 := bwd_num (s := sN bs s 5) g6
 have g4 := bwd_num (s := sN bs s 4) g5
 have g3 := bwd_num (s := sN bs s 3) g4
 have g2 := bwd_num (s := sN bs s 2) g3
 have g1 := bwd_num (s := sN bs s 1) g2
 have g0 := bwd_num (s := sN bs s 0) g1
 have hn : (((rM bs s).ents.length : Nat) : Int) = (rCount bs 8 (sT bs s)).1 := by
  unfold rM
  dsimp only
  rw [rEnts_len]
  unfold nC
  omega
 unfold M.bytes M.ten numsB numsB numsB numsB numsB numsB numsB numsB numsB numsB numsB
 rw [hn]
 simp only [List.append_assoc,List.nil_append]
 exact g0
end
theorem get_bytes {m : M} (h : rightB m = true) : getM m.bytes = m ∧ getE m.bytes = 0 := by
 obtain ⟨h1,h2⟩ := fwd_m (bs := m.bytes) (ok_of h) (s := s0) (r := []) (by rw [List.append_nil]; exact rem_start _)
 unfold getM getE
 rw [rem_end h2,h1,if_pos ⟨rfl,h⟩,if_neg (by simp),if_pos h]
 exact ⟨rfl,rfl⟩
theorem rem_of_end {bs : List UInt8} {s : St} (h : (rEnd bs s).1 = 0) : Rem bs s [] := by
 by_cases k : s.err = 0 ∧ s.at' < bs.length
 ·
  rw [rEnd_tail k] at h
  cases h
 ·
  rw [rEnd_else k] at h
  refine ⟨h,List.drop_eq_nil_iff.2 ?_⟩
  have : ¬ s.at' < bs.length := fun z => k ⟨h,z⟩
  omega
theorem bytes_get {bs : List UInt8} (h : getE bs = 0) : rightB (getM bs) = true ∧ (getM bs).bytes = bs := by
 unfold getE at h
 by_cases k : (rEnd bs (eM bs s0)).1 ≠ 0
 ·
  rw [if_pos k] at h
  exact absurd h k
 ·
  rw [if_neg k] at h
  by_cases k2 : rightB (rM bs s0) = true
  ·
   have k3 : (rEnd bs (eM bs s0)).1 = 0 := Decidable.byContradiction k
   unfold getM
   rw [if_pos ⟨k3,k2⟩]
   have h1 := (bwd_m (bs := bs) (s := s0) (rem_of_end k3)).2
   rw [List.append_nil] at h1
   exact ⟨k2,h1.symm⟩
  ·
   rw [if_neg k2] at h
   cases h
theorem get_none {bs : List UInt8} (h : getE bs ≠ 0) : getM bs = zeroM := by
 unfold getM
 refine if_neg fun k => h ?_
 unfold getE
 rw [if_neg (by simp [k.1]),if_pos k.2]
theorem put_get {bs : List UInt8} (h : getE bs = 0) : putM (getM bs) = bs := by
 obtain ⟨h1,h2⟩ := bytes_get h
 unfold putM
 rw [if_pos h1,h2]
theorem nm_one {n : Int} (h0 : 0 ≤ n) (h1 : n ≤ 63) : (nm n).length = 1 := by
 have h : zz n < 128 := by
  unfold zz
  rw [if_neg (by omega)]
  omega
 show (vbF 10 (zz n)).length = 1
 rw [vbF_low h]
 rfl
theorem nm_two {n : Int} (h0 : 0 ≤ n) (h1 : n ≤ 127) : (nm n).length ≤ 2 := by
 have h : zz n < 256 := by
  unfold zz
  rw [if_neg (by omega)]
  omega
 show (vbF 10 (zz n)).length ≤ 2
 by_cases k : zz n < 128
 ·
  rw [vbF_low k]
  exact Nat.le_succ 1
 ·
  rw [vbF_high k,vbF_low (by omega)]
  exact Nat.le_refl 2
def room : List Et.T → Nat
 | [] => 0
 | e :: l => e.data.size + 24 + room l
theorem ents_most : ∀ l : List Et.T,(∀ e ∈ l,0 ≤ e.mem ∧ e.mem ≤ 127) → (entsB l).length ≤ room l
 | [],_ => Nat.le_refl _
 | e :: l,h => by
  have h1 := ents_most l fun x hx => h x (by simp [hx])
  obtain ⟨k1,k2⟩ := h e (by simp)
  have k3 := nm_two k1 k2
  have k4 := nm_len e.term
  have k5 := nm_len (e.data.size : Int)
  rw [entsB,room,List.length_append]
  unfold entB tx
  rw [List.length_append,List.length_append,List.length_append,txt_len]
  omega
theorem bytes_len {m : M} (h : rightB m = true) : 13 ≤ m.bytes.length ∧ m.bytes.length ≤ 120 + m.data.size + room m.ents := by
 obtain ⟨o1,o2,o3,o4,o5,o6,o7,o8,o9,o10,o11,o12,o13⟩ := ok_of h
 have h1 := ents_most m.ents fun e he => (o13 e he).2.1
 have a0 := nm_one (n := m.kind) (by omega) (by omega)
 have a1 := nm_one (n := m.frm) (by omega) (by omega)
 have a2 := nm_one (n := m.to) (by omega) (by omega)
 have a3 := nm_len m.term
 have a4 := nm_len m.idx
 have a5 := nm_len m.bt
 have a6 := nm_len m.com
 have a7 := nm_len m.mem
 have a8 := nm_len m.off
 have a9 := nm_len m.size
 have a10 := nm_len (m.data.size : Int)
 have a11 := nm_len (m.ents.length : Int)
 have b3 := nm_pos m.term
 have b4 := nm_pos m.idx
 have b5 := nm_pos m.bt
 have b6 := nm_pos m.com
 have b7 := nm_pos m.mem
 have b8 := nm_pos m.off
 have b9 := nm_pos m.size
 have b10 := nm_pos (m.data.size : Int)
 have b11 := nm_pos (m.ents.length : Int)
 have hf : (flB m.yes).length = 1 := nm_one (by split <;> omega) (by split <;> omega)
 unfold M.bytes M.ten numsB numsB numsB numsB numsB numsB numsB numsB numsB numsB numsB tx
 simp only [List.length_append,List.length_nil,txt_len,hf]
 omega
end Go.Proofs.Ytagjbjppddbalaa.Lr
namespace Go.Proofs.Ytagjbjppddbalaa
open Go.ChangeShapes Go.WideShapes Go.ChangeAt Go.RowKit
theorem own : ownKnob Try.prog.godebug = none := by kernel_rfl
theorem laidOut : laidOutB Try.prog = true := by kernel_rfl
end Go.Proofs.Ytagjbjppddbalaa
namespace Go.Proofs.Ytagjbjppddbalaa
open Go.ChangeShapes Go.WideShapes Go.ChangeAt Go.RowKit
theorem cellsOfI : Try.prog.cellsOf 3 = 1 := by kernel_rfl
theorem bytesOfI : Try.prog.bytesOf 3 = 8 := by kernel_rfl
structure Ints (w : World) (ao : Option Addr) (n cap : Nat) (zs : List Int) : Prop where
 len : n = zs.length
 fits : n ≤ cap
 reach : cap ≤ 140737488351232
 seg : zs = [] ∨ ∃ b off,ao = some ⟨b,off,none⟩ ∧ ∀ k (hk : k < zs.length),w.cell? ⟨b,off + k,none⟩ = some (.int .i64 zs[k])
 wf : ∀ z ∈ zs,Fit z
theorem Ints.at {w : World} {ao : Option Addr} {n cap : Nat} {zs : List Int} (h : Ints w ao n cap zs) (k : Nat) (hk : k < n) : ∃ b off z,ao = some ⟨b,off,none⟩ ∧ w.cell? ⟨b,off + k,none⟩ = some (.int .i64 z) ∧ Fit z := by
 have hk' : k < zs.length := h.len ▸ hk
 rcases h.seg with e | ⟨b,off,e,hc⟩
 ·
  rw [e] at hk'
  simp at hk'
 · exact ⟨b,off,zs[k],e,hc k hk',h.wf _ (List.getElem_mem hk')⟩
theorem ints_in {H : Type} {enc : TypeId × Value → H} {W : World} {ao : Option Addr} {n cap : Nat} {d : DataW H} {p : List MemPlace} {ts : List TypeId} {ds : List (DataW H)} (j : Nat)
  (hj : DataW.Trod enc Try.prog W 0 (fun _ => true) true 67 (.slice ao n cap) d p)
  (hsz : (DataW.weightsEach Try.prog ts ds).all (· ≤ reachBytes) = true) (ht : ts[j]? = some 67) (hd : ds[j]? = some d) : ∃ zs,Ints W ao n cap zs := by
 obtain ⟨fuel,hf⟩ := hj
 rcases open_ints Try.underlying67 Try.underlying3 cellsOfI hf with ⟨hcs,_⟩ | ⟨x,l,c,zs,hcs,_,hl,hm,hz,hx,hcell,hwz⟩
 ·
  simp [Value.cells] at hcs
  obtain ⟨rfl,rfl,rfl⟩ := hcs
  exact ⟨[],rfl,by omega,by omega,.inl rfl,by simp⟩
 ·
  simp [Value.cells] at hcs
  obtain ⟨rfl,rfl,rfl⟩ := hcs
  simp only [if_true] at hz
  have hd' := congrArg Prod.fst hx
  simp only at hd'
  rw [hd'] at hd
  have hr := sized_slice hsz ht hd Try.underlying67
  rw [bytesOfI] at hr
  simp only [lits,List.length_map,List.length_take,List.length_drop,reachBytes] at hr
  refine ⟨zs.take n,by simp; omega,hl,by omega,?_,?_⟩
  ·
   by_cases h0 : 0 < zs.length
   ·
    obtain ⟨b,off,rfl,hc⟩ := ints_at hcell h0
    refine .inr ⟨b,off,rfl,fun k hk => ?_⟩
    simp only [List.length_take] at hk
    rw [hc k (by omega),List.getElem_take]
    rw [List.getD_eq_getElem?_getD,List.getElem?_eq_getElem (by omega)]
    rfl
   ·
    refine .inl ?_
    have : zs = [] := List.length_eq_zero_iff.1 (by omega)
    simp [this]
  ·
   intro z hz
   have hw := hwz z (List.mem_of_mem_take hz)
   exact fit_in hw
end Go.Proofs.Ytagjbjppddbalaa
namespace Go.Proofs.Ytagjbjppddbalaa.By
open Go.RowKit
open Mem
theorem wp_app {o : Oper} {a : Act} {K : Act → World → Prop} {Q : Exit → Act → World → Prop} (w : World) (s x : Operand)
  (ho : o.op = .call { callee := .builtin .append,args := #[s,x],argTypes := #[25,25] })
  (B : Nat) (v : Value) (xs : List UInt8) (hs : a.eval s = v) (hown : Own w B v xs)
  (ao : Option Addr) (n cap : Nat) (zs : List UInt8) (hx : a.eval x = .slice ao n cap) (hn : n = zs.length) (hnil : ao = none → cap = 0) (hsrc : Seg w ao zs) (hl : xs.length + n ≤ 140737488355328) (hb : B ≤ w.heap.size)
  (h : ∀ v' w1,Own w1 B v' (xs ++ zs) → w.grownBy w1 v.ownBlock → K (a.put o.dst v') w1) : o.wp Try.prog a w K Q := by
 obtain ⟨i0,hi,hz0,hz1,hz2⟩ := info_parts info
 have hmx : maxLen = 9223372036854775807 := rfl
 cases ao with
 | none =>
  obtain rfl : cap = 0 := hnil rfl
  rcases hsrc with e | ⟨b,off,e,_⟩
  ·
   obtain rfl : n = 0 := by rw [hn,e]; rfl
   have hrun := run_append_owned_none (P := Try.prog) (w := w) B 25 o.type 5 i0 1 Try.underlying25 hi v _ _ hown
   unfold Oper.wp
   simp [execOp,ho,resolve,invoke,builtin,hs,hx,hrun,Result.andThen]
   exact h v w (by rw [e,List.append_nil]; exact hown) ⟨rfl,rfl,rfl,Nat.le_refl _,fun _ _ _ => rfl⟩
  · cases e
 | some ad =>
  obtain ⟨v',w',hr,h2,h3,_,h5⟩ := run_append_own_at (P := Try.prog) w B 25 o.type 5 i0 (.int .u8 0) 1 1 Try.underlying25 hi hz0 hz1 hz2 rfl (by omega) v xs.length (xs.map bv) hown ad n cap (zs.map bv) (by rw [List.length_map,hn,Nat.mul_one]) (by
   rcases hsrc with e | ⟨b,off,e,hc⟩
   ·
    rw [e]
    intro j u hu
    simp at hu
   ·
    cases e
    exact fun j u hu => news_of hc j u hu) (one_cell zs) (by omega) (by omega) hb
  unfold Oper.wp execOp
  simp only [ho,resolve,invoke,builtin,Sem.run_bind,Sem.run_pure,Result.andThen_ok,List.map_toArray,List.map_cons,List.map_nil,hs,hx,hr]
  refine h v' w' ?_ h3
  unfold Own
  rw [List.map_append,List.length_append,← hn]
  exact h2
theorem step_append {ops : Array Oper} {o : Oper} {a : Act} {K : Act → World → Prop} {Q : Exit → Act → World → Prop} {E : Prop} (X x : World) (hX : Below x.heap.size x X) (hgd : o.guard = none) (s t : Operand)
  (ho : o.op = .call { callee := .builtin .append,args := #[s,t],argTypes := #[25,25] })
  (v : Value) (xs : List UInt8) (hs : a.eval s = v) (hown : Own X x.heap.size v xs)
  (ao : Option Addr) (n cap : Nat) (zs : List UInt8) (ht : a.eval t = .slice ao n cap) (hn : n = zs.length) (hnil : ao = none → cap = 0) (hsrc : Seg X ao zs) (hl : xs.length + n ≤ 140737488355328)
  (h : ∀ v' w1,Own w1 x.heap.size v' (xs ++ zs) → X.grownBy w1 v.ownBlock → Below x.heap.size x w1 → K (a.put o.dst v') w1) :
  if Region.wanted o (yielded ops a.tmps) = true then Oper.wp Try.prog o a X K Q else E := by
 have hw : Region.wanted o (yielded ops a.tmps) = true := by simp [Region.wanted,hgd]
 rw [if_pos hw]
 exact wp_app X s t ho x.heap.size v xs hs hown ao n cap zs ht hn hnil hsrc hl hX.size fun v' w1 h1 h2 => h v' w1 h1 h2 (hX.grown h2 hX.size (own_ge hown))
end Go.Proofs.Ytagjbjppddbalaa.By
namespace Go.Proofs.Ytagjbjppddbalaa.Lr
open Go.RowKit
open Mem Pk Wl
theorem numsB_take {l : List Int} {k : Nat} (h : k < l.length) : numsB (l.take (k + 1)) = numsB (l.take k) ++ nm l[k] := by
 rw [List.take_succ_eq_append_getElem h,numsB_app]
 simp [numsB]
theorem numsB_len : ∀ l : List Int,(numsB l).length ≤ 10 * l.length
 | [] => Nat.le_refl _
 | x :: l => by
  rw [numsB,List.length_append,List.length_cons]
  have := numsB_len l
  have := nm_len x
  omega
theorem entsB_take {l : List Et.T} {k : Nat} (h : k < l.length) : entsB (l.take (k + 1)) = entsB (l.take k) ++ entB l[k] := by
 rw [List.take_succ_eq_append_getElem h,entsB_app]
 simp [entsB]
def Ob (w0 w : World) (v : Value) (bs : List UInt8) : Prop := (v = .slice none 0 0 ∧ bs = []) ∨ ∃ g,v = .slice (some ⟨g,0,none⟩) bs.length bs.length ∧ By.Block w g bs ∧ w0.heap.size ≤ g
theorem Ob.ls {w0 w : World} {v : Value} {bs : List UInt8} (h : Ob w0 w v bs) (hm : bs.length ≤ 1000000000000) : ∃ ao n cap,v = .slice ao n cap ∧ By.Ls w ao n cap bs ∧ n ≤ 1000000000000 := by
 rcases h with ⟨rfl,rfl⟩ | ⟨g,rfl,hb,_⟩
 · exact ⟨none,0,0,rfl,By.ls_nil w,by omega⟩
 · exact ⟨_,_,_,rfl,hb.ls (by omega),hm⟩
def NumE (w : World) (l : List Int) (e : Ending) (w' : World) : Prop := ∃ v,e = .returned v ∧ Ob w w' v (numsB l) ∧ Below w.heap.size w w'
set_option maxHeartbeats 2000000 in
theorem lt_numbers (ao : Option Addr) (n cap : Nat) (l : List Int) (w : World) (hI : Ints w ao n cap l) (hl : l.length ≤ 1000) :
  Calls Try.prog 23 #[.slice ao n cap] w (NumE w l) := by
 have HI := Lib.hid hI
 have hf := hI.fits
 have hr := hI.reach
 have HN := Lib.hid hI.len
 have hn : n ≤ 1000 := by
  have := hI.len
  omega
 clear hI
 go_enter Try.func23,Try.ntmps23
 go_wp2
 go_loopw [3,8] (fun t i wr => ∃ k : Nat,k ≤ n ∧ i = .int .i64 k ∧ Hid (Ob w wr t (numsB (l.take k))) ∧ Hid (Below w.heap.size w wr)) (fun _ i _ => n - (intOf i).toNat)
 case atStart => exact ⟨0,by omega,rfl,Lib.hid (.inl ⟨rfl,rfl⟩),Lib.hid (Below.refl _ _)⟩
 case round =>
  rename World => wz
  obtain ⟨k,hk,rfl,HO,HB⟩ := hrel
  obtain ⟨to,tn,tc,rfl,hT,htn⟩ := HO.out.ls (by have := numsB_len (l.take k); rw [List.length_take] at this; omega)
  by_cases hlt : k < n
  ·
   have hkl : k < l.length := HN.out ▸ hlt
   obtain ⟨b,off,z,rfl,hc,hz⟩ := HI.out.at k hlt
   have hc' := ((bcell HB.out).1 _ _ (cell_lt hc)).trans hc
   have HZ : Hid (l[k] = z) := Lib.hid (by
    rcases HI.out.seg with q | ⟨b',off',q,hcs⟩
    ·
     rw [q] at hkl
     simp at hkl
    ·
     cases q
     have := hcs k hkl
     rw [hc] at this
     cases this
     rfl)
   have C := Lib.hid (pack_num (numsB (l.take k)) z hz to tn tc wz hT htn)
   have HTn := Lib.hid hT.len
   clear hc hT
   go_wp2_with fail
   refine C.out.mono ?_
   rintro e w2 ⟨⟨g,rfl,hg,hb⟩,b2⟩
   have e2 : numsB (l.take (k + 1)) = numsB (l.take k) ++ vb (zz z) := by rw [numsB_take hkl,HZ.out]; rfl
   have HO2 : Hid (Ob w w2 (.slice (some ⟨g,0,none⟩) (tn + wd (zz z)) (tn + wd (zz z))) (numsB (l.take (k + 1)))) := Lib.hid (.inr ⟨g,by rw [e2,List.length_append,← HTn.out]; rfl,by rw [e2]; exact hb,Nat.le_trans HB.out.size hg⟩)
   have HB2 := Lib.hid (bchain HB.out b2)
   clear hg hb b2 e2 C
   go_wp2_with fail
   go_roundw
   case rel => exact ⟨k + 1,by omega,by go_num,HO2,HB2⟩
   case measure => simp [intOf]; omega
  ·
   obtain rfl : k = n := by omega
   have HE : Hid (Ob w wz (.slice to tn tc) (numsB l)) := Lib.hid (by
    have := HO.out
    rw [List.take_of_length_le (by have := HN.out; omega)] at this
    exact this)
   clear hT HO
   go_wp2_with fail
   go_ret
   exact ⟨_,rfl,HE.out,HB.out⟩
theorem pk_flag (bs : List UInt8) (x : Bool) (ao : Option Addr) (m cap : Nat) (w : World) (hL : By.Ls w ao m cap bs) (hm : m ≤ 1000000000000) :
  Calls Try.prog 24 #[.slice ao m cap,.bool x] w fun e w' => (∃ g,e = .returned (.slice (some ⟨g,0,none⟩) (bs ++ flB x).length (bs ++ flB x).length) ∧ w.heap.size ≤ g ∧ By.Block w' g (bs ++ flB x)) ∧ Below w.heap.size w w' := by
 have f0 : Fit 0 := ⟨by omega,by omega⟩
 have f1 : Fit 1 := ⟨by omega,by omega⟩
 have hlen := hL.len
 have HL := Lib.hid hL
 clear hL
 cases x
 ·
  have e : (bs ++ flB false).length = m + wd (zz 0) := by rw [List.length_append,← hlen]; rfl
  rw [e]
  clear e hlen
  go_enter Try.func24,Try.ntmps24
  go_wp2_with fail
  refine (pack_num bs 0 f0 ao m cap w HL.out hm).mono ?_
  rintro e u' ⟨⟨g,rfl,hg,hb⟩,b⟩
  go_wp2_with fail
  go_ret
  exact ⟨⟨g,rfl,hg,hb⟩,b⟩
 ·
  have e : (bs ++ flB true).length = m + wd (zz 1) := by rw [List.length_append,← hlen]; rfl
  rw [e]
  clear e hlen
  go_enter Try.func24,Try.ntmps24
  go_wp2_with fail
  refine (pack_num bs 1 f1 ao m cap w HL.out hm).mono ?_
  rintro e u' ⟨⟨g,rfl,hg,hb⟩,b⟩
  go_wp2_with fail
  go_ret
  exact ⟨⟨g,rfl,hg,hb⟩,b⟩
theorem ints_made (u : World) (zs : List Int) (hz : ∀ z ∈ zs,Fit z) (hl : zs.length ≤ 1000) : Ints (u.alloc (.cells (zs.map (Value.int .i64)).toArray 3)) (some ⟨u.heap.size,0,none⟩) zs.length zs.length zs := by
 refine ⟨rfl,Nat.le_refl _,by omega,.inr ⟨_,_,rfl,fun k hk => ?_⟩,hz⟩
 rw [cell_of_row _ u.heap.size (0 + k) _ _ _ (heap_alloc_new u _)]
 simp [hk]
end Go.Proofs.Ytagjbjppddbalaa.Lr
namespace Go.Proofs.Ytagjbjppddbalaa.Lr
open Go.RowKit
open Mem Pk Wl
def PutE (w : World) (bs : List UInt8) (e : Ending) (w' : World) : Prop := ∃ v,e = .returned v ∧ By.Own w' w.heap.size v bs ∧ Below w.heap.size w w'
theorem own_block {w0 w : World} {g N : Nat} {bs : List UInt8} (hb : By.Block w g bs) (hN : N = bs.length) (hm : bs.length ≤ 1000000) (hg : w0.heap.size ≤ g) : By.Own w w0.heap.size (.slice (some ⟨g,0,none⟩) N N) bs := by
 subst hN
 have hmx : maxLen = 9223372036854775807 := rfl
 exact ⟨by simp,.inr ⟨g,bs.length,(bs.map By.bv).toArray,rfl,hg,hb,Nat.le_refl _,by omega,by simp,by
  rw [List.toList_toArray,Nat.mul_one]
  exact List.take_of_length_le (by rw [List.length_map]; exact Nat.le_refl _)⟩⟩
theorem entB_len (e : Et.T) (h : e.data.size ≤ 1100) : (entB e).length ≤ 1200 := by
 unfold entB
 rw [List.length_append,List.length_append]
 have h1 := nm_len e.term
 have h2 := nm_len e.mem
 have h3 : (tx e.data).length ≤ 1110 := by
  unfold tx
  rw [List.length_append,txt_len]
  have := nm_len (e.data.size : Int)
  omega
 omega
theorem entsB_most : ∀ l : List Et.T,(∀ e ∈ l,e.data.size ≤ 1100) → (entsB l).length ≤ 1200 * l.length
 | [],_ => Nat.le_refl _
 | x :: l,h => by
  rw [entsB,List.length_append,List.length_cons]
  have h1 := entB_len x (h x List.mem_cons_self)
  have h2 := entsB_most l fun e he => h e (List.mem_cons_of_mem _ he)
  omega
theorem _root_.Go.Proofs.Ytagjbjppddbalaa.By.step_appB {ops : Array Oper} {o : Oper} {a : Act} {K : Act → World → Prop} {Q : Exit → Act → World → Prop} {E : Prop} (X : World) (B : Nat) (hgd : o.guard = none) (s t : Operand)
  (ho : o.op = .call { callee := .builtin .append,args := #[s,t],argTypes := #[25,25] })
  (v : Value) (xs : List UInt8) (hs : a.eval s = v) (hown : By.Own X B v xs)
  (ao : Option Addr) (n cap : Nat) (zs : List UInt8) (ht : a.eval t = .slice ao n cap) (hn : n = zs.length) (hnil : ao = none → cap = 0) (hsrc : By.Seg X ao zs) (hl : xs.length + n ≤ 140737488355328) (hB : B ≤ X.heap.size)
  (h : ∀ v' w1,By.Own w1 B v' (xs ++ zs) → X.grownBy w1 v.ownBlock → K (a.put o.dst v') w1) :
  if Region.wanted o (yielded ops a.tmps) = true then Oper.wp Try.prog o a X K Q else E := by
 have hw : Region.wanted o (yielded ops a.tmps) = true := by simp [Region.wanted,hgd]
 rw [if_pos hw]
 exact By.wp_app X s t ho B v xs hs hown ao n cap zs ht hn hnil hsrc hl hB h
theorem ints_two (u : World) (a b : Int) (h : Fit a ∧ Fit b) : Ints (u.alloc (.cells #[.int .i64 a,.int .i64 b] 3)) (some ⟨u.heap.size,0,none⟩) 2 2 [a,b] :=
 ints_made u [a,b] (by
  intro z hz
  simp only [List.mem_cons,List.not_mem_nil,or_false] at hz
  rcases hz with rfl | rfl
  · exact h.1
  · exact h.2) (by simp)
theorem ints_twoD (u : World) (a b : Int) (h : Fit a ∧ Fit b) : Ints (u.alloc (.cells #[.int .i64 a,.int .i64 b] 3)).drew (some ⟨u.heap.size,0,none⟩) 2 2 [a,b] :=
 ⟨rfl,Nat.le_refl _,(ints_two u a b h).reach,(ints_two u a b h).seg,(ints_two u a b h).wf⟩
set_option maxHeartbeats 4000000 in
theorem lt_put (r : Lr.T) (l : List Et.T) (w : World) (hl : Et.Ls w r.ents.ao r.ents.n r.ents.cap l) : Calls Try.prog 9 #[Lr.val r] w (PutE w (putM (m r l))) := by
 have HL := Lib.hid hl
 have hn9 := hl.reach
 have hn8 := hl.fits
 have HN := Lib.hid hl.len
 have HBW := Lib.hid (Lr.below_own w r)
 have HC := Lib.hid (Lr.c_box w r)
 have HRi := Lib.hid (lt_right r l (Lr.box w r) (hl.below (Lr.below_own w r)))
 obtain ⟨a0,a1,a2,a3,a4,a5,a6,a7,a8,a9,a10,a11,a12⟩ := HC.out
 clear hl
 unfold Lr.val at HRi ⊢
 obtain ⟨W,hW⟩ : ∃ W,Lr.box w r = W := ⟨_,rfl⟩
 rw [hW] at HBW HC HRi a0 a1 a2 a3 a4 a5 a6 a7 a8 a9 a10 a11 a12
 unfold Lr.box at hW
 cases hr : rightB (m r l)
 ·
  have HE : Hid (putM (m r l) = []) := Lib.hid (by unfold putM; rw [hr]; rfl)
  rw [hr] at HRi
  go_enter Try.func9,Try.ntmps9
  go_wp2_with (go_at_call 17; refine HRi.out.mono ?_; rintro e w1 ⟨rfl,b1⟩; have HB1 := Lib.hid (bchain HBW.out b1); clear b1)
  go_ret
  exact ⟨_,rfl,by rw [HE.out]; exact By.own_nil _ _,HB1.out⟩
 ·
  have HE : Hid (putM (m r l) = (m r l).bytes) := Lib.hid (by unfold putM; rw [hr]; rfl)
  rw [hr] at HRi
  have HOk := Lib.hid (ok_of hr)
  clear hr
  go_enter Try.func9,Try.ntmps9
  go_wp2_with (go_at_call 17; refine HRi.out.mono ?_)
  rintro e w1 ⟨rfl,b1⟩
  have HB1 := Lib.hid (bchain HBW.out b1)
  have HC1 := Lib.hid (HC.out.below b1)
  clear b1 a0 a1 a2 a3 a4 a5 a6 a7 a8 a9 a10 a11 a12 hW HBW HC HRi
  obtain ⟨a0,a1,a2,a3,a4,a5,a6,a7,a8,a9,a10,a11,a12⟩ := HC1.out
  have HI := Lib.hid (ints_made w1 [r.kind,r.frm,r.to,r.term,r.idx,r.bt,r.com,r.mem,r.off,r.size] (by
   have o := HOk.out
   have h1 := o.kind
   have h2 := o.frm
   have h3 := o.to
   have h4 := o.term
   have h5 := o.idx
   have h6 := o.bt
   have h7 := o.com
   have h8 := o.mem
   have h9 := o.off
   have h10 := o.size
   unfold m at h1 h2 h3 h4 h5 h6 h7 h8 h9 h10
   simp only at h1 h2 h3 h4 h5 h6 h7 h8 h9 h10
   intro z hz
   simp only [List.mem_cons,List.not_mem_nil,or_false] at hz
   unfold Fit
   omega) (by simp))
  have HNu := Lib.hid (lt_numbers _ _ _ _ _ HI.out (by simp))
  simp only [List.map_cons,List.map_nil,List.length_cons,List.length_nil,Nat.zero_add,Nat.reduceAdd] at HNu
  obtain ⟨w2,hw2⟩ : ∃ w2,w1.alloc (.cells #[.int .i64 r.kind,.int .i64 r.frm,.int .i64 r.to,.int .i64 r.term,.int .i64 r.idx,.int .i64 r.bt,.int .i64 r.com,.int .i64 r.mem,.int .i64 r.off,.int .i64 r.size] 3) = w2 := ⟨_,rfl⟩
  have hb2 : Below w1.heap.size w1 w2 := hw2 ▸ (Below.refl _ _).alloc (Nat.le_refl _) _
  rw [hw2] at HNu
  have HB2 := Lib.hid (bchain HB1.out hb2)
  have HC2 := Lib.hid (HC1.out.below hb2)
  clear hb2 HI
  go_wp2_with (go_at_call 23; refine HNu.out.mono ?_)
  rintro e w3 ⟨v3,rfl,o3,b3⟩
  have HT : Hid ((numsB [r.kind,r.frm,r.to,r.term,r.idx,r.bt,r.com,r.mem,r.off,r.size]).length ≤ 100) := Lib.hid (numsB_len _)
  have HTe : Hid ((m r l).bytes = numsB [r.kind,r.frm,r.to,r.term,r.idx,r.bt,r.com,r.mem,r.off,r.size] ++ flB r.yes ++ vb (zz r.data.size) ++ txt r.data ++ vb (zz (r.ents.n : Int)) ++ entsB l) := Lib.hid (by
   unfold M.bytes M.ten m Wl.tx Wl.nm
   rw [HN.out]
   simp only [List.append_assoc])
  generalize numsB [r.kind,r.frm,r.to,r.term,r.idx,r.bt,r.com,r.mem,r.off,r.size] = bs3 at o3 HT HTe
  obtain ⟨ao3,n3,cap3,rfl,L3,hn3⟩ := o3.ls (by have := HT.out; omega)
  have HL3 := Lib.hid L3
  have HB3 := Lib.hid (bchain HB2.out b3)
  have HC3 := Lib.hid (HC2.out.below b3)
  clear b3 o3 L3 hw2 HNu a0 a1 a2 a3 a4 a5 a6 a7 a8 a9 a10 a11 a12
  obtain ⟨-,-,-,-,-,-,-,-,-,-,a10,a11,a12⟩ := HC3.out
  go_wp2_with (go_at_call 24; refine (pk_flag bs3 r.yes ao3 n3 cap3 _ HL3.out hn3).mono ?_)
  rintro e w4 ⟨⟨g4,rfl,hg4,hb4⟩,b4⟩
  have HT4 : Hid ((bs3 ++ flB r.yes).length ≤ 110) := Lib.hid (by
   rw [List.length_append]
   have := HT.out
   have : (flB r.yes).length ≤ 10 := nm_len _
   omega)
  have L4 := hb4.ls (by have := HT4.out; omega)
  generalize bs3 ++ flB r.yes = bs4 at HTe HT4 L4 ⊢
  obtain ⟨n4,hn4⟩ : ∃ n,bs4.length = n := ⟨_,rfl⟩
  rw [hn4] at L4 HT4 ⊢
  have HL4 := Lib.hid L4
  have HB4 := Lib.hid (bchain HB3.out b4)
  have HC4 := Lib.hid (HC3.out.below b4)
  have hn4' : n4 ≤ 1000 := by have := HT4.out; omega
  clear b4 hb4 hg4 L4 hn4 a10 a11 a12
  obtain ⟨-,-,-,-,-,-,-,-,-,-,a10,a11,a12⟩ := HC4.out
  have hds : r.data.size ≤ 600 := HOk.out.data
  have HDs := Lib.hid hds
  go_wp2_with (go_at_call 25; refine (pack_text bs4 r.data (by omega) _ _ _ _ HL4.out (by omega)).mono ?_)
  rintro e w5 ⟨⟨g5,n5,rfl,hn5,hg5,hb5⟩,b5⟩
  have HT5 : Hid ((bs4 ++ vb (zz r.data.size) ++ txt r.data).length ≤ 2000) := Lib.hid (by
   rw [List.length_append,List.length_append,txt_len]
   have := HT4.out
   have := HL4.out.len
   have : (vb (zz (r.data.size : Int))).length ≤ 10 := nm_len _
   omega)
  have L5 := hb5.ls (by have := HT5.out; omega)
  rw [← hn5] at L5 HT5
  generalize bs4 ++ vb (zz r.data.size) ++ txt r.data = bs5 at HTe L5
  have HL5 := Lib.hid L5
  have HB5 := Lib.hid (bchain HB4.out b5)
  have HC5 := Lib.hid (HC4.out.below b5)
  have hn5' : n5 ≤ 2000 := HT5.out
  clear b5 hb5 hg5 L5 hn5 a10 a11 a12 hds
  obtain ⟨-,-,-,-,-,-,-,-,-,-,a10,a11,a12⟩ := HC5.out
  have hne : r.ents.n ≤ 8 := by have := HOk.out.n; have := HN.out; unfold m at *; simp only at *; omega
  go_wp2_with (go_at_call 26; refine (pack_num bs5 (r.ents.n : Int) ⟨by omega,by omega⟩ _ _ _ _ HL5.out (by omega)).mono ?_)
  rintro e w6 ⟨⟨g6,rfl,hg6,hb6⟩,b6⟩
  have HT6 : Hid ((bs5 ++ vb (zz (r.ents.n : Int))).length ≤ 2010) := Lib.hid (by
   rw [List.length_append]
   have := HT5.out
   have := HL5.out.len
   have : (vb (zz (r.ents.n : Int))).length ≤ 10 := nm_len _
   omega)
  have hN6 : n5 + wd (zz (r.ents.n : Int)) = (bs5 ++ vb (zz (r.ents.n : Int))).length := by
   rw [List.length_append,← HL5.out.len]
   rfl
  have HO6 := Lib.hid (own_block (w0 := w) hb6 hN6 (by have := HT6.out; omega) (Nat.le_trans HB5.out.size hg6))
  have HB6 := Lib.hid (bchain HB5.out b6)
  have HC6 := Lib.hid (HC5.out.below b6)
  generalize n5 + wd (zz (r.ents.n : Int)) = n6 at HO6 hN6 ⊢
  generalize bs5 ++ vb (zz (r.ents.n : Int)) = bs6 at HO6 HTe HT6
  clear b6 hb6 hg6 hN6 a10 a11 a12 HL3 HL4 HL5 HC1 HC2 HC3 HC4 HC5
  obtain ⟨-,-,-,-,-,-,-,-,-,-,a10,a11,a12⟩ := HC6.out
  go_wp2_with fail
  clear HC6 a10 a11 a12
  have HRd : Hid (∀ e ∈ l,(Fit e.term ∧ Fit e.mem) ∧ e.data.size ≤ 1100) := Lib.hid fun e he => by
   have h1 := HOk.out.ents e he
   have h2 := HOk.out.term
   refine ⟨⟨?_,?_⟩,h1.2.2⟩ <;> unfold Fit <;> omega
  go_loopw [3,5,47] (fun t _ i wr => ∃ k : Nat,k ≤ r.ents.n ∧ i = .int .i64 k ∧ Hid (By.Own wr w.heap.size t (bs6 ++ entsB (l.take k))) ∧ Hid (Below w.heap.size w wr)) (fun _ _ i _ => r.ents.n - (intOf i).toNat)
  case atStart => exact ⟨0,by omega,rfl,by simpa [entsB] using HO6,HB6⟩
  case round =>
   rename World => wz
   obtain ⟨k,hk,rfl,HO,HB⟩ := hrel
   by_cases hlt : k < r.ents.n
   ·
    obtain ⟨b,off,hao⟩ := HL.out.at (by omega)
    have hkl : k < l.length := HN.out ▸ hlt
    have hL1 := HL.out.below HB.out
    rw [hao] at hL1 ⊢
    have hrow := hL1.row k hkl
    have HX := Lib.hid (HRd.out _ (List.getElem_mem hkl))
    have HSt := Lib.hid (entsB_take hkl)
    obtain ⟨x,hx⟩ : ∃ x,l[k] = x := ⟨_,rfl⟩
    rw [hx] at hrow HX HSt
    obtain ⟨g0,g1,g2⟩ := hrow
    have hxd : x.data.size ≤ 1100 := HX.out.2
    obtain ⟨X,hX,hbX,hE⟩ := Et.boxed1 wz x
    have HOX := Lib.hid (By.own_below HO.out hbX)
    have HBX := Lib.hid (bchain HB.out hbX)
    unfold Et.C at hE
    obtain ⟨z0,z1,z2⟩ := hE
    obtain ⟨q,hq⟩ : ∃ q,wz.heap.size = q := ⟨_,rfl⟩
    rw [hq] at z0 z1 z2
    clear hL1 hx HO6 HB6 hbX
    go_wp2_with fail
    try rw [hX]
    try rw [hq]
    have hqX : q < X.heap.size := cell_lt z0
    have lx : ∀ u,Below X.heap.size X u → Below w.heap.size w u ∧ u.cell? ⟨q,0,none⟩ = some (.int .i64 x.term) ∧ u.cell? ⟨q,1,none⟩ = some (.int .i64 x.mem) ∧ u.cell? ⟨q,2,none⟩ = some (.string x.data) := fun u h => ⟨bchain HBX.out h,((bcell h).1 _ _ hqX).trans z0,((bcell h).1 _ _ hqX).trans z1,((bcell h).1 _ _ hqX).trans z2⟩
    have HLt := Lib.hid (show ∀ k,u3.ownBlock = some k → k < q from fun k e => hq ▸ (World.ownsRow.lt HO.out k e).2)
    have HNl : Hid ((numsB [x.term,x.mem]).length ≤ 20) := Lib.hid (numsB_len _)
    have HEb : Hid (numsB [x.term,x.mem] ++ vb (zz x.data.size) ++ txt x.data = entB x) := Lib.hid (by
     unfold entB Wl.tx Wl.nm numsB numsB numsB
     simp only [List.append_assoc,List.append_nil,Wl.nm])
    have HSz : Hid ((bs6 ++ entsB (l.take k)).length ≤ 20000) := Lib.hid (by
     rw [List.length_append]
     have h1 := entsB_most (l.take k) fun e he => (HRd.out e (List.mem_of_mem_take he)).2
     rw [List.length_take] at h1
     have := HT6.out
     omega)
    obtain ⟨bk,hbk⟩ : ∃ bk,bs6 ++ entsB (l.take k) = bk := ⟨_,rfl⟩
    rw [hbk] at HO HOX HSz
    have HBk := Lib.hid hbk
    clear hbk
    have k3 : ∀ y2 y3,Below X.heap.size X y2 → y2.grownBy y3 u3.ownBlock → Below w.heap.size w y3 ∧ y3.cell? ⟨q,0,none⟩ = some (.int .i64 x.term) ∧ y3.cell? ⟨q,1,none⟩ = some (.int .i64 x.mem) ∧ y3.cell? ⟨q,2,none⟩ = some (.string x.data) := fun y2 y3 h gr => by
     have s := lx y2 h
     have e := gr.block q (cell_lt s.2.1) (fun z => by have := HLt.out q z.symm; omega)
     exact ⟨s.1.grown gr s.1.size (By.own_ge HOX.out),(World.cell?_of_block e).trans s.2.1,(World.cell?_of_block e).trans s.2.2.1,(World.cell?_of_block e).trans s.2.2.2⟩
    have o2 := fun y2 (h : Below X.heap.size X y2) => By.own_below HOX.out h
    clear g0 g1 g2 hX hao
    go_region_held3 (fun u => Below w.heap.size w u ∧ u.cell? ⟨q,0,none⟩ = some (.int .i64 x.term) ∧ u.cell? ⟨q,1,none⟩ = some (.int .i64 x.mem) ∧ u.cell? ⟨q,2,none⟩ = some (.string x.data)) (first | with_reducible assumption | (apply lx; repeat (first | with_reducible assumption | with_reducible apply below_box | with_reducible apply Below.drew | with_reducible exact Below.refl _ _)) | fail) (first | (go_at_call 23; refine (lt_numbers (some ⟨_,0,none⟩) 2 2 [x.term,x.mem] _ (by first | with_reducible exact ints_two _ _ _ HX.out.1 | with_reducible exact ints_twoD _ _ _ HX.out.1) (by simp)).mono ?_; rintro e y1 ⟨v1,rfl,p1,c1⟩; have bX1 : Below X.heap.size X y1 := bchain (by repeat (first | with_reducible assumption | with_reducible apply below_box | with_reducible apply Below.drew | with_reducible exact Below.refl _ _)) c1; have s1 := lx _ bX1; obtain ⟨ao1,n1,cap1,rfl,L1,hn1⟩ := p1.ls (by have := HNl.out; omega)) | (go_at_call 25; refine (pack_text (numsB [x.term,x.mem]) x.data (by omega) ao1 n1 cap1 _ L1 hn1).mono ?_; rintro e y2 ⟨⟨g2,n2,rfl,hn2,hg2,hb2⟩,c2⟩; rw [HEb.out] at hn2 hb2; have HN2 := Lib.hid hn2; have HB2' := Lib.hid hb2; clear hn2 hb2 hg2; have bX2 := bchain bX1 c2; have s2 := lx _ bX2) | (refine By.step_appB y2 w.heap.size (by rfl) (.tmp 51) (.tmp 60) (by rfl) u3 bk (by rfl) (o2 _ bX2) (some ⟨g2,0,none⟩) n2 n2 (entB x) (by rfl) HN2.out (fun z => by cases z) (HB2'.out.ls (by have := entB_len x hxd; omega)).seg (by have := entB_len x hxd; have := HSz.out; have := HN2.out; omega) s2.1.size ?_; intro v3 y3 o3 gr3; have s3 := k3 y2 y3 bX2 gr3) | fail)
    have HO3 : Hid (By.Own y3 w.heap.size v3 (bk ++ entB x)) := Lib.hid o3
    have HB3' := Lib.hid s3.1
    clear o3 gr3 s3 s2 s1
    go_wp2_with fail
    go_roundw
    case rel => exact ⟨k + 1,by omega,by go_num,by rw [HSt.out,← List.append_assoc,HBk.out]; exact HO3,HB3'⟩
    case measure => simp [intOf]; omega
   ·
    obtain rfl : k = r.ents.n := by omega
    have HF : Hid (By.Own wz w.heap.size u3 (m r l).bytes) := Lib.hid (by
     rw [HTe.out]
     have := HO.out
     rw [List.take_of_length_le (by have := HN.out; omega)] at this
     exact this)
    clear HO hk hlt
    go_wp2_with fail
    go_ret
    exact ⟨_,rfl,by rw [HE.out]; exact HF.out,HB.out⟩
end Go.Proofs.Ytagjbjppddbalaa.Lr
namespace Go.Proofs.Ytagjbjppddbalaa
open Go.RowKit
open Mem Pk
theorem By.Ls.updN {w w' : World} {p : Nat} {ao : Option Addr} {n cap : Nat} {rs : List UInt8} (h : By.Ls w ao n cap rs) (k : Upd w p w') (hp : 0 < n → ∀ b off,ao = some ⟨b,off,none⟩ → b ≠ p) : By.Ls w' ao n cap rs := by
 by_cases h0 : 0 < n
 · exact h.upd k (hp h0)
 ·
  have e : rs = [] := List.length_eq_zero_iff.1 (by rw [← h.len]; omega)
  exact ⟨h.len,h.fits,h.reach,h.nil,.inl e⟩
structure Off (p q n : Nat) (ao : Option Addr) : Prop where
 ne : q ≠ p
 bytes : 0 < n → ∀ b off,ao = some ⟨b,off,none⟩ → b ≠ q
theorem Rd.off {w : World} {p : Nat} {ao : Option Addr} {n cap : Nat} {bs : List UInt8} {s : St} (h : Rd w p ao n cap bs s) {q : Nat} (hq : w.heap.size ≤ q) : Off p q n ao := by
 have hl := cell_lt h.c0
 refine ⟨by omega,fun h0 b off e => ?_⟩
 subst e
 have := cell_lt (h.ls.row 0 (by rw [← h.ls.len]; exact h0))
 omega
theorem Rd.other {u : World} {p q o n cap : Nat} {ao : Option Addr} {bs : List UInt8} {s : St} (h : Rd u p ao n cap bs s) (k : Off p q n ao) (x : Value) : Rd (u.setCell ⟨q,o,none⟩ x) p ao n cap bs s := by
 have U : Upd u q (u.setCell ⟨q,o,none⟩ x) := Upd.set x
 have hl := cell_lt h.c0
 have hp : p ≠ q := fun e => k.ne e.symm
 exact ⟨by rw [U.cell _ _ hl hp]; exact h.c0,by rw [U.cell _ _ hl hp]; exact h.c1,by rw [U.cell _ _ hl hp]; exact h.c2,fun o => by rw [U.frozen _ _ hl]; exact h.fz o,h.ls.updN U k.bytes,h.apart,h.place⟩
set_option maxHeartbeats 1000000 in
theorem lrd_flag (p : Nat) (ao : Option Addr) (n cap : Nat) (bs : List UInt8) (s : St) (w : World) (hR : Rd w p ao n cap bs s) :
  Calls Try.prog 48 #[.pointer (some ⟨p,0,none⟩)] w fun e w' => e = .returned (.bool (Lr.rFlag bs s).1) ∧ Rd w' p ao n cap bs (Lr.rFlag bs s).2 ∧ Upd w p w' := by
 have HR := Lib.hid hR
 have hpl := hR.place
 have c1 := hR.c1
 clear hR
 go_enter Try.func48,Try.ntmps48
 go_wp2_with fail
 refine (rd_num p ao n cap bs s w HR.out).mono ?_
 rintro e w1 ⟨rfl,hR1,hU1⟩
 have HR1 := Lib.hid hR1
 have HU1 := Lib.hid hU1
 clear hR1 hU1 c1
 obtain ⟨v,s1,hv⟩ : ∃ v s1,rNum bs s = (v,s1) := ⟨_,_,rfl⟩
 have HV := Lib.hid hv
 rw [hv] at HR1
 rw [hv]
 dsimp only at HR1 ⊢
 clear hv
 by_cases h0 : v = 0
 ·
  subst h0
  have HN : Hid (Lr.rFlag bs s = (false,s1)) := Lib.hid (by unfold Lr.rFlag; rw [HV.out]; rfl)
  go_wp2_with fail
  go_ret
  exact ⟨by rw [HN.out]; rfl,by rw [HN.out]; exact HR1.out,HU1.out⟩
 ·
  by_cases h1 : v = 1
  ·
   subst h1
   have HN : Hid (Lr.rFlag bs s = (true,s1)) := Lib.hid (by unfold Lr.rFlag; rw [HV.out]; rfl)
   go_wp2_with fail
   go_ret
   exact ⟨by rw [HN.out]; rfl,by rw [HN.out]; exact HR1.out,HU1.out⟩
  ·
   have HN : Hid (Lr.rFlag bs s = (false,⟨s.at',4⟩)) := Lib.hid (by unfold Lr.rFlag; rw [HV.out]; exact if_pos ⟨h0,h1⟩)
   have q0 : (v != 0) = true := bne_iff_ne.2 h0
   have q1 : (v != 1) = true := bne_iff_ne.2 h1
   clear h0 h1
   go_wp2_with fail
   refine (rd_refuse p ao n cap bs s1 s.at' 4 w1 HR1.out hpl).mono ?_
   rintro e w2 ⟨rfl,hR2,hU2⟩
   have HR2 := Lib.hid hR2
   have HU2 := Lib.hid (HU1.out.trans hU2)
   clear hR2 hU2
   go_wp2_with fail
   go_ret
   exact ⟨by rw [HN.out]; rfl,by rw [HN.out]; exact HR2.out,HU2.out⟩
theorem rows_upd {w u : World} {p B e k : Nat} {v : Value} {n : Nat} {xs : List Value} (h : w.ownsRow B e k v n xs) (q : Upd w p u) (hp : p < B) : u.ownsRow B e k v n xs := by
 obtain ⟨h1,h2⟩ := h
 refine ⟨h1,?_⟩
 rcases h2 with h2 | ⟨g,cap,cur,h',hb,hg,h3⟩
 · exact .inl h2
 · exact .inr ⟨g,cap,cur,h',hb,(q.block g (Array.getElem?_eq_some_iff.1 hg).1 (by omega)).trans hg,h3⟩
theorem rows_slice {w : World} {B e k : Nat} {v : Value} {n : Nat} {xs : List Value} (h : w.ownsRow B e k v n xs) : ∃ ao cap,v = .slice ao n cap := by
 rcases h.2 with ⟨h',h2⟩ | ⟨g',cap',cur,h',_⟩
 · exact ⟨none,0,by rw [h',h2]⟩
 · exact ⟨_,_,h'⟩
theorem Upd.grown {w u v : World} {p : Nat} {row : Option Nat} (h : Upd w p u) (gr : u.grownBy v row) (hr : ∀ k,row = some k → w.heap.size ≤ k ∧ k < u.heap.size) : Upd w p v := by
 refine ⟨Nat.le_trans h.size gr.size,fun b o hb hp => ?_,fun b o hb => ?_,fun w0 a c => ?_,fun b hb hp => ?_⟩
 · rw [World.cell?_of_block (gr.block b (Nat.lt_of_lt_of_le hb h.size) (fun e => by have := (hr b e.symm).1; omega)),h.cell b o hb hp]
 · rw [World.frozen?_of_block (gr.block b (Nat.lt_of_lt_of_le hb h.size) (fun e => by have := (hr b e.symm).1; omega)),h.frozen b o hb]
 ·
  have hb := h.below w0 a c
  exact hb.grown gr hb.size (fun k e => by have := (hr k e).1; have := a.size; omega)
 · rw [gr.block b (Nat.lt_of_lt_of_le hb h.size) (fun e => by have := (hr b e.symm).1; omega),h.block b hb hp]
theorem Rd.grown {u v : World} {p n cap : Nat} {ao : Option Addr} {bs : List UInt8} {s : St} {row : Option Nat} (h : Rd u p ao n cap bs s) (gr : u.grownBy v row) (k : ∀ q,row = some q → Off p q n ao) : Rd v p ao n cap bs s := by
 have hl := cell_lt h.c0
 have hb : v.heap[p]? = u.heap[p]? := gr.block p hl (fun e => (k p e.symm).ne rfl)
 refine ⟨(World.cell?_of_block hb).trans h.c0,(World.cell?_of_block hb).trans h.c1,(World.cell?_of_block hb).trans h.c2,fun o => (World.frozen?_of_block hb).trans (h.fz o),?_,h.apart,h.place⟩
 refine ⟨h.ls.len,h.ls.fits,h.ls.reach,h.ls.nil,?_⟩
 rcases h.ls.seg with e | ⟨b,off,e,hc⟩
 · exact .inl e
 ·
  refine .inr ⟨b,off,e,fun i hi => ?_⟩
  have h0 := hc i hi
  have hn : 0 < n := by rw [h.ls.len]; omega
  exact (World.cell?_of_block (gr.block b (cell_lt h0) (fun z => (k b z.symm).bytes hn b off e rfl))).trans h0
structure Ri (w u : World) (p : Nat) (ao : Option Addr) (n cap : Nat) (bs : List UInt8) (s : St) : Prop where
 rd : Rd u p ao n cap bs s
 upd : Upd w p u
 off : ∀ q,w.heap.size ≤ q → Off p q n ao
 lt : p < w.heap.size
section
variable {w u v : World} {p n cap : Nat} {ao : Option Addr} {bs : List UInt8} {s s' : St}
theorem Ri.start (h : Rd w p ao n cap bs s) : Ri w w p ao n cap bs s := ⟨h,Upd.refl w p,fun q hq => h.off hq,cell_lt h.c0⟩
theorem Ri.call (h : Ri w u p ao n cap bs s) (r : Rd v p ao n cap bs s') (k : Upd u p v) : Ri w v p ao n cap bs s' := ⟨r,h.upd.trans k,h.off,h.lt⟩
theorem Ri.app (h : Ri w u p ao n cap bs s) {row : Option Nat} (o : Obj) (gr : (u.alloc o).grownBy v row) (hr : ∀ k,row = some k → w.heap.size ≤ k ∧ k < u.heap.size) : Ri w v p ao n cap bs s := by
 have hb : Below u.heap.size u (u.alloc o) := (Below.refl _ _).alloc (Nat.le_refl _) o
 have hU : Upd w p (u.alloc o) := h.upd.trans (Upd.of p hb)
 exact ⟨(h.rd.below hb).grown gr fun q e => h.off q (hr q e).1,hU.grown gr fun k e => ⟨(hr k e).1,Nat.lt_of_lt_of_le (hr k e).2 hb.size⟩,h.off,h.lt⟩
end
theorem Lr.count_most (bs : List UInt8) (most : Int) (s : St) : (rCount bs most s).1 ≤ most ∨ (rCount bs most s).1 = 0 := by
 unfold rCount
 split
 · exact .inr rfl
 ·
  unfold rWithin
  split
  · exact .inr rfl
  ·
   split
   · exact .inr rfl
   ·
    rename_i h
    exact .inl (by omega)
theorem Lr.ents_snoc (bs : List UInt8) : ∀ (k : Nat) (s : St),(Lr.rEnts bs (k + 1) s).1 = (Lr.rEnts bs k s).1 ++ [(Lr.rEnt bs (Lr.rEnts bs k s).2).1] ∧ (Lr.rEnts bs (k + 1) s).2 = (Lr.rEnt bs (Lr.rEnts bs k s).2).2
 | 0,s => ⟨rfl,rfl⟩
 | k + 1,s => by
  obtain ⟨h1,h2⟩ := Lr.ents_snoc bs k (Lr.rEnt bs s).2
  rw [Lr.rEnts,h1,h2,Lr.rEnts]
  exact ⟨rfl,rfl⟩
theorem Lr.ents_len (bs : List UInt8) : ∀ (k : Nat) (s : St),(Lr.rEnts bs k s).1.length = k
 | 0,s => rfl
 | k + 1,s => by
  rw [Lr.rEnts,List.length_cons,Lr.ents_len bs k]
set_option maxHeartbeats 2000000 in
theorem lt_entries (p : Nat) (ao : Option Addr) (n cap : Nat) (bs : List UInt8) (s : St) (w : World) (hR : Rd w p ao n cap bs s) :
  Calls Try.prog 50 #[.pointer (some ⟨p,0,none⟩)] w fun e w' => ∃ v,e = .returned v ∧ Et.Own w' w.heap.size v (Lr.rEnts bs (rCount bs 8 s).1.toNat (rCount bs 8 s).2).1 ∧ Rd w' p ao n cap bs (Lr.rEnts bs (rCount bs 8 s).1.toNat (rCount bs 8 s).2).2 ∧ Upd w p w' := by
 have HI0 := Lib.hid (Ri.start hR)
 clear hR
 go_enter Try.func50,Try.ntmps50
 go_wp2_with fail
 refine (rd_count p ao n cap bs 8 s w HI0.out.rd).mono ?_
 rintro e w1 ⟨rfl,r1,k1⟩
 have HP := Lib.hid (rCount_pos bs 8 s)
 have HMx : Hid ((rCount bs 8 s).1 ≤ 8) := Lib.hid (by have h := Lr.count_most bs 8 s; rcases h with h | h <;> omega)
 obtain ⟨c,s1,hv⟩ : ∃ c s1,rCount bs 8 s = (c,s1) := ⟨_,_,rfl⟩
 have HV := Lib.hid hv
 rw [hv] at r1 HP HMx ⊢
 dsimp only at r1 HP HMx ⊢
 obtain ⟨N,hN⟩ : ∃ N : Nat,c = (N : Int) := ⟨c.toNat,by have := HP.out; omega⟩
 subst hN
 have HI1 := Lib.hid (HI0.out.call r1 k1)
 have hN1 : N ≤ 8 := by have := HMx.out; omega
 clear r1 k1 hv
 go_wp2_with fail
 go_loopw [3,6] (fun t j wr => ∃ (k : Nat) (vo : Option Addr) (q vc : Nat),k ≤ N ∧ j = .int .i64 k ∧ t = .slice vo q vc ∧ Hid (Ri w wr p ao n cap bs (Lr.rEnts bs k s1).2) ∧ Hid (Et.Own wr w.heap.size (.slice vo q vc) (Lr.rEnts bs k s1).1)) (fun _ j _ => N - (intOf j).toNat)
 case atStart => exact ⟨0,none,0,0,by omega,rfl,rfl,HI1,Lib.hid (Et.own_nil _ _)⟩
 case round =>
  clear HI1
  rename World => wz
  obtain ⟨k,vo,q,vc,hk,rfl,rfl,HI,HO⟩ := hrel
  by_cases hlt : k < N
  ·
   have HSn := Lib.hid (Lr.ents_snoc bs k s1)
   have HLn := Lib.hid (Lr.ents_len bs k s1)
   generalize Lr.rEnts bs k s1 = rk at HI HO HSn HLn
   obtain ⟨L,sk⟩ := rk
   dsimp only at HI HO HSn HLn
   go_wp2_with fail
   refine (rd_num p ao n cap bs sk wz HI.out.rd).mono ?_
   rintro e w2 ⟨rfl,r2,k2⟩
   have HI2 := Lib.hid (HI.out.call r2 k2)
   have HO2 := Lib.hid (rows_upd HO.out k2 (by have := HI.out.lt; omega))
   obtain ⟨x1,s2,hx1⟩ : ∃ x s,rNum bs sk = (x,s) := ⟨_,_,rfl⟩
   have HX1 := Lib.hid hx1
   rw [hx1] at HI2 ⊢
   dsimp only at HI2 ⊢
   clear r2 k2 hx1 HO
   go_wp2_with fail
   refine (rd_num p ao n cap bs s2 w2 HI2.out.rd).mono ?_
   rintro e w3 ⟨rfl,r3,k3⟩
   have HI3 := Lib.hid (HI2.out.call r3 k3)
   have HO3 := Lib.hid (rows_upd HO2.out k3 (by have := HI2.out.lt; omega))
   obtain ⟨x2,s3,hx2⟩ : ∃ x s,rNum bs s2 = (x,s) := ⟨_,_,rfl⟩
   have HX2 := Lib.hid hx2
   rw [hx2] at HI3 ⊢
   dsimp only at HI3 ⊢
   clear r3 k3 hx2 HO2
   go_wp2_with fail
   refine (rd_text p ao n cap bs 1100 s3 w3 HI3.out.rd).mono ?_
   rintro e w4 ⟨rfl,r4,k4⟩
   have HI4 := Lib.hid (HI3.out.call r4 k4)
   have HO4 := Lib.hid (rows_upd HO3.out k4 (by have := HI3.out.lt; omega))
   obtain ⟨x3,s4,hx3⟩ : ∃ x s,rText bs 1100 s3 = (x,s) := ⟨_,_,rfl⟩
   have HX3 := Lib.hid hx3
   rw [hx3] at HI4 ⊢
   dsimp only at HI4 ⊢
   clear r4 k4 hx3 HO3
   have HRe : Hid (Lr.rEnt bs sk = (⟨x1,x2,x3⟩,s4)) := Lib.hid (by
    unfold Lr.rEnt
    rw [HX1.out]
    dsimp only
    rw [HX2.out]
    dsimp only
    rw [HX3.out])
   rw [HRe.out] at HSn
   dsimp only at HSn
   go_wp2_with (at_builtin; go_must (refine Et.wpList_append _ rfl (.tmp 8) (.tmp 16) rfl w.heap.size (.slice vo q vc) L rfl (Et.own_alloc HO4.out _) (some ⟨w4.heap.size,0,none⟩) 1 1 [⟨x1,x2,x3⟩] rfl rfl (fun h => by cases h) (Et.seg_block (heap_alloc_new w4 _)) (by have := HLn.out; omega) (by have := HI4.out.upd.size; simp; omega) ?_))
   intro v3 w5 o3 gr3 _
   obtain ⟨va,vcp,hv3⟩ := rows_slice o3
   subst hv3
   have HI5 := Lib.hid (HI4.out.app _ gr3 (World.ownsRow.lt HO4.out))
   have HO5 := Lib.hid o3
   clear gr3 o3
   go_wp2_with fail
   go_roundw
   case rel =>
    refine ⟨k + 1,_,_,_,by omega,by go_num,rfl,Lib.hid ?_,Lib.hid ?_⟩
    ·
     rw [HSn.out.2]
     exact HI5.out
    ·
     rw [HSn.out.1]
     exact HO5.out
   case measure => simp [intOf]; omega
  ·
   obtain rfl : k = N := by omega
   go_wp2_with fail
   go_ret
   rw [HV.out]
   dsimp only
   rw [Int.toNat_natCast]
   exact ⟨_,rfl,HO.out,HI.out.rd,HI.out.upd⟩
end Go.Proofs.Ytagjbjppddbalaa
