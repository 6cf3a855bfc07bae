/- THE DOCUMENT's OWN DISK IN MEMORY: rows laid anew, one row turned. -/
import Derived.Test.YtegniklofhopeaaYDpDrA
set_option linter.unusedVariables false
namespace Go.Proofs.Ytegniklofhopeaa.Dr
open Go.RowKit
open Mem Dk
structure One (w : World) (r : Rq.T) (f : F) : Prop where
 name : r.name = f.name
 kept : r.kept = (f.kept : Int)
 own : By.Own w 0 (sl r.bytes) f.bs
theorem One.keep {w u : World} {r : Rq.T} {f : F} (h : One w r f) (k : ∀ g,(sl r.bytes).ownBlock = some g → u.heap[g]? = w.heap[g]?) : One u r f := ⟨h.name,h.kept,rows_keep h.own k⟩
def All (w : World) : List Rq.T → List F → Prop
 | [],[] => True
 | r :: rs,f :: fs => One w r f ∧ All w rs fs
 | _,_ => False
theorem all_of {w : World} : ∀ {rs : List Rq.T} {fs : List F},EachR w rs fs → All w rs fs
 | [],[],_ => trivial
 | [],f :: fs,h => by cases h.len
 | r :: rs,[],h => by cases h.len
 | r :: rs,f :: fs,h => by
  have hl : rs.length = fs.length := by simpa using h.len
  refine ⟨⟨h.name 0 (by simp),h.kept 0 (by simp),h.own 0 (by simp)⟩,all_of ⟨hl,fun i hi => ?_,fun i hi => ?_,fun i hi => ?_⟩⟩
  · exact h.name (i + 1) (by simpa using hi)
  · exact h.kept (i + 1) (by simpa using hi)
  · exact h.own (i + 1) (by simpa using hi)
theorem All.len {w : World} : ∀ {rs : List Rq.T} {fs : List F},All w rs fs → rs.length = fs.length
 | [],[],_ => rfl
 | [],f :: fs,h => h.elim
 | r :: rs,[],h => h.elim
 | r :: rs,f :: fs,h => by
  rw [List.length_cons,List.length_cons,All.len h.2]
theorem All.get {w : World} : ∀ {rs : List Rq.T} {fs : List F},All w rs fs → ∀ i (h : i < rs.length) (h' : i < fs.length),One w rs[i] fs[i]
 | [],[],_,i,h,_ => absurd h (Nat.not_lt_zero _)
 | r :: rs,f :: fs,k,0,_,_ => k.1
 | r :: rs,f :: fs,k,i + 1,h,h' => All.get k.2 i (by simpa using h) (by simpa using h')
theorem All.each {w : World} {rs : List Rq.T} {fs : List F} (h : All w rs fs) : EachR w rs fs :=
 ⟨h.len,fun i hi => (h.get i hi (h.len ▸ hi)).name,fun i hi => (h.get i hi (h.len ▸ hi)).kept,fun i hi => (h.get i hi (h.len ▸ hi)).own⟩
theorem All.app {w : World} : ∀ {rs : List Rq.T} {fs : List F} {ts : List Rq.T} {gs : List F},All w rs fs → All w ts gs → All w (rs ++ ts) (fs ++ gs)
 | [],[],_,_,_,k => k
 | r :: rs,f :: fs,_,_,h,k => ⟨h.1,All.app h.2 k⟩
theorem All.take {w : World} : ∀ {rs : List Rq.T} {fs : List F} (k : Nat),All w rs fs → All w (rs.take k) (fs.take k)
 | [],[],k,_ => by rw [List.take_nil,List.take_nil]; trivial
 | r :: rs,f :: fs,0,_ => trivial
 | r :: rs,f :: fs,k + 1,h => ⟨h.1,All.take k h.2⟩
theorem All.drop {w : World} : ∀ {rs : List Rq.T} {fs : List F} (k : Nat),All w rs fs → All w (rs.drop k) (fs.drop k)
 | [],[],k,_ => by rw [List.drop_nil,List.drop_nil]; trivial
 | r :: rs,f :: fs,0,h => h
 | r :: rs,f :: fs,k + 1,h => All.drop k h.2
theorem All.set {w : World} : ∀ {rs : List Rq.T} {fs : List F} (k : Nat) {r : Rq.T} {f : F},All w rs fs → One w r f → All w (rs.set k r) (fs.set k f)
 | [],[],_,_,_,h,_ => h
 | r :: rs,f :: fs,0,_,_,h,o => ⟨o,h.2⟩
 | r :: rs,f :: fs,k + 1,_,_,h,o => ⟨h.1,All.set k h.2 o⟩
theorem All.keep {w u : World} : ∀ {rs : List Rq.T} {fs : List F},All w rs fs → (∀ r ∈ rs,∀ g,(sl r.bytes).ownBlock = some g → u.heap[g]? = w.heap[g]?) → All u rs fs
 | [],[],h,_ => h
 | r :: rs,f :: fs,h,k => ⟨h.1.keep (k r (by simp)),All.keep h.2 fun x hx => k x (by simp [hx])⟩
theorem own_sl {w : World} {B : Nat} {v : Value} {xs : List Rq.T} (h : Rq.Own w B v xs) : ∃ x : Sl,v = sl x := by
 rcases h.2 with ⟨h',_⟩ | ⟨g,cap,cur,h',_⟩
 · exact ⟨⟨none,0,0⟩,h'⟩
 · exact ⟨⟨_,_,_⟩,h'⟩
theorem own_slice {w : World} {B : Nat} {v : Value} {xs : List Rq.T} (h : Rq.Own w B v xs) : ∃ a n c,v = .slice a n c := by
 rcases h.2 with ⟨h',_⟩ | ⟨g,cap,cur,h',_⟩
 · exact ⟨_,_,_,h'⟩
 · exact ⟨_,_,_,h'⟩
theorem by_slice {w : World} {B : Nat} {v : Value} {xs : List UInt8} (h : By.Own w B v xs) : ∃ a n c,v = .slice a n c := by
 rcases h.2 with ⟨h',_⟩ | ⟨g,cap,cur,h',_⟩
 · exact ⟨_,_,_,h'⟩
 · exact ⟨_,_,_,h'⟩
theorem by_sl {w : World} {B : Nat} {v : Value} {xs : List UInt8} (h : By.Own w B v xs) : ∃ x : Sl,v = sl x := by
 rcases h.2 with ⟨h',_⟩ | ⟨g,cap,cur,h',_⟩
 · exact ⟨⟨none,0,0⟩,h'⟩
 · exact ⟨⟨_,_,_⟩,h'⟩
section
variable {P : Nat → Prop} {w u y : World} {p : Nat} {d : D} {v : Sl} {rs : List Rq.T}
theorem At.mem (h : At P w p d v rs) {r : Rq.T} (hr : r ∈ rs) {b : Nat} (e : (sl r.bytes).ownBlock = some b) : P b ∧ b ≠ p ∧ (sl v).ownBlock ≠ some b ∧ b < w.heap.size := by
 obtain ⟨i,hi,rfl⟩ := List.getElem_of_mem hr
 obtain ⟨h1,h2,h3⟩ := h.pb i hi b e
 exact ⟨h1,h2,h3,(World.ownsRow.lt (h.each.own i hi) b e).2⟩
theorem At.relay (h : At P w p d v rs) (b : Below w.heap.size w y) {v3 : Value} {rs' : List Rq.T} {fs' : List F} (o : Rq.Own y w.heap.size v3 rs') (e : All w rs' fs') (hm : ∀ r ∈ rs',r ∈ rs ∨ (sl r.bytes).ownBlock = none) (ok : Ok ⟨fs',d.off,d.left⟩) (few : fs'.length ≤ 1000) :
  ∃ v',v3 = sl v' ∧ At (nw P w) (y.setCell ⟨p,0,none⟩ v3) p ⟨fs',d.off,d.left⟩ v' rs' ∧ UpdQ (fun b => b = p) w (y.setCell ⟨p,0,none⟩ v3) ∧ ∀ g,(sl v').ownBlock = some g → w.heap.size ≤ g := by
 obtain ⟨v',rfl⟩ := own_sl o
 have hy := h.below b
 have k : UpdQ (fun b => b = p) y (y.setCell ⟨p,0,none⟩ (sl v')) := UpdQ.set (Q := fun b => b = p) y rfl 0 _
 have hv : ∀ g,(sl v').ownBlock = some g → w.heap.size ≤ g ∧ g ≠ p := fun g e => by
  have h1 := Rq.own_ge o g e
  have h2 := h.box.lt
  exact ⟨h1,by omega⟩
 refine ⟨v',rfl,⟨hy.box.set0 v',?_,?_,.inl h.pp,fun g e => ⟨.inr (hv g e).1,(hv g e).2⟩,?_,ok,few⟩,(UpdQ.of b).trans k,fun g e => (hv g e).1⟩
 · exact k.rows (Rq.own_mono o (Nat.zero_le _)) fun g e => (hv g e).2
 ·
  refine (All.keep e fun r hr g eg => ?_).each
  rcases hm r hr with q | q
  ·
   obtain ⟨_,h2,_,h4⟩ := h.mem q eg
   exact (k.block g (Nat.lt_of_lt_of_le h4 b.size) h2).trans (b.block g h4)
  ·
   rw [q] at eg
   cases eg
 ·
  intro i hi g eg
  rcases hm _ (List.getElem_mem hi) with q | q
  ·
   obtain ⟨h1,h2,h3,h4⟩ := h.mem q eg
   exact ⟨.inl h1,h2,fun z => by have := (hv g z).1; omega⟩
  ·
   rw [q] at eg
   cases eg
theorem At.turn (h : At P w p d v rs) {k : Nat} (hk : k < rs.length) {r' : Rq.T} {f' : F} (rows : Rq.Own u 0 (sl v) (rs.set k r')) (one : One u r' f') (hu : UpdQ (fun b => (sl v).ownBlock = some b) w u) (hb : ∀ b,(sl r'.bytes).ownBlock = some b → nw P w b ∧ b ≠ p ∧ (sl v).ownBlock ≠ some b) (ok : Ok ⟨d.fs.set k f',d.off,d.left⟩) :
  At (nw P w) u p ⟨d.fs.set k f',d.off,d.left⟩ v (rs.set k r') := by
 refine ⟨(hu.block p h.box.lt fun z => (h.pv p z).2 rfl).trans h.box,rows,?_,.inl h.pp,fun b e => ⟨.inl (h.pv b e).1,(h.pv b e).2⟩,?_,ok,by rw [List.length_set]; exact h.few⟩
 ·
  have hl := h.each.len
  refine ⟨by rw [List.length_set,List.length_set]; exact hl,fun i hi => ?_,fun i hi => ?_,fun i hi => ?_⟩
  all_goals
   rw [List.length_set] at hi
   simp only [List.getElem_set]
   by_cases e : k = i
   ·
    subst e
    simp only [if_true]
    first | exact one.name | exact one.kept | exact one.own
   ·
    simp only [if_neg e]
    first | exact h.each.name i hi | exact h.each.kept i hi | exact rows_keep (h.each.own i hi) fun g eg => hu.block g (World.ownsRow.lt (h.each.own i hi) g eg).2 (h.pb i hi g eg).2.2
 ·
  intro i hi b e
  rw [List.length_set] at hi
  simp only [List.getElem_set] at e
  by_cases q : k = i
  ·
   subst q
   simp only [if_true] at e
   exact hb b e
  ·
   simp only [if_neg q] at e
   obtain ⟨h1,h2,h3⟩ := h.pb i hi b e
   exact ⟨.inl h1,h2,h3⟩
theorem At.spot (h : At P w p d v rs) {s : ByteArray} (hh : has s d.fs = true) : ∃ hk : Dk.spot s d.fs < rs.length,One w (rs[Dk.spot s d.fs]'hk) (Dk.own s d.fs) ∧ ∃ g,v.ao = some ⟨g,0,none⟩ ∧ (sl v).ownBlock = some g := by
 have h1 := spot_lt h.ok.sorted hh
 have hk : Dk.spot s d.fs < rs.length := by rw [h.each.len]; exact h1
 refine ⟨hk,?_,?_⟩
 ·
  rw [own_at h.ok.sorted hh]
  exact (all_of h.each).get _ hk h1
 ·
  rcases h.rows.2 with ⟨_,h2⟩ | ⟨g,cap,cur,h',_⟩
  · omega
  ·
   unfold sl at h'
   simp only [Value.slice.injEq] at h'
   refine ⟨g,h'.1,?_⟩
   unfold sl
   rw [h'.1]
   rfl
end
theorem spot_step (s : ByteArray) (fs : List F) (k : Nat) (hk : k < fs.length) : Dk.spot s (fs.drop k) = if lt fs[k].name s = true then Dk.spot s (fs.drop (k + 1)) + 1 else 0 := by
 rw [List.drop_eq_getElem_cons hk,Dk.spot]
theorem spot_nil (s : ByteArray) {fs : List F} {k : Nat} (h : fs.length ≤ k) : Dk.spot s (fs.drop k) = 0 := by
 rw [List.drop_eq_nil_of_le h]
 rfl
end Go.Proofs.Ytegniklofhopeaa.Dr
