/- PLAIN LEAN: what a change of one file leaves of the others; no Go walked here. -/
import Derived.Test.YtegniklofhopeaaZDp2
set_option linter.unusedVariables false
namespace Go.Proofs.Ytegniklofhopeaa.Dk
theorem own_eq {s : ByteArray} {l : List F} (hs : Sorted l) {f : F} (h : f ∈ l) (hn : f.name = s) : has s l = true ∧ own s l = f := by
 obtain ⟨i,hi,rfl⟩ := List.getElem_of_mem h
 have h1 : has s l = true := has_iff.2 ⟨i,hi,hn⟩
 have h2 := one_name hs hi hn
 refine ⟨h1,?_⟩
 rw [own_at hs h1]
 simp only [← h2]
theorem has_mem {s : ByteArray} {l : List F} : has s l = true ↔ ∃ f ∈ l,f.name = s := by
 unfold has
 rw [List.any_eq_true]
 exact ⟨fun ⟨f,a,b⟩ => ⟨f,a,of_decide_eq_true b⟩,fun ⟨f,a,b⟩ => ⟨f,a,decide_eq_true b⟩⟩
theorem mem_del {s : ByteArray} {l : List F} (hs : Sorted l) (hh : has s l = true) (g : F) : g ∈ del s l ↔ g ∈ l ∧ g.name ≠ s := by
 have hi := spot_lt hs hh
 constructor
 ·
  intro h
  refine ⟨del_mem h,fun e => ?_⟩
  unfold del at h
  rcases List.mem_append.1 h with h | h
  ·
   obtain ⟨j,hj,rfl⟩ := List.getElem_of_mem h
   rw [List.length_take] at hj
   rw [List.getElem_take] at e
   have := one_name hs (by omega) e
   omega
  ·
   obtain ⟨j,hj,rfl⟩ := List.getElem_of_mem h
   rw [List.length_drop] at hj
   rw [List.getElem_drop] at e
   have := one_name hs (by omega) e
   omega
 ·
  rintro ⟨h,hn⟩
  obtain ⟨j,hj,rfl⟩ := List.getElem_of_mem h
  have hne : j ≠ spot s l := fun e => hn (by subst e; exact spot_name hs hh)
  unfold del
  rw [List.mem_append]
  by_cases hlt : j < spot s l
  · exact .inl (List.mem_take_iff_getElem.2 ⟨j,by omega,rfl⟩)
  ·
   refine .inr (List.mem_drop_iff_getElem.2 ⟨j - (spot s l + 1),by omega,?_⟩)
   congr 1
   omega
theorem mem_put {f : F} {l : List F} (hs : Sorted l) (g : F) : g ∈ put f l ↔ g = f ∨ (g ∈ l ∧ g.name ≠ f.name) := by
 cases h : has f.name l
 ·
  have hno : ∀ x ∈ l,x.name ≠ f.name := fun x hx e => by
   have := has_mem.2 ⟨x,hx,e⟩
   rw [h] at this
   cases this
  rw [put_ins h,List.mem_append,List.mem_append,List.mem_singleton]
  constructor
  ·
   rintro (k | k | k)
   · exact .inr ⟨List.mem_of_mem_take k,hno _ (List.mem_of_mem_take k)⟩
   · exact .inl k
   · exact .inr ⟨List.mem_of_mem_drop k,hno _ (List.mem_of_mem_drop k)⟩
  ·
   rintro (k | ⟨k,_⟩)
   · exact .inr (.inl k)
   ·
    rw [← List.take_append_drop (spot f.name l) l] at k
    rcases List.mem_append.1 k with k | k
    · exact .inl k
    · exact .inr (.inr k)
 ·
  have e : g ∈ put f l ↔ g = f ∨ g ∈ del f.name l := by
   rw [put_set hs h]
   unfold del
   rw [List.mem_append,List.mem_append,List.mem_append,List.mem_singleton]
   constructor
   ·
    rintro (k | k | k)
    · exact .inr (.inl k)
    · exact .inl k
    · exact .inr (.inr k)
   ·
    rintro (k | k | k)
    · exact .inr (.inl k)
    · exact .inl k
    · exact .inr (.inr k)
  rw [e,mem_del hs h]
theorem same_own {s : ByteArray} {l m : List F} (hl : Sorted l) (hm : Sorted m) (h : ∀ g : F,g.name = s → (g ∈ m ↔ g ∈ l)) : has s m = has s l ∧ own s m = own s l := by
 cases k : has s l
 ·
  have k2 : has s m = false := by
   rw [Bool.eq_false_iff]
   intro z
   obtain ⟨f,hf,e⟩ := has_mem.1 z
   have := has_mem.2 ⟨f,(h f e).1 hf,e⟩
   rw [k] at this
   cases this
  exact ⟨k2,by rw [own_no k2,own_no k]⟩
 ·
  have h1 := own_mem hl k
  have h2 := own_name (s := s) hl
  obtain ⟨a,b⟩ := own_eq hm ((h _ h2).2 h1) h2
  exact ⟨a,b⟩
theorem put_other {s : ByteArray} {f : F} {l : List F} (hs : Sorted l) (hn : f.name ≠ s) : has s (put f l) = has s l ∧ own s (put f l) = own s l :=
 same_own hs (put_sorted hs) fun g e => by
  rw [mem_put hs]
  constructor
  ·
   rintro (k | k)
   · exact absurd (k ▸ e) hn
   · exact k.1
  · exact fun k => .inr ⟨k,fun z => hn (z ▸ e)⟩
theorem del_other {s t : ByteArray} {l : List F} (hs : Sorted l) (hh : has t l = true) (hn : t ≠ s) : has s (del t l) = has s l ∧ own s (del t l) = own s l :=
 same_own hs (del_sorted hs) fun g e => by
  rw [mem_del hs hh]
  exact ⟨fun k => k.1,fun k => ⟨k,fun z => hn (z.symm.trans e)⟩⟩
theorem del_self {s : ByteArray} {l : List F} (hs : Sorted l) (hh : has s l = true) : has s (del s l) = false := by
 rw [Bool.eq_false_iff]
 intro z
 obtain ⟨f,hf,e⟩ := has_mem.1 z
 exact ((mem_del hs hh f).1 hf).2 e
section
variable {d : D} {s : ByteArray}
def Same (s : ByteArray) (d d' : D) : Prop := has s d'.fs = has s d.fs ∧ own s d'.fs = own s d.fs
theorem Same.refl (s : ByteArray) (d : D) : Same s d d := ⟨rfl,rfl⟩
theorem app_other (h : Ok d) {t : ByteArray} (ht : t ≠ s) (zs : List UInt8) : Same s d (appD d t zs).2 := by
 unfold appD
 split
 · exact Same.refl _ _
 split
 · exact Same.refl _ _
 split
 · exact Same.refl _ _
 split
 · exact Same.refl _ _
 exact put_other h.sorted ht
theorem sync_other (h : Ok d) {t : ByteArray} (ht : t ≠ s) : Same s d (syncD d t).2 := by
 unfold syncD
 split
 · exact Same.refl _ _
 split
 · exact Same.refl _ _
 split
 · exact Same.refl _ _
 exact put_other h.sorted ht
theorem rem_other (h : Ok d) {t : ByteArray} (ht : t ≠ s) : Same s d (remD d t).2 := by
 unfold remD
 split
 · exact Same.refl _ _
 split
 · exact Same.refl _ _
 rename_i k
 split
 · exact Same.refl _ _
 exact del_other h.sorted (by simpa using k) ht
theorem ren_other (h : Ok d) {t u : ByteArray} (ht : t ≠ s) (hu : u ≠ s) : Same s d (renD d t u).2 := by
 unfold renD
 split
 · exact Same.refl _ _
 split
 · exact Same.refl _ _
 split
 · exact Same.refl _ _
 rename_i k
 split
 · exact Same.refl _ _
 have h1 := del_other h.sorted (by simpa using k) ht
 have h2 := put_other (s := s) (f := ⟨u,(own t d.fs).bs,(own t d.fs).kept⟩) (del_sorted (s := t) h.sorted) hu
 exact ⟨h2.1.trans h1.1,h2.2.trans h1.2⟩
end
end Go.Proofs.Ytegniklofhopeaa.Dk
