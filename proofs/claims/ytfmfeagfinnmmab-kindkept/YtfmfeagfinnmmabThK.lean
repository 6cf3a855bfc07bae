/- THINGS IN MEMORY: a thing as it is handed over, things one behind the other; append, make, copy, store of them. -/
import Derived.Test.YtfmfeagfinnmmabKt
import Derived.Test.YtfmfeagfinnmmabVlA
import Derived.Laws.CopyOwn
import Derived.Laws.MakeOwn
namespace Go.Proofs.Ytfmfeagfinnmmab.Tg
open Go.RowKit
open Mem

/-- values lie one behind the other, in a block that is allowed -/
def SegV (A : Nat → Prop) (w : World) (ao : Option Addr) (vs : List Value) : Prop := vs = [] ∨ ∃ b off, ao = some ⟨b, off, none⟩ ∧ A b ∧ ∀ (k : Nat) (hk : k < vs.length), w.cell? ⟨b, off + k, none⟩ = some vs[k]
/-- v is what a Thing's one field holds for t, in memory that is allowed -/
inductive Is (A : Nat → Prop) (w : World) : Th → Value → Prop
  | nothing : Is A w .none .nilIface
  | num {n : Int} : Fit n → Is A w (.num n) (.iface 64 (.int .i64 n))
  | text {s : ByteArray} : s.size ≤ 140737488355328 → Is A w (.text s) (.iface 60 (.string s))
  | flag {b : Bool} : Is A w (.flag b) (.iface 67 (.bool b))
  | day {y m d : Int} : Fit y → Fit m → Fit d → Is A w (.day y m d) (.iface 68 (.agg #[.int .i64 y, .int .i64 m, .int .i64 d]))
  | list {ts : List Th} {vs : List Value} {ao : Option Addr} {n cap : Nat} : n = ts.length → n = vs.length → n ≤ cap → cap ≤ 9223372036854775807 → n ≤ 100000 → (ao = none → cap = 0) → SegV A w ao vs →
      (∀ (i : Nat) (h : i < ts.length) (h' : i < vs.length), Is A w ts[i] vs[i]) → Is A w (.list ts) (.iface 57 (.slice ao n cap))
theorem SegV.frame {A A' : Nat → Prop} {w w' : World} {ao : Option Addr} {vs : List Value} (h : SegV A w ao vs) (hc : ∀ b, A b → ∀ o x, w.cell? ⟨b, o, none⟩ = some x → w'.cell? ⟨b, o, none⟩ = some x) (hA : ∀ b o x, w.cell? ⟨b, o, none⟩ = some x → A b → A' b) : SegV A' w' ao vs := by
  rcases h with h | ⟨b, off, e, ha, h⟩
  · exact .inl h
  · by_cases h0 : 0 < vs.length
    · exact .inr ⟨b, off, e, hA b _ _ (h 0 h0) ha, fun k hk => hc b ha _ _ (h k hk)⟩
    · exact .inl (List.length_eq_zero_iff.1 (by omega))
theorem Is.frame {A A' : Nat → Prop} {w w' : World} {t : Th} {v : Value} (h : Is A w t v) (hc : ∀ b, A b → ∀ o x, w.cell? ⟨b, o, none⟩ = some x → w'.cell? ⟨b, o, none⟩ = some x) (hA : ∀ b o x, w.cell? ⟨b, o, none⟩ = some x → A b → A' b) : Is A' w' t v := by
  induction h with
  | nothing => exact .nothing
  | num h => exact .num h
  | text h => exact .text h
  | flag => exact .flag
  | day a b c => exact .day a b c
  | list h1 h2 h3 h4 h5 h6 h7 _ ih => exact .list h1 h2 h3 h4 h5 h6 (h7.frame hc hA) ih
/-- old memory stays -/
theorem Is.stays {A : Nat → Prop} {w w' : World} {t : Th} {v : Value} (h : Is A w t v) (k : Below w.heap.size w w') : Is A w' t v :=
  h.frame (fun _ _ _ _ e => by rw [(bcell k).1 _ _ (cell_lt e)]; exact e) (fun _ _ _ _ a => a)
/-- it lies in what is there -/
theorem Is.lt {A : Nat → Prop} {w : World} {t : Th} {v : Value} (h : Is A w t v) : Is (fun b => b < w.heap.size) w t v :=
  h.frame (fun _ _ _ _ e => e) (fun _ _ _ e _ => cell_lt e)
theorem Is.mono {A A' : Nat → Prop} {w : World} {t : Th} {v : Value} (h : Is A w t v) (k : ∀ b, A b → A' b) : Is A' w t v :=
  h.frame (fun _ _ _ _ e => e) (fun _ _ _ _ a => k _ a)
theorem Is.any {A : Nat → Prop} {w : World} {t : Th} {v : Value} (h : Is A w t v) : Is (fun _ => True) w t v := h.mono fun _ _ => trivial
/-- it lies below a mark, and what lies below the mark stays -/
theorem Is.old {B : Nat} {w w' : World} {t : Th} {v : Value} (h : Is (fun b => b < B) w t v) (k : ∀ b o, b < B → w'.cell? ⟨b, o, none⟩ = w.cell? ⟨b, o, none⟩) : Is (fun b => b < B) w' t v :=
  h.frame (fun b a o x e => by rw [k b o a]; exact e) (fun _ _ _ _ a => a)
theorem Is.oneCell {A : Nat → Prop} {w : World} {t : Th} {v : Value} (h : Is A w t v) : v.oneCell' = true := by
  cases h <;> rfl
theorem Is.short {A : Nat → Prop} {w : World} {t : Th} {v : Value} (h : Is A w t v) : ∀ r ∈ t.flat, Vl.Short r := by
  have f0 : Fit 0 := ⟨by omega, by omega⟩
  have e0 : ByteArray.empty.size ≤ 140737488355328 := by decide
  induction h with
  | nothing =>
    intro r hr
    simp [Th.flat] at hr
    subst hr
    exact ⟨f0, f0, e0, f0, f0, f0⟩
  | num h =>
    intro r hr
    simp [Th.flat] at hr
    subst hr
    exact ⟨⟨by dsimp only; omega, by dsimp only; omega⟩, h, e0, f0, f0, f0⟩
  | text h =>
    intro r hr
    simp [Th.flat] at hr
    subst hr
    exact ⟨⟨by dsimp only; omega, by dsimp only; omega⟩, f0, h, f0, f0, f0⟩
  | @flag b =>
    intro r hr
    simp [Th.flat] at hr
    subst hr
    refine ⟨⟨by dsimp only; omega, by dsimp only; omega⟩, ?_, e0, f0, f0, f0⟩
    cases b
    · exact f0
    · exact ⟨by simp, by simp⟩
  | day a b c =>
    intro r hr
    simp [Th.flat] at hr
    subst hr
    exact ⟨⟨by dsimp only; omega, by dsimp only; omega⟩, f0, e0, a, b, c⟩
  | list h1 h2 h3 h4 h5 h6 h7 _ ih =>
    intro r hr
    rw [Th.flat] at hr
    rcases List.mem_cons.1 hr with rfl | hr
    · exact ⟨⟨by dsimp only; omega, by dsimp only; omega⟩, ⟨by dsimp only; omega, by dsimp only; omega⟩, e0, f0, f0, f0⟩
    · obtain ⟨t, ht, hr⟩ := Th.mem_flats.1 hr
      obtain ⟨i, hi, rfl⟩ := List.getElem_of_mem ht
      exact ih i hi (by omega) r hr
/-- things, one by one -/
def Each (A : Nat → Prop) (w : World) (ts : List Th) (vs : List Value) : Prop := ts.length = vs.length ∧ ∀ (i : Nat) (h : i < ts.length) (h' : i < vs.length), Is A w ts[i] vs[i]
theorem Each.nil {A : Nat → Prop} {w : World} : Each A w [] [] := ⟨rfl, fun i h => by simp at h⟩
theorem Each.frame {A A' : Nat → Prop} {w w' : World} {ts : List Th} {vs : List Value} (h : Each A w ts vs) (hc : ∀ b, A b → ∀ o x, w.cell? ⟨b, o, none⟩ = some x → w'.cell? ⟨b, o, none⟩ = some x) (hA : ∀ b o x, w.cell? ⟨b, o, none⟩ = some x → A b → A' b) : Each A' w' ts vs :=
  ⟨h.1, fun i a b => (h.2 i a b).frame hc hA⟩
theorem Each.below {A : Nat → Prop} {w w' : World} {ts : List Th} {vs : List Value} (h : Each A w ts vs) (k : Below w.heap.size w w') : Each A w' ts vs := ⟨h.1, fun i a b => (h.2 i a b).stays k⟩
theorem Each.mono {A A' : Nat → Prop} {w : World} {ts : List Th} {vs : List Value} (h : Each A w ts vs) (k : ∀ b, A b → A' b) : Each A' w ts vs := ⟨h.1, fun i a b => (h.2 i a b).mono k⟩
theorem Each.app {A : Nat → Prop} {w : World} {ts : List Th} {vs : List Value} (h : Each A w ts vs) {t : Th} {v : Value} (k : Is A w t v) : Each A w (ts ++ [t]) (vs ++ [v]) := by
  refine ⟨by rw [List.length_append, List.length_append, h.1]; rfl, fun i a b => ?_⟩
  by_cases hi : i < ts.length
  · rw [List.getElem_append_left hi, List.getElem_append_left (by rw [← h.1]; exact hi)]
    exact h.2 i hi _
  · have hl : i = ts.length := by
      rw [List.length_append] at a
      simp at a
      omega
    subst hl
    rw [List.getElem_append_right (Nat.le_refl _), List.getElem_append_right (by rw [h.1]; exact Nat.le_refl _)]
    simp only [Nat.sub_self, h.1, List.getElem_cons_zero]
    exact k
theorem Each.oneCell {A : Nat → Prop} {w : World} {ts : List Th} {vs : List Value} (h : Each A w ts vs) : ∀ v ∈ vs, v.oneCell' = true := by
  intro v hv
  obtain ⟨i, hi, rfl⟩ := List.getElem_of_mem hv
  exact (h.2 i (by rw [h.1]; exact hi) hi).oneCell
/-- values of the call's own -/
def Own (w : World) (B : Nat) (v : Value) (vs : List Value) : Prop := w.ownsRow B 26 1 v vs.length vs
theorem own_nil (w : World) (B : Nat) : Own w B (.slice none 0 0) [] := ⟨rfl, .inl ⟨rfl, rfl⟩⟩
theorem own_seg {w : World} {B : Nat} {v : Value} {vs : List Value} (h : Own w B v vs) : ∃ ao cap, v = .slice ao vs.length cap ∧ vs.length ≤ cap ∧ cap ≤ 9223372036854775807 ∧ (ao = none → cap = 0) ∧ SegV (fun b => v.ownBlock = some b ∧ B ≤ b) w ao vs := by
  rcases h.2 with ⟨h', h2⟩ | ⟨g, cap, cur, h', hb, hg, hnc, hcm, hcs, htake⟩
  · have e : vs = [] := List.length_eq_zero_iff.1 h2
    subst e
    exact ⟨none, 0, h', Nat.le_refl _, by omega, fun _ => rfl, .inl rfl⟩
  · refine ⟨some ⟨g, 0, none⟩, cap, h', hnc, hcm, fun k => (by cases k), .inr ⟨g, 0, rfl, ⟨by rw [h']; rfl, hb⟩, fun k hk => ?_⟩⟩
    rw [Nat.zero_add, cell_of_row w g _ _ _ _ hg]
    rw [Nat.mul_one] at htake
    have e : (cur.toList.take vs.length)[k]? = vs[k]? := by rw [htake]
    rw [List.getElem?_take_of_lt hk, List.getElem?_eq_getElem hk] at e
    simpa using e
theorem own_ge {w : World} {B : Nat} {v : Value} {xs : List Value} (h : Own w B v xs) : ∀ k, v.ownBlock = some k → B ≤ k := by
  intro k hk
  rcases h.2 with ⟨h', _⟩ | ⟨g, cap, cur, h', hb, _⟩
  · rw [h'] at hk
    cases hk
  · rw [h'] at hk
    simp only [Value.ownBlock, Option.some.injEq] at hk
    omega
theorem own_lt {w : World} {B : Nat} {v : Value} {xs : List Value} (h : Own w B v xs) : ∀ k, v.ownBlock = some k → k < w.heap.size := by
  intro k hk
  rcases h.2 with ⟨h', _⟩ | ⟨g, cap, cur, h', hb, hg, _⟩
  · rw [h'] at hk
    cases hk
  · rw [h'] at hk
    simp only [Value.ownBlock, Option.some.injEq] at hk
    obtain ⟨hl, _⟩ := Array.getElem?_eq_some_iff.1 hg
    omega
theorem own_mono {w : World} {B C : Nat} {v : Value} {xs : List Value} (h : Own w B v xs) (hc : C ≤ B) : Own w C v xs := by
  obtain ⟨h1, h2⟩ := h
  refine ⟨h1, ?_⟩
  rcases h2 with h2 | ⟨g, cap, cur, h', hb, h3⟩
  · exact .inl h2
  · exact .inr ⟨g, cap, cur, h', by omega, h3⟩
theorem own_alloc {w : World} {B : Nat} {v : Value} {xs : List Value} (h : Own w B v xs) (o : Obj) : Own (w.alloc o) B v xs := World.ownsRow.alloc h o
theorem own_below {w u : World} {B : Nat} {v : Value} {xs : List Value} (h : Own w B v xs) (k : Below w.heap.size w u) : Own u B v xs := by
  obtain ⟨h1, h2⟩ := h
  refine ⟨h1, ?_⟩
  rcases h2 with h2 | ⟨g, cap, cur, h', hb, hg, h3⟩
  · exact .inl h2
  · refine .inr ⟨g, cap, cur, h', hb, ?_, h3⟩
    have hl : g < w.heap.size := by
      obtain ⟨hl, _⟩ := Array.getElem?_eq_some_iff.1 hg
      exact hl
    rw [k.block g hl]
    exact hg
def zeroV : Value := .agg #[.nilIface]
theorem info : (Try.prog.info? 26).map (fun i => (i.zero, i.size, i.bytes)) = some (some zeroV, 1, 16) := by kernel_rfl
/-- append(own, one thing) -/
theorem wpList_append {ops : Array Oper} {rest : List Oper} {o : Oper} {a : Act} {Q : Exit → Act → World → Prop} (w : World) (hgd : o.guard = none) (s x : Operand) (sl : TypeId) (hu : Try.prog.underlying sl = some (.slice 26))
    (ho : o.op = .call { callee := .builtin .append, args := #[s, x], argTypes := #[sl, sl] })
    (B : Nat) (v : Value) (xs : List Value) (hs : a.eval s = v) (hown : Own w B v xs)
    (g cap : Nat) (z : Value) (hx : a.eval x = .slice (some ⟨g, 0, none⟩) 1 cap) (hsrc : w.cell? ⟨g, 0, none⟩ = some z) (hz : z.oneCell' = true) (hl : xs.length ≤ 100000) (hb : B ≤ w.heap.size)
    (h : ∀ v' w1, Own w1 B v' (xs ++ [z]) → w.grownBy w1 v.ownBlock → (v'.ownBlock = v.ownBlock ∨ v'.ownBlock = some w.heap.size) → wpList Try.prog ops Q rest (a.put o.dst v') w1) : wpList Try.prog ops Q (o :: rest) a w := by
  refine wpList_plain hgd fun K hK => ?_
  obtain ⟨i0, hi, hz0, hz1, hz2⟩ := info_parts info
  have hmx : maxLen = 9223372036854775807 := rfl
  obtain ⟨v', w', hr, h2, h3, _, h5⟩ := run_append_own_at (P := Try.prog) w B sl o.type 26 i0 zeroV 1 16 hu hi hz0 hz1 hz2 rfl (by omega) v xs.length xs hown ⟨g, 0, none⟩ 1 cap [z] rfl (by
    intro j u hj
    cases j with
    | zero =>
      simp at hj
      subst hj
      exact hsrc
    | succ j => simp at hj) (by simpa using hz) (by omega) (by omega) hb
  unfold Oper.wp execOp
  simp only [ho, resolve, invoke, builtin, Sem.run_bind, Sem.run_pure, Result.andThen_ok, List.map_toArray, List.map_cons, List.map_nil, hs, hx, hr]
  refine hK _ _ (h v' w' ?_ h3 h5)
  unfold Own
  rw [List.length_append]
  exact h2
/-- a whole block of values, none of it frozen -/
def Block (w : World) (g : Nat) (vs : List Value) : Prop := w.heap[g]? = some (.cells vs.toArray 26 (0, 0))
theorem Block.lt {w : World} {g : Nat} {vs : List Value} (h : Block w g vs) : g < w.heap.size := by
  obtain ⟨hg, _⟩ := Array.getElem?_eq_some_iff.1 h
  exact hg
theorem Block.below {w u : World} {g : Nat} {vs : List Value} (h : Block w g vs) (k : Below w.heap.size w u) : Block u g vs := (k.block g h.lt).trans h
theorem Block.row {w : World} {g : Nat} {vs : List Value} (h : Block w g vs) (k : Nat) (hk : k < vs.length) : w.cell? ⟨g, k, none⟩ = some vs[k] := by
  rw [cell_of_row w g _ _ _ _ h]
  simp [hk]
theorem Block.frozen {w : World} {g : Nat} {vs : List Value} (h : Block w g vs) (k : Nat) : w.frozen? ⟨g, k, none⟩ = false := frozen_of_row w g k _ _ h
theorem Block.seg {A : Nat → Prop} {w : World} {g : Nat} {vs : List Value} (h : Block w g vs) (a : A g) : SegV A w (some ⟨g, 0, none⟩) vs :=
  .inr ⟨g, 0, rfl, a, fun k hk => by rw [Nat.zero_add]; exact h.row k hk⟩
theorem Block.store {w : World} {g : Nat} {vs : List Value} (h : Block w g vs) (k : Nat) (v : Value) : Block (w.setCell ⟨g, k, none⟩ v) g (vs.set k v) := by
  have h1 := heap_setCell_same _ g k _ _ v h
  unfold Block
  rw [h1]
  simp only [List.setIfInBounds_toArray]
def zeros (n : Nat) : Array Value := (List.replicate n .nilIface).toArray
theorem made (n : Nat) : madeCells zeroV.cells (n * 1) = zeros n := by
  apply Array.ext_getElem?
  intro j
  rw [Nat.mul_one]
  by_cases hj : j < n
  · unfold madeCells zeros
    rw [Array.getElem?_map, Array.getElem?_range, if_pos hj, List.getElem?_toArray, List.getElem?_replicate, if_pos hj]
    simp only [Option.map_some]
    rw [show zeroV.cells.size = 1 from rfl, Nat.mod_one]
    rfl
  · rw [Array.getElem?_eq_none (by rw [size_madeCells]; omega), Array.getElem?_eq_none]
    unfold zeros
    rw [List.size_toArray, List.length_replicate]
    omega
theorem make (n : Nat) (hn : n ≤ 100000) (u : World) : (Instr.makeSlice 31 (.int .i64 (n : Int)) (.int .i64 (n : Int))).run Try.prog u =
    .ok (.slice (some ⟨u.heap.size, 0, none⟩) n n) (u.alloc (.cells (zeros n) 26)) := by
  obtain ⟨i0, hi, hz0, hz1, hz2⟩ := info_parts info
  have h := run_make (P := Try.prog) u 31 26 i0 zeroV Try.underlying31 hi hz0 .i64 .i64 (n : Int) (n : Int) (by omega) (Int.le_refl _) (by rw [hz2]; omega) (by omega)
  rw [hz1, Int.toNat_natCast, made] at h
  exact h
theorem block_made (u : World) (n : Nat) : Block (u.alloc (.cells (zeros n) 26)) u.heap.size (List.replicate n .nilIface) := heap_alloc_new u _
theorem sizeZ : (Try.prog.info? 26).map (·.size) = some 1 := by kernel_rfl
/-- copy(dst, src), dst a block of the call's own, as long as src -/
theorem copy (u : World) (g : Nat) (ao : Option Addr) (n cap : Nat) (A : Nat → Prop) (vs : List Value) (hb : Block u g (List.replicate n .nilIface)) (hn : n = vs.length) (hs : SegV A u ao vs) (h1 : ∀ v ∈ vs, v.oneCell' = true) :
    ∃ u', (Builtin.copy_ #[31, 31] 3 #[.slice (some ⟨g, 0, none⟩) n n, .slice ao n cap]).run Try.prog u = .ok (goInt n) u' ∧ Block u' g vs ∧ (∀ B w0, Below B w0 u → B ≤ g → Below B w0 u') ∧ u'.heap.size = u.heap.size := by
  obtain ⟨i0, hi, hiK⟩ := Option.map_eq_some_iff.1 sizeZ
  rcases hs with e | ⟨b, off, rfl, _, hc⟩
  · subst e
    obtain rfl : n = 0 := hn
    refine ⟨u, ?_, hb, fun _ _ h _ => h, rfl⟩
    have hl : ∀ (x : Addr), (loadCells x 0).run Try.prog u = .ok #[] u := fun x => by simpa using run_loadCells_list (P := Try.prog) u x [] (by simp)
    cases ao <;> simp [Builtin.copy_, run_underlying Try.underlying31, Builtin.lenOf, Builtin.firstCells, sizeOf, typeInfo, hi, storeCells, hl]
  · have hl := run_loadCells_list (P := Try.prog) u ⟨b, off, none⟩ vs (fun j v hv => by
      obtain ⟨hj, e⟩ := List.getElem?_eq_some_iff.1 hv
      have h := hc j hj
      rw [e] at h
      have ha : (⟨b, off, none⟩ : Addr).add j = ⟨b, off + j, none⟩ := Go.WideShapes.add_plain ..
      rw [ha]
      exact h)
    have hst := run_storeCells_at Try.prog g 0 26 vs 0 _ u hb (by rw [List.size_toArray, List.length_replicate]; omega) h1
    have e : ((List.replicate n Value.nilIface).toArray.toList.take (0 + 0) ++ vs ++ (List.replicate n Value.nilIface).toArray.toList.drop (0 + 0 + vs.length)) = vs := by
      rw [List.toList_toArray, List.take_zero, List.nil_append, Nat.zero_add, List.drop_eq_nil_of_le (by rw [List.length_replicate]; omega), List.append_nil]
    rw [e] at hst
    refine ⟨u.setRow g vs.toArray, ?_, setRow_heap u g _ _ 26 _ hb, fun B w0 h hB => below_setRow h hB _, by simp [World.setRow]⟩
    rw [← hn] at hl
    simp [Builtin.copy_, run_underlying Try.underlying31, Builtin.lenOf, Builtin.firstCells, sizeOf, typeInfo, hi, hiK, hl, hst]
end Go.Proofs.Ytfmfeagfinnmmab.Tg
