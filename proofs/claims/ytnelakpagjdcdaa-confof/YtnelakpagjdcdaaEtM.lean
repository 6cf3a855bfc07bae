/- api.Entry: make, copy, store: A WHOLE BLOCK OF ROWS THAT MAY BE WRITTEN. (By genrows.py.) -/
import Derived.Test.YtnelakpagjdcdaaEtA
import Derived.Laws.CopyOwn
import Derived.Laws.MakeOwn
namespace Go.Proofs.Ytnelakpagjdcdaa.Et
open Go.RowKit
open Mem

/-- a whole block of rows, none of it frozen -/
def Block (w : World) (g : Nat) (ts : List T) : Prop := w.heap[g]? = some (.cells (ts.flatMap rv).toArray 35 (0, 0))
theorem Block.lt {w : World} {g : Nat} {ts : List T} (h : Block w g ts) : g < w.heap.size := by
  obtain ⟨hg, _⟩ := Array.getElem?_eq_some_iff.1 h
  exact hg
theorem Block.below {w u : World} {g : Nat} {ts : List T} (h : Block w g ts) (k : Below w.heap.size w u) : Block u g ts := (k.block g h.lt).trans h
theorem Block.row {w : World} {g : Nat} {ts : List T} (h : Block w g ts) (k : Nat) (hk : k < ts.length) : At w g (k * 3) ts[k] := by
  have hcell : ∀ p, p < 3 → w.cell? ⟨g, k * 3 + p, none⟩ = (rv ts[k])[p]? := by
    intro p hp
    rw [cell_of_row w g _ _ _ _ h, ← flat_at ts k p hk hp]
    simp
  exact ⟨hcell 0 (by omega), hcell 1 (by omega), hcell 2 (by omega)⟩
theorem Block.frozen {w : World} {g : Nat} {ts : List T} (h : Block w g ts) (k : Nat) : w.frozen? ⟨g, k, none⟩ = false := frozen_of_row w g k _ _ h
theorem Block.ls {w : World} {g : Nat} {ts zs : List T} (h : Block w g (ts ++ zs)) (n cap : Nat) (hn : n = ts.length) (hc : n ≤ cap) (hm : cap ≤ 9223372036854775807) (hs : ∀ r ∈ ts, Short r) : Ls w (some ⟨g, 0, none⟩) n cap ts := by
  refine ⟨hn, hc, hm, (fun k => by cases k), .inr ⟨g, 0, rfl, fun k hk => ?_⟩, hs⟩
  have hr := h.row k (by rw [List.length_append]; omega)
  rw [List.getElem_append_left hk] at hr
  rw [Nat.zero_add]
  exact hr
def zeros (n : Nat) : Array Value := ((List.replicate n zero).flatMap rv).toArray
theorem sizeZ : (Try.prog.info? 35).map (·.size) = some 3 := by kernel_rfl
theorem made (n : Nat) : madeCells zeroV.cells (n * 3) = zeros n := by
  apply Array.ext_getElem?
  intro j
  by_cases hj : j < n * 3
  · obtain ⟨k, p, rfl, hp⟩ : ∃ k p, j = k * 3 + p ∧ p < 3 := ⟨j / 3, j % 3, by omega, by omega⟩
    have hk : k < n := by omega
    have hz : (zeros n)[k * 3 + p]? = (rv zero)[p]? := by
      unfold zeros
      rw [List.getElem?_toArray, flat_at (List.replicate n zero) k p (by simpa using hk) hp, List.getElem_replicate]
    rw [hz]
    have e : (k * 3 + p) % 3 = p := by omega
    have hp' : p = 0 ∨ p = 1 ∨ p = 2 := by omega
    unfold madeCells
    rw [Array.getElem?_map, Array.getElem?_range, if_pos hj]
    simp only [Option.map_some]
    rw [show zeroV.cells.size = 3 from rfl, e]
    rcases hp' with rfl | rfl | rfl <;> rfl
  · rw [Array.getElem?_eq_none (by rw [size_madeCells]; omega), Array.getElem?_eq_none]
    unfold zeros
    rw [List.size_toArray, flat_len, List.length_replicate]
    omega
/-- make([]api.Entry, n) -/
theorem make (n : Nat) (hn : n ≤ 100000) (u : World) : (Instr.makeSlice 30 (.int .i64 (n : Int)) (.int .i64 (n : Int))).run Try.prog u =
    .ok (.slice (some ⟨u.heap.size, 0, none⟩) n n) (u.alloc (.cells (zeros n) 35)) := by
  obtain ⟨i0, hi, hz0, hz1, hz2⟩ := info_parts info
  have h := run_make (P := Try.prog) u 30 35 i0 zeroV Try.underlying30 hi hz0 .i64 .i64 (n : Int) (n : Int) (by omega) (Int.le_refl _) (by rw [hz2]; omega) (by omega)
  rw [hz1, Int.toNat_natCast, made] at h
  exact h
theorem block_made (u : World) (n : Nat) : Block (u.alloc (.cells (zeros n) 35)) u.heap.size (List.replicate n zero) := heap_alloc_new u _
/-- copy(dst, src), dst a block of the call's own from its head on, no shorter than src -/
theorem copy (u : World) (g : Nat) (ts : List T) (dCap : Nat) (ao : Option Addr) (n cap : Nat) (rs : List T) (hb : Block u g (List.replicate n zero ++ ts)) (hn : n = rs.length) (hs : Seg u ao rs) :
    ∃ u', (Builtin.copy_ #[30, 30] 3 #[.slice (some ⟨g, 0, none⟩) (n + ts.length) dCap, .slice ao n cap]).run Try.prog u = .ok (goInt n) u' ∧ Block u' g (rs ++ ts) ∧ (∀ B w0, Below B w0 u → B ≤ g → Below B w0 u') ∧ u'.heap.size = u.heap.size := by
  obtain ⟨i0, hi, hiK⟩ := Option.map_eq_some_iff.1 sizeZ
  have hmin : Nat.min n (n + ts.length) = n := Nat.min_eq_left (by omega)
  rcases hs with e | ⟨b, off, rfl, hc⟩
  · subst e
    obtain rfl : n = 0 := hn
    refine ⟨u, ?_, by simpa using hb, fun _ _ h _ => h, rfl⟩
    have hl : ∀ (x : Addr), (loadCells x 0).run Try.prog u = .ok #[] u := fun x => by simpa using run_loadCells_list (P := Try.prog) u x [] (by simp)
    cases ao <;> simp [Builtin.copy_, run_underlying Try.underlying30, Builtin.lenOf, Builtin.firstCells, sizeOf, typeInfo, hi, storeCells, hl]
  · have hl := run_loadCells_list (P := Try.prog) u ⟨b, off, none⟩ (rs.flatMap rv) (fun j v hv => news_of hc j v hv)
    have hst := run_storeCells_at Try.prog g 0 35 (rs.flatMap rv) 0 _ u hb (by rw [List.size_toArray, flat_len, flat_len, List.length_append, List.length_replicate]; omega) (one_cell rs)
    have hlen : (rs.flatMap rv).length = n * 3 := by rw [flat_len, hn]
    have e : (((List.replicate n zero ++ ts).flatMap rv).toArray.toList.take (0 + 0) ++ rs.flatMap rv ++ ((List.replicate n zero ++ ts).flatMap rv).toArray.toList.drop (0 + 0 + (rs.flatMap rv).length)) = (rs ++ ts).flatMap rv := by
      rw [List.toList_toArray, List.take_zero, List.nil_append, Nat.zero_add, hlen, List.flatMap_append, List.flatMap_append, List.drop_left' (by rw [flat_len, List.length_replicate])]
    rw [e] at hst
    refine ⟨u.setRow g ((rs ++ ts).flatMap rv).toArray, ?_, setRow_heap u g _ _ 35 _ hb, fun B w0 h hB => below_setRow h hB _, by simp [World.setRow]⟩
    rw [hlen] at hl
    simp [Builtin.copy_, run_underlying Try.underlying30, Builtin.lenOf, Builtin.firstCells, sizeOf, typeInfo, hi, hiK, hmin, hl, hst]
theorem set_right {a : T} (X : List Value) (k p : Nat) (v : Value) : (rv a ++ X).set ((k + 1) * 3 + p) v = rv a ++ X.set (k * 3 + p) v := by
  rw [List.set_append_right _ _ (by rw [rv_len]; omega), rv_len, show (k + 1) * 3 + p - 3 = k * 3 + p by omega]
theorem flat_set : ∀ (ts : List T) (k : Nat) (r : T), k < ts.length → (ts.set k r).flatMap rv = ((((ts.flatMap rv).set (k * 3) (.int .i64 r.term)).set (k * 3 + 1) (.int .i64 r.mem)).set (k * 3 + 2) (.string r.data)) := by
  intro ts
  induction ts with
  | nil =>
    intro k r h
    simp at h
  | cons a l ih =>
  intro k r h
  cases k with
  | zero =>
    rw [List.set_cons_zero, List.flatMap_cons, List.flatMap_cons]
    simp only [rv, Nat.zero_mul, Nat.zero_add, List.cons_append, List.nil_append, List.set_cons_zero, List.set_cons_succ]
  | succ k =>
    have ih := ih k r (by simpa using h)
    have e0 := fun (X : List Value) (v : Value) => set_right (a := a) X k 0 v
    simp only [Nat.add_zero] at e0
    rw [List.set_cons_succ, List.flatMap_cons, ih, List.flatMap_cons, e0, set_right, set_right]
/-- a row stored -/
theorem Block.store {w : World} {g : Nat} {ts : List T} (h : Block w g ts) (k : Nat) (hk : k < ts.length) (r : T) :
    Block (((w.setCell ⟨g, k * 3, none⟩ (.int .i64 r.term)).setCell ⟨g, k * 3 + 1, none⟩ (.int .i64 r.mem)).setCell ⟨g, k * 3 + 2, none⟩ (.string r.data)) g (ts.set k r) := by
  have h1 := heap_setCell_same _ g (k * 3) _ _ (.int .i64 r.term) h
  have h2 := heap_setCell_same _ g (k * 3 + 1) _ _ (.int .i64 r.mem) h1
  have h3 := heap_setCell_same _ g (k * 3 + 2) _ _ (.string r.data) h2
  unfold Block
  rw [h3, flat_set ts k r hk]
  simp only [List.setIfInBounds_toArray]
theorem below_store {B g : Nat} {w0 w : World} (h : Below B w0 w) (hg : B ≤ g) (k : Nat) (x0 x1 x2 : Value) :
    Below B w0 (((w.setCell ⟨g, k * 3, none⟩ x0).setCell ⟨g, k * 3 + 1, none⟩ x1).setCell ⟨g, k * 3 + 2, none⟩ x2) :=
  (((h.setCell hg x0).setCell hg x1).setCell hg x2)
theorem own_store {w : World} {B g n cap : Nat} {M : List T} (h : Own w B (.slice (some ⟨g, 0, none⟩) n cap) M) (k : Nat) (hk : k < M.length) (r : T) :
    Own (((w.setCell ⟨g, k * 3, none⟩ (.int .i64 r.term)).setCell ⟨g, k * 3 + 1, none⟩ (.int .i64 r.mem)).setCell ⟨g, k * 3 + 2, none⟩ (.string r.data)) B (.slice (some ⟨g, 0, none⟩) n cap) (M.set k r) := by
  rcases h.2 with ⟨h', _⟩ | ⟨g', cap', cur, h', hb, hg, hnc, hcm, hcs, htake⟩
  · cases h'
  · simp only [Value.slice.injEq, Option.some.injEq, Addr.mk.injEq, and_true] at h'
    obtain ⟨e1, e2, e3⟩ := h'
    subst e1 e3
    have h1 := heap_setCell_same _ g (k * 3) _ _ (.int .i64 r.term) hg
    have h2 := heap_setCell_same _ g (k * 3 + 1) _ _ (.int .i64 r.mem) h1
    have h3 := heap_setCell_same _ g (k * 3 + 2) _ _ (.string r.data) h2
    refine ⟨by rw [flat_len], .inr ⟨g, cap, _, by rw [List.length_set, e2], hb, h3, by rw [List.length_set]; exact hnc, hcm, by simpa using hcs, ?_⟩⟩
    rw [List.length_set, flat_set M k r hk]
    simp only [Array.toList_setIfInBounds]
    rw [← htake]
    simp only [List.take_set]
theorem own_at {w : World} {B g n cap : Nat} {M : List T} (h : Own w B (.slice (some ⟨g, 0, none⟩) n cap) M) (k : Nat) (hk : k < M.length) : At w g (k * 3) M[k] ∧ (∀ o, w.frozen? ⟨g, o, none⟩ = false) ∧ B ≤ g := by
  rcases h.2 with ⟨h', _⟩ | ⟨g', cap', cur, h', hb, hg, hnc, hcm, hcs, htake⟩
  · cases h'
  · simp only [Value.slice.injEq, Option.some.injEq, Addr.mk.injEq, and_true] at h'
    obtain ⟨e1, e2, e3⟩ := h'
    subst e1 e3
    have hcell : ∀ p, p < 3 → w.cell? ⟨g, k * 3 + p, none⟩ = (rv M[k])[p]? := by
      intro p hp
      rw [cell_of_row w g _ _ _ _ hg, ← flat_at M k p hk hp, ← htake, List.getElem?_take_of_lt (by omega)]
      simp
    exact ⟨⟨hcell 0 (by omega), hcell 1 (by omega), hcell 2 (by omega)⟩, fun o => frozen_of_row w g o _ _ hg, hb⟩
theorem flat_put (r : T) (p : Nat) (x : Value) (hp : p < 3) : ∀ (M : List T) (k : Nat) (hk : k < M.length), rv r = (rv M[k]).set p x → (M.set k r).flatMap rv = (M.flatMap rv).set (k * 3 + p) x
  | a :: l, 0, _, h => by
    have h' : rv r = (rv a).set p x := h
    rw [List.set_cons_zero, List.flatMap_cons, List.flatMap_cons, Nat.zero_mul, Nat.zero_add, List.set_append_left _ _ (by rw [rv_len]; exact hp), h']
  | a :: l, k + 1, hk, h => by
    have ih := flat_put r p x hp l k (by simpa using hk) (by simpa using h)
    rw [List.set_cons_succ, List.flatMap_cons, List.flatMap_cons, List.set_append_right _ _ (by rw [rv_len]; omega), rv_len, show (k + 1) * 3 + p - 3 = k * 3 + p by omega, ih]
/-- one field of one row written -/
theorem own_put {w : World} {B g n cap : Nat} {M : List T} (h : Own w B (.slice (some ⟨g, 0, none⟩) n cap) M) (k p : Nat) (hk : k < M.length) (hp : p < 3) (x : Value) (r : T) (hr : rv r = (rv M[k]).set p x) :
    Own (w.setCell ⟨g, k * 3 + p, none⟩ x) B (.slice (some ⟨g, 0, none⟩) n cap) (M.set k r) := by
  rcases h.2 with ⟨h', _⟩ | ⟨g', cap', cur, h', hb, hg, hnc, hcm, hcs, htake⟩
  · cases h'
  · simp only [Value.slice.injEq, Option.some.injEq, Addr.mk.injEq, and_true] at h'
    obtain ⟨e1, e2, e3⟩ := h'
    subst e1 e3
    have h1 := heap_setCell_same _ g (k * 3 + p) _ _ x hg
    refine ⟨by rw [flat_len], .inr ⟨g, cap, _, by rw [List.length_set, e2], hb, h1, by rw [List.length_set]; exact hnc, hcm, by simpa using hcs, ?_⟩⟩
    rw [List.length_set, flat_put r p x hp M k hk hr]
    simp only [Array.toList_setIfInBounds]
    rw [← htake]
    simp only [List.take_set]
/-- a whole block is rows of the call's own -/
theorem own_of_block {w : World} {B g n : Nat} {M : List T} (h : Block w g M) (hB : B ≤ g) (hn : n = M.length) (hm : n ≤ 100000) : Own w B (.slice (some ⟨g, 0, none⟩) n n) M := by
  subst hn
  exact ⟨by rw [flat_len], .inr ⟨g, M.length, _, rfl, hB, h, Nat.le_refl _, by have : maxLen = 9223372036854775807 := rfl; omega, by rw [List.size_toArray, flat_len], List.take_of_length_le (by show (M.flatMap rv).length ≤ _; rw [flat_len]; exact Nat.le_refl _)⟩⟩
/-- a write into a block that it does not lie in -/
theorem own_far {w : World} {B : Nat} {v : Value} {M : List T} (h : Own w B v M) {b : Nat} (hne : b < B) (o : Nat) (x : Value) : Own (w.setCell ⟨b, o, none⟩ x) B v M := by
  obtain ⟨h1, h2⟩ := h
  refine ⟨h1, ?_⟩
  rcases h2 with h2 | ⟨g, cap, cur, h', hb, hg, h3⟩
  · exact .inl h2
  · exact .inr ⟨g, cap, cur, h', hb, by rw [heap_setCell_other w ⟨b, o, none⟩ g x (by show g ≠ b; omega)]; exact hg, h3⟩
/-- make([]api.Entry, 0, n + 1) -/
theorem make_cap (n : Nat) (hn : n ≤ 1000) (u : World) : (Instr.makeSlice 30 (.int .i64 0) (.int .i64 ((n : Int) + 1))).run Try.prog u =
    .ok (.slice (some ⟨u.heap.size, 0, none⟩) 0 (n + 1)) (u.alloc (.cells (zeros (n + 1)) 35)) := by
  obtain ⟨i0, hi, hz0, hz1, hz2⟩ := info_parts info
  have h := run_make (P := Try.prog) u 30 35 i0 zeroV Try.underlying30 hi hz0 .i64 .i64 0 ((n : Int) + 1) (by omega) (by omega) (by rw [hz2]; omega) (by omega)
  rw [hz1, show ((n : Int) + 1).toNat = n + 1 from by omega, made] at h
  exact h
theorem own_cap (u : World) (B c : Nat) (hB : B ≤ u.heap.size) (hc : c ≤ 1000) : Own (u.alloc (.cells (zeros c) 35)) B (.slice (some ⟨u.heap.size, 0, none⟩) 0 c) [] :=
  ⟨rfl, .inr ⟨u.heap.size, c, zeros c, rfl, hB, heap_alloc_new u _, Nat.zero_le _, by have : maxLen = 9223372036854775807 := rfl; omega, by unfold zeros; rw [List.size_toArray, flat_len, List.length_replicate], rfl⟩⟩
end Go.Proofs.Ytnelakpagjdcdaa.Et
