/- make([]api.Rate, n), copy(rows, rows): A WHOLE BLOCK OF ROWS THAT MAY BE WRITTEN. -/
import Derived.Test.YtgcjhlnolmjdeaaAppR
import Derived.Laws.CopyOwn
import Derived.Laws.MakeOwn
namespace Go.Proofs.Ytgcjhlnolmjdeaa
open Go.RowKit
open Vt (Rt)

/-- a whole block of rows, none of it frozen -/
def BlockR (w : World) (g : Nat) (ts : List Rt) : Prop := w.heap[g]? = some (.cells (ts.flatMap rv).toArray 25 (0, 0))
theorem BlockR.lt {w : World} {g : Nat} {ts : List Rt} (h : BlockR w g ts) : g < w.heap.size := by
  obtain ⟨hg, _⟩ := Array.getElem?_eq_some_iff.1 h
  exact hg
theorem BlockR.below {w u : World} {g : Nat} {ts : List Rt} (h : BlockR w g ts) (k : Below w.heap.size w u) : BlockR u g ts := (k.block g h.lt).trans h
theorem BlockR.row {w : World} {g : Nat} {ts : List Rt} (h : BlockR w g ts) (k : Nat) (hk : k < ts.length) : RowAt w g (k * 5) ts[k] := by
  have hc : ∀ p, p < 5 → w.cell? ⟨g, k * 5 + p, none⟩ = (rv ts[k])[p]? := by
    intro p hp
    rw [cell_of_row w g _ _ _ _ h, ← flat_at ts k p hk hp]
    simp
  exact ⟨hc 0 (by omega), hc 1 (by omega), hc 2 (by omega), hc 3 (by omega), hc 4 (by omega)⟩
theorem BlockR.frozen {w : World} {g : Nat} {ts : List Rt} (h : BlockR w g ts) (k : Nat) : w.frozen? ⟨g, k, none⟩ = false := frozen_of_row w g k _ _ h
theorem BlockR.rts {w : World} {g : Nat} {ts zs : List Rt} (h : BlockR w g (ts ++ zs)) (n cap : Nat) (hn : n = ts.length) (hc : n ≤ cap) (hm : cap ≤ 9223372036854775807) (hs : ∀ r ∈ ts, Short r) : Rts w (some ⟨g, 0, none⟩) n cap ts := by
  refine ⟨hn, hc, hm, (fun k => by cases k), .inr ⟨g, 0, rfl, fun k hk => ?_⟩, hs⟩
  have hr := h.row k (by rw [List.length_append]; omega)
  rw [List.getElem_append_left hk] at hr
  rw [Nat.zero_add]
  exact hr
def zeroR : Rt := ⟨.empty, 0, 0, 0, 0⟩
def zeroV : Value := .agg #[.string .empty, .int .i64 0, .int .i64 0, .int .i64 0, .int .i64 0]
def zerosR (n : Nat) : Array Value := ((List.replicate n zeroR).flatMap rv).toArray
theorem infoZ : (Try.prog.info? 25).map (fun i => (i.zero, i.size, i.bytes)) = some (some zeroV, 5, 48) := by kernel_rfl
theorem sizeZ : (Try.prog.info? 25).map (·.size) = some 5 := by kernel_rfl
theorem made_rows (n : Nat) : madeCells zeroV.cells (n * 5) = zerosR n := by
  apply Array.ext_getElem?
  intro j
  by_cases hj : j < n * 5
  · obtain ⟨k, p, rfl, hp⟩ : ∃ k p, j = k * 5 + p ∧ p < 5 := ⟨j / 5, j % 5, by omega, by omega⟩
    have hk : k < n := by omega
    have hz : (zerosR n)[k * 5 + p]? = (rv zeroR)[p]? := by
      unfold zerosR
      rw [List.getElem?_toArray, flat_at (List.replicate n zeroR) k p (by simpa using hk) hp, List.getElem_replicate]
    rw [hz]
    have e : (k * 5 + p) % 5 = p := by omega
    have hp' : p = 0 ∨ p = 1 ∨ p = 2 ∨ p = 3 ∨ p = 4 := by omega
    unfold madeCells
    rw [Array.getElem?_map, Array.getElem?_range, if_pos hj]
    simp only [Option.map_some]
    rw [show zeroV.cells.size = 5 from rfl, e]
    rcases hp' with rfl | rfl | rfl | rfl | rfl <;> rfl
  · rw [Array.getElem?_eq_none (by rw [size_madeCells]; omega), Array.getElem?_eq_none]
    unfold zerosR
    rw [List.size_toArray, flat_len, List.length_replicate]
    omega
/-- make([]api.Rate, n) -/
theorem make_rows (n : Nat) (hn : n ≤ 1000) (u : World) : (Instr.makeSlice 27 (.int .i64 (n : Int)) (.int .i64 (n : Int))).run Try.prog u =
    .ok (.slice (some ⟨u.heap.size, 0, none⟩) n n) (u.alloc (.cells (zerosR n) 25)) := by
  obtain ⟨i0, hi, hz0, hz1, hz2⟩ := info_parts infoZ
  have h := run_make (P := Try.prog) u 27 25 i0 zeroV Try.underlying27 hi hz0 .i64 .i64 (n : Int) (n : Int) (by omega) (Int.le_refl _) (by rw [hz2]; omega) (by omega)
  rw [hz1, Int.toNat_natCast, made_rows] at h
  exact h
theorem block_made (u : World) (n : Nat) : BlockR (u.alloc (.cells (zerosR n) 25)) u.heap.size (List.replicate n zeroR) := heap_alloc_new u _
/-- copy(dst, src), dst a block of the call's own from its head on, no shorter than src -/
theorem copy_rows (u : World) (g : Nat) (ts : List Rt) (dCap : Nat) (ao : Option Addr) (n cap : Nat) (rs : List Rt) (hb : BlockR u g (List.replicate n zeroR ++ ts)) (hn : n = rs.length) (hs : SegR u ao rs) :
    ∃ u', (Builtin.copy_ #[27, 27] 3 #[.slice (some ⟨g, 0, none⟩) (n + ts.length) dCap, .slice ao n cap]).run Try.prog u = .ok (goInt n) u' ∧ BlockR u' g (rs ++ ts) ∧ (∀ B w0, Below B w0 u → B ≤ g → Below B w0 u') ∧ u'.heap.size = u.heap.size := by
  obtain ⟨i0, hi, hi5⟩ := Option.map_eq_some_iff.1 sizeZ
  have hmin : Nat.min n (n + ts.length) = n := Nat.min_eq_left (by omega)
  rcases hs with e | ⟨b, off, rfl, hc⟩
  · subst e
    obtain rfl : n = 0 := hn
    refine ⟨u, ?_, by simpa using hb, fun _ _ h _ => h, rfl⟩
    have hl : ∀ (x : Addr), (loadCells x 0).run Try.prog u = .ok #[] u := fun x => by simpa using run_loadCells_list (P := Try.prog) u x [] (by simp)
    cases ao <;> simp [Builtin.copy_, run_underlying Try.underlying27, Builtin.lenOf, Builtin.firstCells, sizeOf, typeInfo, hi, storeCells, hl]
  · have hl := run_loadCells_list (P := Try.prog) u ⟨b, off, none⟩ (rs.flatMap rv) (fun j v hv => news_of hc j v hv)
    have hst := run_storeCells_at Try.prog g 0 25 (rs.flatMap rv) 0 _ u hb (by rw [List.size_toArray, flat_len, flat_len, List.length_append, List.length_replicate]; omega) (oneR rs)
    have hlen : (rs.flatMap rv).length = n * 5 := by rw [flat_len, hn]
    have e : (((List.replicate n zeroR ++ ts).flatMap rv).toArray.toList.take (0 + 0) ++ rs.flatMap rv ++ ((List.replicate n zeroR ++ ts).flatMap rv).toArray.toList.drop (0 + 0 + (rs.flatMap rv).length)) = (rs ++ ts).flatMap rv := by
      rw [List.toList_toArray, List.take_zero, List.nil_append, Nat.zero_add, hlen, List.flatMap_append, List.flatMap_append, List.drop_left' (by rw [flat_len, List.length_replicate])]
    rw [e] at hst
    refine ⟨u.setRow g ((rs ++ ts).flatMap rv).toArray, ?_, setRow_heap u g _ _ 25 _ hb, fun B w0 h hB => below_setRow h hB _, by simp [World.setRow]⟩
    rw [hlen] at hl
    simp [Builtin.copy_, run_underlying Try.underlying27, Builtin.lenOf, Builtin.firstCells, sizeOf, typeInfo, hi, hi5, hmin, hl, hst]
theorem set_right {a : Rt} (X : List Value) (k p : Nat) (v : Value) : (rv a ++ X).set ((k + 1) * 5 + p) v = rv a ++ X.set (k * 5 + p) v := by
  rw [List.set_append_right _ _ (by rw [rv_len]; omega), rv_len, show (k + 1) * 5 + p - 5 = k * 5 + p by omega]
theorem flat_set : ∀ (ts : List Rt) (k : Nat) (r : Rt), k < ts.length → (ts.set k r).flatMap rv = ((((((ts.flatMap rv).set (k * 5) (.string r.cat)).set (k * 5 + 1) (.int .i64 r.y)).set (k * 5 + 2) (.int .i64 r.m)).set (k * 5 + 3) (.int .i64 r.d)).set (k * 5 + 4) (.int .i64 r.bp))
  | a :: l, 0, r, _ => rfl
  | a :: l, k + 1, r, h => by
    have ih := flat_set l k r (by simpa using h)
    have e0 := fun (X : List Value) (v : Value) => set_right (a := a) X k 0 v
    simp only [Nat.add_zero] at e0
    rw [List.set_cons_succ, List.flatMap_cons, ih, List.flatMap_cons, e0, set_right, set_right, set_right, set_right]
/-- a row stored -/
theorem BlockR.store {w : World} {g : Nat} {ts : List Rt} (h : BlockR w g ts) (k : Nat) (hk : k < ts.length) (r : Rt) :
    BlockR (((((w.setCell ⟨g, k * 5, none⟩ (.string r.cat)).setCell ⟨g, k * 5 + 1, none⟩ (.int .i64 r.y)).setCell ⟨g, k * 5 + 2, none⟩ (.int .i64 r.m)).setCell ⟨g, k * 5 + 3, none⟩ (.int .i64 r.d)).setCell ⟨g, k * 5 + 4, none⟩ (.int .i64 r.bp)) g (ts.set k r) := by
  have h1 := heap_setCell_same _ g (k * 5) _ _ (.string r.cat) h
  have h2 := heap_setCell_same _ g (k * 5 + 1) _ _ (.int .i64 r.y) h1
  have h3 := heap_setCell_same _ g (k * 5 + 2) _ _ (.int .i64 r.m) h2
  have h4 := heap_setCell_same _ g (k * 5 + 3) _ _ (.int .i64 r.d) h3
  have h5 := heap_setCell_same _ g (k * 5 + 4) _ _ (.int .i64 r.bp) h4
  unfold BlockR
  rw [h5, flat_set ts k r hk]
  simp only [List.setIfInBounds_toArray]
theorem below_store {B g : Nat} {w0 w : World} (h : Below B w0 w) (hg : B ≤ g) (k : Nat) (a b c d e : Value) :
    Below B w0 (((((w.setCell ⟨g, k * 5, none⟩ a).setCell ⟨g, k * 5 + 1, none⟩ b).setCell ⟨g, k * 5 + 2, none⟩ c).setCell ⟨g, k * 5 + 3, none⟩ d).setCell ⟨g, k * 5 + 4, none⟩ e) :=
  ((((h.setCell hg a).setCell hg b).setCell hg c).setCell hg d).setCell hg e
end Go.Proofs.Ytgcjhlnolmjdeaa
