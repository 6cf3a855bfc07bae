/- BYTES IN MEMORY, as the contracts speak of them. -/
import Derived.Test.YtagjbjppddbalaaRows
import Derived.Test.YtagjbjppddbalaaPlain
import Derived.WalkKit
import Derived.WalkLawsBesides
import Derived.Laws.BitsAllLaws
import Derived.Deep.QuietTactic
import Derived.BigQuiet
import Derived.WalkSmall
import Derived.Laws.CopyOwn
import Derived.WalkSpells
namespace Go.Proofs.Ytagjbjppddbalaa
open Go.RowKit

theorem ret_u32 {a b : Int} (h : a = b) : Ending.returned (.int .u32 a) = .returned (.int .u32 b) := by rw [h]

/-- bytes that lie one behind the other in memory, from an address on -/
def Seg (w : World) (ao : Option Addr) (bs : List UInt8) : Prop :=
  bs = [] ∨ ∃ b off, ao = some ⟨b, off, none⟩ ∧ ∀ k (hk : k < bs.length), w.cell? ⟨b, off + k, none⟩ = some (.int .u8 (bs[k].toNat : Int))

theorem lt_of_cell {w : World} {b o : Nat} {v : Value} (h : w.cell? ⟨b, o, none⟩ = some v) : b < w.heap.size := by
  by_cases hb : b < w.heap.size
  · exact hb
  · simp [World.cell?, Array.getElem?_eq_none (Nat.not_lt.1 hb)] at h
theorem Seg.below {w w' : World} {ao : Option Addr} {bs : List UInt8} (h : Seg w ao bs) (hb : Below w.heap.size w w') : Seg w' ao bs := by
  rcases h with h | ⟨b, off, e, hc⟩
  · exact .inl h
  · exact .inr ⟨b, off, e, fun k hk => (hb.cell (p := ⟨b, off + k, none⟩) (lt_of_cell (hc k hk))).trans (hc k hk)⟩
theorem Seg.take {w : World} {b off : Nat} {bs : List UInt8} (h : Seg w (some ⟨b, off, none⟩) bs) (i : Nat) : Seg w (some ⟨b, off, none⟩) (bs.take i) := by
  rcases h with rfl | ⟨b', off', e, hc⟩
  · exact .inl (by simp)
  · cases e
    exact .inr ⟨b, off, rfl, fun k hk => by
      simp only [List.length_take] at hk
      rw [List.getElem_take]
      exact hc k (by omega)⟩
theorem Seg.drop {w : World} {b off : Nat} {bs : List UInt8} (h : Seg w (some ⟨b, off, none⟩) bs) (i : Nat) : Seg w (some ⟨b, off + i, none⟩) (bs.drop i) := by
  rcases h with rfl | ⟨b', off', e, hc⟩
  · exact .inl (by simp)
  · cases e
    exact .inr ⟨b, off + i, rfl, fun k hk => by
      simp only [List.length_drop] at hk
      rw [List.getElem_drop, Nat.add_assoc]
      exact hc (i + k) (by omega)⟩


theorem Seg.takes {w : World} {ao : Option Addr} {bs : List UInt8} (h : Seg w ao bs) (i : Nat) : Seg w ao (bs.take i) := by
  rcases h with rfl | ⟨b, off, rfl, hc⟩
  · exact .inl (by simp)
  · exact Seg.take (.inr ⟨b, off, rfl, hc⟩) i
theorem Seg.cut {w : World} {b off cap : Nat} {bs : List UInt8} (h : Seg w (some ⟨b, off, none⟩) bs) (hle : bs.length ≤ cap) (i : Nat) :
    Seg w (if cap = i then some ⟨b, off, none⟩ else some ⟨b, off + i, none⟩) (bs.drop i) := by
  split
  · exact .inl (List.drop_eq_nil_iff.2 (by omega))
  · exact h.drop i
theorem Seg.drew {w : World} {ao : Option Addr} {bs : List UInt8} (h : Seg w ao bs) : Seg w.drew ao bs := h
/-- a byte as a value -/
def bv (b : UInt8) : Value := .int .u8 (b.toNat : Int)
/-- a block of bytes, none of them frozen -/
def Row (w : World) (g : Nat) (cs : List Value) : Prop := w.heap[g]? = some (.cells cs.toArray 5 (0, 0))
theorem Row.lt {w : World} {g : Nat} {cs : List Value} (h : Row w g cs) : g < w.heap.size := by
  by_cases hb : g < w.heap.size
  · exact hb
  · simp [Row, Array.getElem?_eq_none (Nat.not_lt.1 hb)] at h
theorem Row.cell {w : World} {g : Nat} {cs : List Value} (h : Row w g cs) (k : Nat) (hk : k < cs.length) : w.cell? ⟨g, k, none⟩ = some cs[k] := by
  rw [cell_of_row w g k _ _ _ h]
  simp [hk]
theorem Row.frozen {w : World} {g : Nat} {cs : List Value} (h : Row w g cs) (k : Nat) : w.frozen? ⟨g, k, none⟩ = false :=
  frozen_of_row w g k _ _ h
theorem Row.set {w : World} {g : Nat} {cs : List Value} (h : Row w g cs) (k : Nat) (v : Value) : Row (w.setCell ⟨g, k, none⟩ v) g (cs.set k v) := by
  have := heap_setCell_same w g k _ _ v h
  simpa [Row] using this
theorem Row.below {w w' : World} {g B : Nat} {cs : List Value} (h : Row w g cs) (hb : Below B w w') (hg : g < B) : Row w' g cs :=
  (hb.block g hg).trans h
theorem Row.keep {w w' : World} {g : Nat} {cs : List Value} (h : Row w g cs) (hb : Below w.heap.size w w') : Row w' g cs :=
  h.below hb h.lt
theorem Row.drew {w : World} {g : Nat} {cs : List Value} (h : Row w g cs) : Row w.drew g cs := h
theorem Row.alloc {w : World} {g : Nat} {cs : List Value} (h : Row w g cs) (o : Obj) : Row (w.alloc o) g cs :=
  h.keep ((Below.refl _ _).alloc (Nat.le_refl _) o)
theorem Row.seg {w : World} {g : Nat} {bs : List UInt8} {rest : List Value} (h : Row w g (bs.map bv ++ rest)) : Seg w (some ⟨g, 0, none⟩) bs :=
  .inr ⟨g, 0, rfl, fun k hk => by
    rw [Nat.zero_add, h.cell k (by simp; omega), List.getElem_append_left (by simpa using hk)]
    simp [bv]⟩
theorem Row.seg' {w : World} {g : Nat} {bs : List UInt8} (h : Row w g (bs.map bv)) : Seg w (some ⟨g, 0, none⟩) bs :=
  Row.seg (rest := []) (by simpa using h)
theorem set_behind {α : Type} (L t : List α) (n k : Nat) (v : α) (hn : L.length = n) : (L ++ t).set (n + k) v = L ++ t.set k v := by
  subst hn
  rw [List.set_append_right _ _ (by omega), Nat.add_sub_cancel_left]
theorem take_set_succ {α : Type} (t : List α) (k : Nat) (v : α) (hk : k < t.length) : (t.set k v).take (k + 1) = t.take k ++ [v] := by
  rw [List.take_succ_eq_append_getElem (by simpa using hk), List.take_set_of_le (Nat.le_refl k)]
  simp
theorem one_bv (bs : List UInt8) : ∀ v ∈ bs.map bv, v.oneCell' = true := by
  intro v hv
  obtain ⟨b, _, rfl⟩ := List.mem_map.1 hv
  rfl
theorem splice_zero (n m : Nat) (z : Value) (cs : List Value) (h : cs.length = n) : splice (List.replicate (n + m) z) 0 cs = cs ++ List.replicate m z := by
  simp [splice, h]
theorem Seg.src {w : World} {ao : Option Addr} {bs : List UInt8} (h : Seg w ao bs) (h0 : 0 < (bs.map bv).length) : ∃ ad, ao = some ad ∧ ∀ j v, (bs.map bv)[j]? = some v → w.cell? (ad.add j) = some v := by
  rcases h with rfl | ⟨b, off, rfl, hc⟩
  · simp at h0
  · refine ⟨_, rfl, fun j v hv => ?_⟩
    obtain ⟨hj, rfl⟩ := List.getElem?_eq_some_iff.1 hv
    simp only [List.length_map] at hj
    have h1 := hc j hj
    by_cases h0 : j = 0
    · subst h0
      simpa [Addr.add, bv] using h1
    · simpa [Addr.add, bv, h0] using h1
theorem info8 : (Try.prog.info? 5).map (fun i => (i.zero, i.size, i.bytes)) = some (some (.int .u8 0), 1, 1) := by kernel_rfl
theorem size8 : (Try.prog.info? 5).map (·.size) = some 1 := by kernel_rfl
def zeros (n : Nat) : Array Value := (List.replicate n (Value.int .u8 0)).toArray
/-- make([]byte, n) -/
theorem make_bytes (n : Nat) (hn : n ≤ 281474976710656) (u : World) : (Instr.makeSlice 25 (.int .i64 (n : Int)) (.int .i64 (n : Int))).run Try.prog u =
    .ok (.slice (some ⟨u.heap.size, 0, none⟩) n n) (u.alloc (.cells (zeros n) 5)) := by
  obtain ⟨i0, hi, hz0, hz1, hz2⟩ := info_parts info8
  have h := run_make (P := Try.prog) u 25 5 i0 (.int .u8 0) Try.underlying25 hi hz0 .i64 .i64 (n : Int) (n : Int) (by omega) (Int.le_refl _) (by rw [hz2]; omega) (by omega)
  have e : (madeCells #[Value.int .u8 0] n) = zeros n := by
    apply Array.toList_inj.1
    rw [toList_madeCells_one]
    rfl
  simpa [hz1, Value.cells, e] using h
theorem row_made (u : World) (n : Nat) : Row (u.alloc (.cells (zeros n) 5)) u.heap.size (List.replicate n (Value.int .u8 0)) := heap_alloc_new u _
theorem row_new (u : World) (cs : List Value) : Row (u.alloc (.cells cs.toArray 5)) u.heap.size cs := heap_alloc_new u _
/-- copy(dst, src), dst a block of the call's own from its head on -/
theorem copy_bytes (u : World) (g : Nat) (L : List Value) (dLen dCap : Nat) (ao : Option Addr) (n cap : Nat) (bs : List UInt8) (hrow : Row u g L) (hd : dLen ≤ L.length) (hn : n = bs.length) (hs : Seg u ao bs) :
    ∃ u', (Builtin.copy_ #[25, 25] 3 #[.slice (some ⟨g, 0, none⟩) dLen dCap, .slice ao n cap]).run Try.prog u = .ok (goInt (bs.take dLen).length) u' ∧
      Row u' g (splice L 0 ((bs.take dLen).map bv)) ∧ (∀ B w0, Below B w0 u → B ≤ g → Below B w0 u') ∧ u'.heap.size = u.heap.size := by
  by_cases h0 : (bs.take dLen) = []
  · refine ⟨u, ?_, ?_, fun _ _ h _ => h, rfl⟩
    · rw [h0]
      exact run_copy_none (P := Try.prog) u _ _ _ 5 _ _ _ _ _ _ Try.underlying25 size8 (by
        have := congrArg List.length h0
        rw [List.length_take, List.length_nil] at this
        show min n dLen = 0
        omega)
    · rw [h0]
      simpa [splice] using hrow
  · have hpos : 0 < bs.length := by
      rcases bs with _ | ⟨b, t⟩
      · simp at h0
      · simp
    rcases hs with rfl | ⟨b, off, rfl, hc⟩
    · simp at hpos
    · refine ⟨u.setRow g (splice L 0 ((bs.take dLen).map bv)).toArray, ?_, ?_, fun B w0 h hB => below_setRow h hB _, by simp [World.setRow]⟩
      · have := run_copy_row (P := Try.prog) u 25 25 3 5 g 0 dLen dCap ⟨b, off, none⟩ n cap L.toArray 5 ((bs.take dLen).map bv) Try.underlying25 size8 hrow (by
          rw [List.length_map, List.length_take, hn]
          show _ = min _ _
          omega) (fun j v hv => by
            obtain ⟨hj, rfl⟩ := List.getElem?_eq_some_iff.1 hv
            simp only [List.length_map, List.length_take] at hj
            have h1 := hc j (by omega)
            by_cases hj0 : j = 0
            · subst hj0
              simpa [Addr.add, bv] using h1
            · simpa [Addr.add, bv, hj0] using h1) (by simp; omega) (one_bv _)
        rw [this]
        simp [splice]
      · have := setRow_heap u g L.toArray (splice L 0 ((bs.take dLen).map bv)).toArray 5 _ hrow
        simpa [Row, splice] using this
theorem seg_lit (u : World) (bs : List UInt8) (fr : Nat × Nat) : Seg (u.alloc (.cells (bs.map bv).toArray 5 fr)) (some ⟨u.heap.size, 0, none⟩) bs :=
  .inr ⟨u.heap.size, 0, rfl, fun k hk => by
    rw [Nat.zero_add, cell_of_row _ _ _ _ _ _ (heap_alloc_new u _)]
    simp [hk, bv]⟩
end Go.Proofs.Ytagjbjppddbalaa
