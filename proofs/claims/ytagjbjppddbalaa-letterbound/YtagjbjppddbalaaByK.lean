/- BYTES IN MEMORY: slices, pieces of them, blocks of one's own, make, copy, append, string. -/
import Derived.Test.YtagjbjppddbalaaMemK
import Derived.Maps.AppendAt
import Derived.Laws.AppendOwnNone
import Derived.Laws.Rows
import Derived.Laws.CopyOwn
import Derived.Laws.MakeOwn
import Derived.Laws.BytesArg
namespace Go.Proofs.Ytagjbjppddbalaa.By
open Go.RowKit
open Mem

/-- a byte as a value -/
def bv (b : UInt8) : Value := .int .u8 (b.toNat : Int)
/-- bytes lie at an address -/
def Seg (w : World) (ao : Option Addr) (bs : List UInt8) : Prop := bs = [] ∨ ∃ b off, ao = some ⟨b, off, none⟩ ∧ ∀ (k : Nat) (hk : k < bs.length), w.cell? ⟨b, off + k, none⟩ = some (bv bs[k])
theorem Seg.below {w v : World} {ao : Option Addr} {rs : List UInt8} (h : Seg w ao rs) (k : Below w.heap.size w v) : Seg v ao rs := by
  rcases h with h | ⟨b, off, e, h⟩
  · exact .inl h
  · exact .inr ⟨b, off, e, fun i hi => by rw [(bcell k).1 _ _ (cell_lt (h i hi))]; exact h i hi⟩
/-- a slice of bytes, as a contract takes it -/
structure Ls (w : World) (ao : Option Addr) (n cap : Nat) (rs : List UInt8) : Prop where
  len : n = rs.length
  fits : n ≤ cap
  reach : cap ≤ 9223372036854775807
  nil : ao = none → cap = 0
  seg : Seg w ao rs
theorem Ls.below {w v : World} {ao : Option Addr} {n cap : Nat} {rs : List UInt8} (h : Ls w ao n cap rs) (k : Below w.heap.size w v) : Ls v ao n cap rs := ⟨h.len, h.fits, h.reach, h.nil, h.seg.below k⟩
theorem Ls.at {w : World} {ao : Option Addr} {n cap : Nat} {rs : List UInt8} (h : Ls w ao n cap rs) (hn : 0 < n) : ∃ b off, ao = some ⟨b, off, none⟩ := by
  rcases h.seg with e | ⟨b, off, e, _⟩
  · have := h.len
    rw [e] at this
    simp at this
    omega
  · exact ⟨b, off, e⟩
theorem Ls.row {w : World} {b off n cap : Nat} {rs : List UInt8} (h : Ls w (some ⟨b, off, none⟩) n cap rs) (k : Nat) (hk : k < rs.length) : w.cell? ⟨b, off + k, none⟩ = some (bv rs[k]) := by
  rcases h.seg with e | ⟨b', off', e, hs⟩
  · subst e
    simp at hk
  · cases e
    exact hs k hk
theorem ls_nil (w : World) : Ls w none 0 0 [] := ⟨rfl, Nat.le_refl _, by omega, fun _ => rfl, .inl rfl⟩
theorem und : Try.prog.underlying 25 = some (.slice (Try.prog.elem 25)) := by kernel_rfl
theorem size (u : World) : (sizeOf (Try.prog.elem 25)).run Try.prog u = .ok 1 u := by
  have h : (Try.prog.info? (Try.prog.elem 25)).map (·.size) = some 1 := by kernel_rfl
  obtain ⟨i, hi, hs⟩ := Option.map_eq_some_iff.1 h
  simp [sizeOf, typeInfo, hi, hs]
theorem Ls.to {w : World} {ao : Option Addr} {n cap : Nat} {rs : List UInt8} (h : Ls w ao n cap rs) (k : Nat) (hk : k ≤ n) :
    (∀ u, (Instr.slice 25 (.slice ao n cap) none (some (.int .i64 (k : Int))) none).run Try.prog u = .ok (.slice ao k cap) u) ∧ Ls w ao k cap (rs.take k) := by
  have hl := h.len
  have hf := h.fits
  refine ⟨fun u => ?_, ⟨by rw [List.length_take]; omega, by omega, h.reach, h.nil, ?_⟩⟩
  · rw [run_slice_h u 25 ao n cap und .i64 k (by omega) (by omega), size]
    have e : Option.map (fun x : Addr => x.add 0) ao = ao := by cases ao <;> simp [Addr.add]
    simp [Result.andThen, sliced, e]
  · rcases h.seg with e | ⟨b, off, e, hc⟩
    · exact .inl (by rw [e]; simp)
    · refine .inr ⟨b, off, e, fun j hj => ?_⟩
      rw [List.length_take] at hj
      rw [List.getElem_take]
      exact hc j (by omega)
theorem Ls.from {w : World} {ao : Option Addr} {n cap : Nat} {rs : List UInt8} (h : Ls w ao n cap rs) (k : Nat) (hk : k ≤ n) :
    ∃ ao2 cap2, (∀ u, (Instr.slice 25 (.slice ao n cap) (some (.int .i64 (k : Int))) none none).run Try.prog u = .ok (.slice ao2 (n - k) cap2) u) ∧ Ls w ao2 (n - k) cap2 (rs.drop k) ∧ (k < n → ∀ b off, ao = some ⟨b, off, none⟩ → ao2 = some ⟨b, off + k, none⟩) := by
  have hl := h.len
  have hf := h.fits
  refine ⟨if cap = k then ao else ao.map (·.add k), cap - k, fun u => ?_, ⟨by rw [List.length_drop]; omega, by omega, by have := h.reach; omega, ?_, ?_⟩, fun hkn b off e => by rw [if_neg (by omega), e]; simp only [Option.map_some, Go.WideShapes.add_plain]⟩
  · rw [run_slice_l u 25 ao n cap und .i64 k (by omega) (by omega), size]
    simp [Result.andThen, sliced]
  · by_cases e : cap = k
    · omega
    · rw [if_neg e]
      cases ao with
      | none => have := h.nil rfl; omega
      | some a => exact fun k => by cases k
  · by_cases hkn : k = n
    · exact .inl (List.drop_eq_nil_of_le (by omega))
    · rcases h.seg with e | ⟨b, off, rfl, hc⟩
      · exact .inl (by rw [e]; simp)
      · refine .inr ⟨b, off + k, ?_, fun j hj => ?_⟩
        · rw [if_neg (by omega)]
          simp only [Option.map_some, Go.WideShapes.add_plain]
        · rw [List.length_drop] at hj
          rw [List.getElem_drop, Nat.add_assoc]
          exact hc (k + j) (by omega)
theorem Ls.mid {w : World} {ao : Option Addr} {n cap : Nat} {rs : List UInt8} (h : Ls w ao n cap rs) (k m : Nat) (hkm : k ≤ m) (hm : m ≤ n) :
    ∃ ao2 cap2, (∀ u, (Instr.slice 25 (.slice ao n cap) (some (.int .i64 (k : Int))) (some (.int .i64 (m : Int))) none).run Try.prog u = .ok (.slice ao2 (m - k) cap2) u) ∧ Ls w ao2 (m - k) cap2 ((rs.take m).drop k) := by
  have hl := h.len
  have hf := h.fits
  refine ⟨if cap = k then ao else ao.map (·.add k), cap - k, fun u => ?_, ⟨by rw [List.length_drop, List.length_take]; omega, by omega, by have := h.reach; omega, ?_, ?_⟩⟩
  · rw [run_slice_lh u 25 ao n cap und .i64 .i64 k m (by omega) (by omega) (by omega), size]
    simp [Result.andThen, sliced]
  · by_cases e : cap = k
    · omega
    · rw [if_neg e]
      cases ao with
      | none => have := h.nil rfl; omega
      | some a => exact fun k => by cases k
  · by_cases hkn : k = m
    · exact .inl (List.drop_eq_nil_of_le (by rw [List.length_take]; omega))
    · rcases h.seg with e | ⟨b, off, rfl, hc⟩
      · exact .inl (by rw [e]; simp)
      · refine .inr ⟨b, off + k, ?_, fun j hj => ?_⟩
        · rw [if_neg (by omega)]
          simp only [Option.map_some, Go.WideShapes.add_plain]
        · rw [List.length_drop, List.length_take] at hj
          rw [List.getElem_drop, List.getElem_take, Nat.add_assoc]
          exact hc (k + j) (by omega)
theorem one_cell (rs : List UInt8) : ∀ v ∈ rs.map bv, v.oneCell' = true := by
  intro v hv
  obtain ⟨r, _, rfl⟩ := List.mem_map.1 hv
  rfl
theorem news_of {w : World} {b off : Nat} {rs : List UInt8} (h : ∀ (k : Nat) (hk : k < rs.length), w.cell? ⟨b, off + k, none⟩ = some (bv rs[k])) (j : Nat) (u : Value) (hu : (rs.map bv)[j]? = some u) : w.cell? ((⟨b, off, none⟩ : Addr).add j) = some u := by
  obtain ⟨hj, e⟩ := List.getElem?_eq_some_iff.1 hu
  rw [List.length_map] at hj
  rw [List.getElem_map] at e
  rw [Go.WideShapes.add_plain, h j hj, e]
/-- a whole block of bytes, none of it frozen -/
def Block (w : World) (g : Nat) (bs : List UInt8) : Prop := w.heap[g]? = some (.cells (bs.map bv).toArray 5 (0, 0))
theorem Block.lt {w : World} {g : Nat} {bs : List UInt8} (h : Block w g bs) : g < w.heap.size := by
  obtain ⟨hg, _⟩ := Array.getElem?_eq_some_iff.1 h
  exact hg
theorem Block.below {w u : World} {g : Nat} {bs : List UInt8} (h : Block w g bs) (k : Below w.heap.size w u) : Block u g bs := (k.block g h.lt).trans h
theorem Block.row {w : World} {g : Nat} {bs : List UInt8} (h : Block w g bs) (k : Nat) (hk : k < bs.length) : w.cell? ⟨g, k, none⟩ = some (bv bs[k]) := by
  rw [cell_of_row w g _ _ _ _ h]
  simp [hk]
theorem Block.frozen {w : World} {g : Nat} {bs : List UInt8} (h : Block w g bs) (k : Nat) : w.frozen? ⟨g, k, none⟩ = false := frozen_of_row w g k _ _ h
theorem Block.ls {w : World} {g : Nat} {bs : List UInt8} (h : Block w g bs) (hm : bs.length ≤ 9223372036854775807) : Ls w (some ⟨g, 0, none⟩) bs.length bs.length bs :=
  ⟨rfl, Nat.le_refl _, hm, (fun k => by cases k), .inr ⟨g, 0, rfl, fun k hk => by rw [Nat.zero_add]; exact h.row k hk⟩⟩
theorem Block.store {w : World} {g : Nat} {bs : List UInt8} (h : Block w g bs) (k : Nat) (v : UInt8) : Block (w.setCell ⟨g, k, none⟩ (bv v)) g (bs.set k v) := by
  have h1 := heap_setCell_same _ g k _ _ (bv v) h
  unfold Block
  rw [h1]
  simp only [List.setIfInBounds_toArray, List.map_set]
def zeros (n : Nat) : Array Value := ((List.replicate n (0 : UInt8)).map bv).toArray
theorem info : (Try.prog.info? 5).map (fun i => (i.zero, i.size, i.bytes)) = some (some (.int .u8 0), 1, 1) := by kernel_rfl
theorem made (n : Nat) : madeCells (Value.int .u8 0).cells (n * 1) = zeros n := by
  apply Array.ext_getElem?
  intro j
  rw [Nat.mul_one]
  by_cases hj : j < n
  · unfold madeCells zeros
    rw [Array.getElem?_map, Array.getElem?_range, if_pos hj, List.getElem?_toArray, List.getElem?_map, List.getElem?_replicate, if_pos hj]
    simp only [Option.map_some]
    rw [show (Value.int .u8 0).cells.size = 1 from rfl, Nat.mod_one]
    rfl
  · rw [Array.getElem?_eq_none (by rw [size_madeCells]; omega), Array.getElem?_eq_none]
    unfold zeros
    rw [List.size_toArray, List.length_map, List.length_replicate]
    omega
theorem make (n : Nat) (hn : n ≤ 140737488355328) (u : World) : (Instr.makeSlice 25 (.int .i64 (n : Int)) (.int .i64 (n : Int))).run Try.prog u =
    .ok (.slice (some ⟨u.heap.size, 0, none⟩) n n) (u.alloc (.cells (zeros n) 5)) := by
  obtain ⟨i0, hi, hz0, hz1, hz2⟩ := info_parts info
  have h := run_make (P := Try.prog) u 25 5 i0 (.int .u8 0) Try.underlying25 hi hz0 .i64 .i64 (n : Int) (n : Int) (by omega) (Int.le_refl _) (by rw [hz2]; omega) (by omega)
  rw [hz1, Int.toNat_natCast, made] at h
  exact h
theorem block_made (u : World) (n : Nat) : Block (u.alloc (.cells (zeros n) 5)) u.heap.size (List.replicate n 0) := heap_alloc_new u _
theorem sizeZ : (Try.prog.info? 5).map (·.size) = some 1 := by kernel_rfl
/-- copy(dst[o:], src): into a block of one's own, behind what stands there already -/
theorem copy (u : World) (g o : Nat) (hd ts : List UInt8) (dCap : Nat) (ao : Option Addr) (n cap : Nat) (rs : List UInt8) (hb : Block u g (hd ++ List.replicate n 0 ++ ts)) (ho : o = hd.length) (hn : n = rs.length) (hs : Seg u ao rs) (da : Option Addr) (hda : 0 < n → da = some ⟨g, o, none⟩) :
    ∃ u', (Builtin.copy_ #[25, 25] 3 #[.slice da (n + ts.length) dCap, .slice ao n cap]).run Try.prog u = .ok (goInt n) u' ∧ Block u' g (hd ++ rs ++ ts) ∧ (∀ B w0, Below B w0 u → B ≤ g → Below B w0 u') ∧ u'.heap.size = u.heap.size := by
  obtain ⟨i0, hi, hiK⟩ := Option.map_eq_some_iff.1 sizeZ
  have hmin : Nat.min n (n + ts.length) = n := Nat.min_eq_left (by omega)
  by_cases h0 : n = 0
  · subst h0
    have e : rs = [] := List.length_eq_zero_iff.1 hn.symm
    subst e
    refine ⟨u, ?_, by simpa using hb, fun _ _ h _ => h, rfl⟩
    have hl : ∀ (x : Addr), (loadCells x 0).run Try.prog u = .ok #[] u := fun x => by simpa using run_loadCells_list (P := Try.prog) u x [] (by simp)
    cases ao <;> cases da <;> simp [Builtin.copy_, run_underlying Try.underlying25, Builtin.lenOf, Builtin.firstCells, sizeOf, typeInfo, hi, storeCells, hl]
  · obtain rfl := hda (by omega)
    rcases hs with e | ⟨b, off, rfl, hc⟩
    · rw [e] at hn
      exact absurd hn h0
    · have hl := run_loadCells_list (P := Try.prog) u ⟨b, off, none⟩ (rs.map bv) (fun j v hv => news_of hc j v hv)
      have hst := run_storeCells_at Try.prog g o 5 (rs.map bv) 0 _ u hb (by
        simp
        omega) (one_cell rs)
      have e : (((hd ++ List.replicate n (0 : UInt8) ++ ts).map bv).toArray.toList.take (o + 0) ++ rs.map bv ++ ((hd ++ List.replicate n (0 : UInt8) ++ ts).map bv).toArray.toList.drop (o + 0 + (rs.map bv).length)) = (hd ++ rs ++ ts).map bv := by
        rw [List.toList_toArray, Nat.add_zero, List.length_map, ← hn, ho]
        simp only [List.map_append, List.append_assoc]
        have e2 : (hd.map bv ++ ((List.replicate n (0 : UInt8)).map bv ++ ts.map bv)).drop (hd.length + n) = ts.map bv := by
          rw [← List.append_assoc]
          exact List.drop_left' (by simp)
        rw [List.take_left' (by simp), e2]
      rw [e] at hst
      refine ⟨u.setRow g ((hd ++ rs ++ ts).map bv).toArray, ?_, setRow_heap u g _ _ 5 _ hb, fun B w0 h hB => below_setRow h hB _, by simp [World.setRow]⟩
      rw [List.length_map, ← hn] at hl
      simp [Builtin.copy_, run_underlying Try.underlying25, Builtin.lenOf, Builtin.firstCells, sizeOf, typeInfo, hi, hiK, hmin, hl, hst]
end Go.Proofs.Ytagjbjppddbalaa.By
