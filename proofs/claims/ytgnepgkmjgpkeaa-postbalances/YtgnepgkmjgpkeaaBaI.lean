/- slices.Insert OF ONE ROW INTO ROWS OF THE CALL's OWN, WHERE THERE IS ROOM: in place. -/
import Derived.Test.YtgnepgkmjgpkeaaBaM
import Derived.Lib.Overlaps
import Derived.Lib.JoinLaws
set_option maxRecDepth 100000
set_option linter.unusedVariables false
namespace Go.Proofs.Ytgnepgkmjgpkeaa.Ba
open Go.RowKit
open Mem

theorem slice_from (g n c k l c' : Nat) (x : Int) (hx : x = (k : Int)) (hk : k + l = n) (hc : k + c' = c) (hl : 0 < c') (hn : n ≤ c) (h63 : c ≤ 1000) (u : World) :
    (Instr.slice 22 (.slice (some ⟨g, 0, none⟩) n c) (some (.int .i64 x)) none none).run Try.prog u = .ok (.slice (some ⟨g, k * 2, none⟩) l c') u := by
  subst hx
  rw [run_slice_l u 22 (some ⟨g, 0, none⟩) n c und .i64 k (by omega) (by omega), size]
  have e1 : n - k = l := by omega
  have e2 : c - k = c' := by omega
  have e3 : ¬ c = k := by omega
  simp [Result.andThen, sliced, e1, e2, e3, Addr.add]
  intro h
  exact h.symm
theorem slice_to (g n c k : Nat) (x : Int) (hx : x = (k : Int)) (hk : k ≤ c) (h63 : c ≤ 1000) (u : World) :
    (Instr.slice 22 (.slice (some ⟨g, 0, none⟩) n c) none (some (.int .i64 x)) none).run Try.prog u = .ok (.slice (some ⟨g, 0, none⟩) k c) u := by
  subst hx
  rw [run_slice_h u 22 (some ⟨g, 0, none⟩) n c und .i64 k (by omega) (by omega), size]
  simp [Result.andThen, sliced, Addr.add]
/-- what a block of rows holds behind a copy -/
def laid (M rs : List T) (o : Nat) : List T := M.take o ++ rs ++ M.drop (o + rs.length)
def cells (M : List T) : Array Value := (M.flatMap rv).toArray
theorem flat_take : ∀ (M : List T) (o : Nat), (M.flatMap rv).take (o * 2) = (M.take o).flatMap rv
  | [], o => by simp
  | a :: l, 0 => by simp
  | a :: l, o + 1 => by
    rw [List.flatMap_cons, List.take_succ_cons, List.flatMap_cons, show (o + 1) * 2 = (rv a).length + o * 2 by rw [rv_len]; omega, List.take_length_add_append, flat_take l o]
theorem flat_drop : ∀ (M : List T) (o : Nat), (M.flatMap rv).drop (o * 2) = (M.drop o).flatMap rv
  | [], o => by simp
  | a :: l, 0 => by simp
  | a :: l, o + 1 => by
    rw [List.flatMap_cons, List.drop_succ_cons, show (o + 1) * 2 = (rv a).length + o * 2 by rw [rv_len]; omega, List.drop_length_add_append, flat_drop l o]
theorem block_laid {u : World} {g : Nat} {M : List T} (h : Block u g M) (N : List T) : Block (u.setRow g (cells N)) g N := setRow_heap u g _ _ 33 _ h
/-- copy(dst[o:], src): as many rows as both have -/
theorem copy_at (u : World) (g : Nat) (M : List T) (o dl dc b so sl sc : Nat) (rs : List T) (hb : Block u g M) (hk : rs.length = Nat.min sl dl) (ho : o + rs.length ≤ M.length) (hs : ∀ (k : Nat) (hk : k < rs.length), At u b (so + k * 2) rs[k]) (ty : TypeId) :
    (Builtin.copy_ #[22, 22] ty #[.slice (some ⟨g, o * 2, none⟩) dl dc, .slice (some ⟨b, so, none⟩) sl sc]).run Try.prog u = .ok (goInt rs.length) (u.setRow g (cells (laid M rs o))) := by
  obtain ⟨i0, hi, hiK⟩ := Option.map_eq_some_iff.1 sizeZ
  have hl := run_loadCells_list (P := Try.prog) u ⟨b, so, none⟩ (rs.flatMap rv) (fun j v hv => news_of hs j v hv)
  have hst := run_storeCells_at Try.prog g (o * 2) 33 (rs.flatMap rv) 0 _ u hb (by rw [List.size_toArray, flat_len, flat_len]; omega) (one_cell rs)
  have hlen : (rs.flatMap rv).length = rs.length * 2 := flat_len rs
  have e : ((M.flatMap rv).toArray.toList.take (o * 2 + 0) ++ rs.flatMap rv ++ (M.flatMap rv).toArray.toList.drop (o * 2 + 0 + (rs.flatMap rv).length)) = (laid M rs o).flatMap rv := by
    rw [List.toList_toArray, Nat.add_zero, hlen, flat_take, show o * 2 + rs.length * 2 = (o + rs.length) * 2 by omega, flat_drop]
    unfold laid
    rw [List.flatMap_append, List.flatMap_append]
  rw [e] at hst
  rw [hlen] at hl
  unfold cells
  simp [Builtin.copy_, run_underlying Try.underlying22, Builtin.lenOf, Builtin.firstCells, sizeOf, typeInfo, hi, hiK, ← hk, hl, hst]
theorem Block.drew {u : World} {g : Nat} {M : List T} (h : Block u g M) : Block u.drew g M := h
theorem Block.shape {u : World} {g : Nat} {M : List T} (h : Block u g M) : u.shape? g = some (33, M.length * 2) := by
  unfold World.shape?
  rw [h]
  simp only [List.size_toArray, flat_len]
/-- rows that lie in a block from its head on -/
theorem own_front {w : World} {B g n c : Nat} {M Z : List T} (h : Block w g (M ++ Z)) (hB : B ≤ g) (hn : n = M.length) (hc : c = (M ++ Z).length) (hm : c ≤ 1000) : Own w B (.slice (some ⟨g, 0, none⟩) n c) M := by
  subst hn hc
  refine ⟨by rw [flat_len], .inr ⟨g, _, _, rfl, hB, h, by rw [List.length_append]; omega, by have : maxLen = 9223372036854775807 := rfl; omega, by rw [List.size_toArray, flat_len], ?_⟩⟩
  rw [List.flatMap_append, List.toList_toArray, List.take_left' (by rw [flat_len])]
/-- one field of one row of a block written -/
theorem Block.put {w : World} {g : Nat} {M : List T} (h : Block w g M) (k p : Nat) (hk : k < M.length) (hp : p < 2) (x : Value) (r : T) (hr : rv r = (rv M[k]).set p x) : Block (w.setCell ⟨g, k * 2 + p, none⟩ x) g (M.set k r) := by
  have h1 := heap_setCell_same _ g (k * 2 + p) _ _ x h
  unfold Block
  rw [h1, flat_put r p x hp M k hk hr]
  simp only [List.setIfInBounds_toArray]
theorem Block.far {w : World} {g b : Nat} {M : List T} (h : Block w g M) (hne : g ≠ b) (o : Nat) (x : Value) : Block (w.setCell ⟨b, o, none⟩ x) g M := by
  unfold Block
  rw [heap_setCell_other w ⟨b, o, none⟩ g x hne]
  exact h
theorem set_at (M Z : List T) (z r : T) : (M ++ z :: Z).set M.length r = (M ++ [r]) ++ Z := by
  rw [List.set_append_right _ _ (Nat.le_refl _), Nat.sub_self, List.set_cons_zero, List.append_assoc]
  rfl
theorem laid_up (M Z : List T) (z : T) (i : Nat) (hi : i < M.length) : laid (M ++ z :: Z) (M.drop i) (i + 1) = M.take (i + 1) ++ M.drop i ++ Z := by
  have e1 : (M ++ z :: Z).take (i + 1) = M.take (i + 1) := List.take_append_of_le_length (by omega)
  have e2 : (M ++ z :: Z).drop (i + 1 + (M.drop i).length) = Z := by
    rw [List.length_drop, show i + 1 + (M.length - i) = (M ++ [z]).length by rw [List.length_append, List.length_singleton]; omega, show M ++ z :: Z = (M ++ [z]) ++ Z by simp, List.drop_left]
  unfold laid
  rw [e1, e2]
theorem laid_in (M Z : List T) (r : T) (i : Nat) (hi : i < M.length) : laid (M.take (i + 1) ++ M.drop i ++ Z) [r] i = (M.take i ++ r :: M.drop i) ++ Z := by
  have e1 : (M.take (i + 1) ++ M.drop i ++ Z).take i = M.take i := by
    rw [List.append_assoc, List.take_append_of_le_length (by rw [List.length_take]; omega), List.take_take, Nat.min_eq_left (by omega)]
  have e2 : (M.take (i + 1) ++ M.drop i ++ Z).drop (i + [r].length) = M.drop i ++ Z := by
    rw [List.append_assoc, List.drop_left' (by rw [List.length_take, List.length_singleton]; omega)]
  unfold laid
  rw [e1, e2]
  simp only [List.append_assoc, List.cons_append, List.nil_append]
theorem size2 (u : World) : (sizeOf 33).run Try.prog u = .ok 2 u := by
  obtain ⟨i, hi, hs⟩ := Option.map_eq_some_iff.1 sizeZ
  simp [sizeOf, typeInfo, hi, hs]
end Go.Proofs.Ytgnepgkmjgpkeaa.Ba
