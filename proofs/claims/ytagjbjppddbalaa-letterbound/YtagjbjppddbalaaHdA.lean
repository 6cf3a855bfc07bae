/- api.Hard: append(own, rows...): A LAW FOR THE WALK, at a plain list and at a step of a region that draws its order. (By genrows.py.) -/
import Derived.Test.YtagjbjppddbalaaHdS
import Derived.Maps.AppendAt
import Derived.Laws.AppendOwnNone
import Derived.Laws.Rows
import Derived.RegionTactic
namespace Go.Proofs.Ytagjbjppddbalaa.Hd
open Go.RowKit
open Mem

/-- a row's cells -/
def rv (r : T) : List Value := [.int .i64 r.term, .int .i64 r.vote, .int .i64 r.base, .int .i64 r.bt, .int .i64 r.mem, .string r.snap, .slice r.log.ao r.log.n r.log.cap]
theorem rv_len (r : T) : (rv r).length = 7 := rfl
theorem flat_len : ∀ rs : List T, (rs.flatMap rv).length = rs.length * 7
  | [] => rfl
  | r :: l => by
    rw [List.flatMap_cons, List.length_append, rv_len, flat_len l, List.length_cons]
    omega
theorem flat_at : ∀ (rs : List T) (k p : Nat) (hk : k < rs.length), p < 7 → (rs.flatMap rv)[k * 7 + p]? = (rv rs[k])[p]?
  | r :: l, 0, p, _, hp => by
    rw [List.flatMap_cons, List.getElem?_append_left (by rw [rv_len]; omega), Nat.zero_mul, Nat.zero_add]
    rfl
  | r :: l, k + 1, p, hk, hp => by
    rw [List.flatMap_cons, List.getElem?_append_right (by rw [rv_len]; omega), rv_len, show (k + 1) * 7 + p - 7 = k * 7 + p by omega]
    exact flat_at l k p (by simpa using hk) hp
theorem one_cell (rs : List T) : ∀ v ∈ rs.flatMap rv, v.oneCell' = true := by
  intro v hv
  obtain ⟨r, _, h⟩ := List.mem_flatMap.1 hv
  unfold rv at h
  simp only [List.mem_cons, List.not_mem_nil, or_false] at h
  rcases h with rfl | rfl | rfl | rfl | rfl | rfl | rfl <;> rfl
theorem news_of {w : World} {b off : Nat} {rs : List T} (h : ∀ (k : Nat) (hk : k < rs.length), At w b (off + k * 7) rs[k]) (j : Nat) (u : Value) (hu : (rs.flatMap rv)[j]? = some u) : w.cell? ((⟨b, off, none⟩ : Addr).add j) = some u := by
  have hj : j < (rs.flatMap rv).length := by
    obtain ⟨hj, _⟩ := List.getElem?_eq_some_iff.1 hu
    exact hj
  rw [flat_len] at hj
  obtain ⟨k, p, rfl, hp⟩ : ∃ k p, j = k * 7 + p ∧ p < 7 := ⟨j / 7, j % 7, by omega, by omega⟩
  have hk : k < rs.length := by omega
  rw [flat_at rs k p hk hp] at hu
  have ha : (⟨b, off, none⟩ : Addr).add (k * 7 + p) = ⟨b, off + k * 7 + p, none⟩ := by
    unfold Addr.add
    split
    · rename_i e
      simp only [Addr.mk.injEq, true_and, and_true]
      omega
    · simp only [Addr.mk.injEq, true_and, and_true]
      omega
  rw [ha]
  obtain ⟨c0, c1, c2, c3, c4, c5, c6⟩ := h k hk
  have hp' : p = 0 ∨ p = 1 ∨ p = 2 ∨ p = 3 ∨ p = 4 ∨ p = 5 ∨ p = 6 := by omega
  unfold rv at hu
  rcases hp' with rfl | rfl | rfl | rfl | rfl | rfl | rfl
  all_goals simp at hu
  all_goals subst hu
  · exact c0
  · exact c1
  · exact c2
  · exact c3
  · exact c4
  · exact c5
  · exact c6
/-- rows of the call's own -/
def Own (w : World) (B : Nat) (v : Value) (xs : List T) : Prop := w.ownsRow B 78 7 v xs.length (xs.flatMap rv)
theorem own_nil (w : World) (B : Nat) : Own w B (.slice none 0 0) [] := ⟨rfl, .inl ⟨rfl, rfl⟩⟩
theorem own_ls {w : World} {B : Nat} {v : Value} {xs : List T} (h : Own w B v xs) (hs : ∀ r ∈ xs, Short r) : ∃ ao cap, v = .slice ao xs.length cap ∧ Ls w ao xs.length cap xs ∧ (∀ ad, ao = some ad → ∃ g, ad = ⟨g, 0, none⟩ ∧ B ≤ g) := by
  rcases h.2 with ⟨h', h2⟩ | ⟨g, cap, cur, h', hb, hg, hnc, hcm, hcs, htake⟩
  · have e : xs = [] := List.length_eq_zero_iff.1 h2
    subst e
    exact ⟨none, 0, h', ⟨rfl, Nat.le_refl _, by omega, fun _ => rfl, .inl rfl, hs⟩, fun ad k => by cases k⟩
  · refine ⟨some ⟨g, 0, none⟩, cap, h', ⟨rfl, hnc, hcm, fun k => (by cases k), .inr ⟨g, 0, rfl, fun k hk => ?_⟩, hs⟩, fun ad k => by cases k; exact ⟨g, rfl, hb⟩⟩
    have hcell : ∀ p, p < 7 → w.cell? ⟨g, 0 + k * 7 + p, none⟩ = (rv xs[k])[p]? := by
      intro p hp
      rw [Nat.zero_add, cell_of_row w g _ _ _ _ hg, ← flat_at xs k p hk hp, ← htake, List.getElem?_take_of_lt (by omega)]
      simp
    exact ⟨hcell 0 (by omega), hcell 1 (by omega), hcell 2 (by omega), hcell 3 (by omega), hcell 4 (by omega), hcell 5 (by omega), hcell 6 (by omega)⟩
/-- the zero row -/
def zero : T := ⟨0, 0, 0, 0, 0, .empty, ⟨none, 0, 0⟩⟩
def zeroV : Value := .agg #[.int .i64 0, .int .i64 0, .int .i64 0, .int .i64 0, .int .i64 0, .string .empty, .slice none 0 0]
theorem info : (Try.prog.info? 78).map (fun i => (i.zero, i.size, i.bytes)) = some (some zeroV, 7, 80) := by kernel_rfl
theorem own_ge {w : World} {B : Nat} {v : Value} {xs : List T} (h : Own w B v xs) : ∀ k, v.ownBlock = some k → B ≤ k := by
  intro k hk
  rcases h.2 with ⟨h', _⟩ | ⟨g, cap, cur, h', hb, _⟩
  · rw [h'] at hk
    cases hk
  · rw [h'] at hk
    simp only [Value.ownBlock, Option.some.injEq] at hk
    omega
theorem own_mono {w : World} {B C : Nat} {v : Value} {xs : List T} (h : Own w B v xs) (hc : C ≤ B) : Own w C v xs := by
  obtain ⟨h1, h2⟩ := h
  refine ⟨h1, ?_⟩
  rcases h2 with h2 | ⟨g, cap, cur, h', hb, h3⟩
  · exact .inl h2
  · exact .inr ⟨g, cap, cur, h', by omega, h3⟩
theorem own_empty {X : World} {B g : Nat} (hB : B ≤ g) (hg : X.heap[g]? = some (.cells #[] 78 (0, 0))) : Own X B (.slice (some ⟨g, 0, none⟩) 0 0) [] :=
  ⟨rfl, .inr ⟨g, 0, #[], rfl, hB, hg, Nat.le_refl _, Nat.zero_le _, rfl, rfl⟩⟩
theorem own_alloc {w : World} {B : Nat} {v : Value} {xs : List T} (h : Own w B v xs) (o : Obj) : Own (w.alloc o) B v xs := World.ownsRow.alloc h o
theorem own_drew {w : World} {B : Nat} {v : Value} {M : List T} (h : Own w B v M) : Own w.drew B v M := h
theorem own_below {w u : World} {B : Nat} {v : Value} {xs : List T} (h : Own w B v xs) (k : Below w.heap.size w u) : Own u B v xs := by
  obtain ⟨h1, h2⟩ := h
  refine ⟨h1, ?_⟩
  rcases h2 with h2 | ⟨g, cap, cur, h', hb, hg, h3⟩
  · exact .inl h2
  · refine .inr ⟨g, cap, cur, h', hb, ?_, h3⟩
    have hl : g < w.heap.size := by
      obtain ⟨hl, _⟩ := Array.getElem?_eq_some_iff.1 hg
      exact hl
    rw [k.block g hl]
    exact hg
/-- a row's block -/
def block (r : T) : Obj := .cells #[.int .i64 r.term, .int .i64 r.vote, .int .i64 r.base, .int .i64 r.bt, .int .i64 r.mem, .string r.snap, .slice r.log.ao r.log.n r.log.cap] 78 (0, 0)
theorem seg_block {X : World} {g : Nat} {r : T} (h : X.heap[g]? = some (block r)) : Seg X (some ⟨g, 0, none⟩) [r] := by
  refine .inr ⟨g, 0, rfl, fun k hk => ?_⟩
  obtain rfl : k = 0 := by simpa using hk
  unfold block at h
  refine ⟨?_, ?_, ?_, ?_, ?_, ?_, ?_⟩
  all_goals rw [cell_of_row X g _ _ _ _ h]
  all_goals rfl
end Go.Proofs.Ytagjbjppddbalaa.Hd
