/- api.Entry: append(own, rows...): A LAW FOR THE WALK, at a plain list and at a step of a region that draws its order. (By genrows.py.) -/
import Derived.Test.YtnelakpagjdcdaaEtS
import Derived.Maps.AppendAt
import Derived.Laws.AppendOwnNone
import Derived.Laws.Rows
import Derived.RegionTactic
namespace Go.Proofs.Ytnelakpagjdcdaa.Et
open Go.RowKit
open Mem

/-- a row's cells -/
def rv (r : T) : List Value := [.int .i64 r.term, .int .i64 r.mem, .string r.data]
theorem rv_len (r : T) : (rv r).length = 3 := rfl
theorem flat_len : ∀ rs : List T, (rs.flatMap rv).length = rs.length * 3
  | [] => rfl
  | r :: l => by
    rw [List.flatMap_cons, List.length_append, rv_len, flat_len l, List.length_cons]
    omega
theorem flat_at : ∀ (rs : List T) (k p : Nat) (hk : k < rs.length), p < 3 → (rs.flatMap rv)[k * 3 + p]? = (rv rs[k])[p]?
  | r :: l, 0, p, _, hp => by
    rw [List.flatMap_cons, List.getElem?_append_left (by rw [rv_len]; omega), Nat.zero_mul, Nat.zero_add]
    rfl
  | r :: l, k + 1, p, hk, hp => by
    rw [List.flatMap_cons, List.getElem?_append_right (by rw [rv_len]; omega), rv_len, show (k + 1) * 3 + p - 3 = k * 3 + p by omega]
    exact flat_at l k p (by simpa using hk) hp
theorem one_cell (rs : List T) : ∀ v ∈ rs.flatMap rv, v.oneCell' = true := by
  intro v hv
  obtain ⟨r, _, h⟩ := List.mem_flatMap.1 hv
  unfold rv at h
  simp only [List.mem_cons, List.not_mem_nil, or_false] at h
  rcases h with rfl | rfl | rfl <;> rfl
theorem news_of {w : World} {b off : Nat} {rs : List T} (h : ∀ (k : Nat) (hk : k < rs.length), At w b (off + k * 3) rs[k]) (j : Nat) (u : Value) (hu : (rs.flatMap rv)[j]? = some u) : w.cell? ((⟨b, off, none⟩ : Addr).add j) = some u := by
  have hj : j < (rs.flatMap rv).length := by
    obtain ⟨hj, _⟩ := List.getElem?_eq_some_iff.1 hu
    exact hj
  rw [flat_len] at hj
  obtain ⟨k, p, rfl, hp⟩ : ∃ k p, j = k * 3 + p ∧ p < 3 := ⟨j / 3, j % 3, by omega, by omega⟩
  have hk : k < rs.length := by omega
  rw [flat_at rs k p hk hp] at hu
  have ha : (⟨b, off, none⟩ : Addr).add (k * 3 + p) = ⟨b, off + k * 3 + p, none⟩ := by
    unfold Addr.add
    split
    · rename_i e
      simp only [Addr.mk.injEq, true_and, and_true]
      omega
    · simp only [Addr.mk.injEq, true_and, and_true]
      omega
  rw [ha]
  obtain ⟨c0, c1, c2⟩ := h k hk
  have hp' : p = 0 ∨ p = 1 ∨ p = 2 := by omega
  unfold rv at hu
  rcases hp' with rfl | rfl | rfl
  all_goals simp at hu
  all_goals subst hu
  · exact c0
  · exact c1
  · exact c2
/-- rows of the call's own -/
def Own (w : World) (B : Nat) (v : Value) (xs : List T) : Prop := w.ownsRow B 35 3 v xs.length (xs.flatMap rv)
theorem own_nil (w : World) (B : Nat) : Own w B (.slice none 0 0) [] := ⟨rfl, .inl ⟨rfl, rfl⟩⟩
theorem own_ls {w : World} {B : Nat} {v : Value} {xs : List T} (h : Own w B v xs) (hs : ∀ r ∈ xs, Short r) : ∃ ao cap, v = .slice ao xs.length cap ∧ Ls w ao xs.length cap xs ∧ (∀ ad, ao = some ad → ∃ g, ad = ⟨g, 0, none⟩ ∧ B ≤ g) := by
  rcases h.2 with ⟨h', h2⟩ | ⟨g, cap, cur, h', hb, hg, hnc, hcm, hcs, htake⟩
  · have e : xs = [] := List.length_eq_zero_iff.1 h2
    subst e
    exact ⟨none, 0, h', ⟨rfl, Nat.le_refl _, by omega, fun _ => rfl, .inl rfl, hs⟩, fun ad k => by cases k⟩
  · refine ⟨some ⟨g, 0, none⟩, cap, h', ⟨rfl, hnc, hcm, fun k => (by cases k), .inr ⟨g, 0, rfl, fun k hk => ?_⟩, hs⟩, fun ad k => by cases k; exact ⟨g, rfl, hb⟩⟩
    have hcell : ∀ p, p < 3 → w.cell? ⟨g, 0 + k * 3 + p, none⟩ = (rv xs[k])[p]? := by
      intro p hp
      rw [Nat.zero_add, cell_of_row w g _ _ _ _ hg, ← flat_at xs k p hk hp, ← htake, List.getElem?_take_of_lt (by omega)]
      simp
    exact ⟨hcell 0 (by omega), hcell 1 (by omega), hcell 2 (by omega)⟩
/-- the zero row -/
def zero : T := ⟨0, 0, .empty⟩
def zeroV : Value := .agg #[.int .i64 0, .int .i64 0, .string .empty]
theorem info : (Try.prog.info? 35).map (fun i => (i.zero, i.size, i.bytes)) = some (some zeroV, 3, 32) := by kernel_rfl
theorem wp_append {o : Oper} {a : Act} {K : Act → World → Prop} {Q : Exit → Act → World → Prop} (w : World) (s x : Operand)
    (ho : o.op = .call { callee := .builtin .append, args := #[s, x], argTypes := #[30, 30] })
    (B : Nat) (v : Value) (xs : List T) (hs : a.eval s = v) (hown : Own w B v xs)
    (ao : Option Addr) (n cap : Nat) (zs : List T) (hx : a.eval x = .slice ao n cap) (hn : n = zs.length) (hnil : ao = none → cap = 0) (hsrc : Seg w ao zs) (hl : (xs.length + n) * 32 ≤ 140737488355328) (hb : B ≤ w.heap.size)
    (h : ∀ v' w1, Own w1 B v' (xs ++ zs) → w.grownBy w1 v.ownBlock → (v'.ownBlock = v.ownBlock ∨ v'.ownBlock = some w.heap.size) → K (a.put o.dst v') w1) : o.wp Try.prog a w K Q := by
  have hzs : zeroV.cells.size = 3 := rfl
  obtain ⟨i0, hi, hz0, hz1, hz2⟩ := info_parts info
  have hmx : maxLen = 9223372036854775807 := rfl
  have empty : zs = [] → n = 0 → Own w B v (xs ++ zs) := by
    intro e _
    rw [e, List.append_nil]
    exact hown
  cases ao with
  | none =>
    obtain rfl : cap = 0 := hnil rfl
    rcases hsrc with e | ⟨b, off, e, _⟩
    · obtain rfl : n = 0 := by rw [hn, e]; rfl
      have hrun := run_append_owned_none (P := Try.prog) (w := w) B 30 o.type 35 i0 3 Try.underlying30 hi v _ _ hown
      unfold Oper.wp
      simp [execOp, ho, resolve, invoke, builtin, hs, hx, hrun, Result.andThen]
      exact h v w (empty e rfl) ⟨rfl, rfl, rfl, Nat.le_refl _, fun _ _ _ => rfl⟩ (.inl rfl)
    · cases e
  | some ad =>
    obtain ⟨v', w', hr, h2, h3, _, h5⟩ := run_append_own_at (P := Try.prog) w B 30 o.type 35 i0 zeroV 3 32 Try.underlying30 hi hz0 hz1 hz2 hzs (by omega) v xs.length (xs.flatMap rv) hown ad n cap (zs.flatMap rv) (by rw [flat_len, hn]) (by
      rcases hsrc with e | ⟨b, off, e, hc⟩
      · rw [e]
        intro j u hu
        simp at hu
      · cases e
        exact fun j u hu => news_of hc j u hu) (one_cell zs) (by omega) hl hb
    unfold Oper.wp execOp
    simp only [ho, resolve, invoke, builtin, Sem.run_bind, Sem.run_pure, Result.andThen_ok, List.map_toArray, List.map_cons, List.map_nil, hs, hx, hr]
    refine h v' w' ?_ h3 h5
    unfold Own
    rw [List.flatMap_append, List.length_append, ← hn]
    exact h2
theorem wpList_append {ops : Array Oper} {rest : List Oper} {o : Oper} {a : Act} {Q : Exit → Act → World → Prop} (w : World) (hgd : o.guard = none) (s x : Operand)
    (ho : o.op = .call { callee := .builtin .append, args := #[s, x], argTypes := #[30, 30] })
    (B : Nat) (v : Value) (xs : List T) (hs : a.eval s = v) (hown : Own w B v xs)
    (ao : Option Addr) (n cap : Nat) (zs : List T) (hx : a.eval x = .slice ao n cap) (hn : n = zs.length) (hnil : ao = none → cap = 0) (hsrc : Seg w ao zs) (hl : (xs.length + n) * 32 ≤ 140737488355328) (hb : B ≤ w.heap.size)
    (h : ∀ v' w1, Own w1 B v' (xs ++ zs) → w.grownBy w1 v.ownBlock → (v'.ownBlock = v.ownBlock ∨ v'.ownBlock = some w.heap.size) → wpList Try.prog ops Q rest (a.put o.dst v') w1) : wpList Try.prog ops Q (o :: rest) a w :=
  wpList_plain hgd fun _ hK => wp_append w s x ho B v xs hs hown ao n cap zs hx hn hnil hsrc hl hb fun v' w1 h1 h2 h3 => hK _ _ (h v' w1 h1 h2 h3)
theorem own_ge {w : World} {B : Nat} {v : Value} {xs : List T} (h : Own w B v xs) : ∀ k, v.ownBlock = some k → B ≤ k := by
  intro k hk
  rcases h.2 with ⟨h', _⟩ | ⟨g, cap, cur, h', hb, _⟩
  · rw [h'] at hk
    cases hk
  · rw [h'] at hk
    simp only [Value.ownBlock, Option.some.injEq] at hk
    omega
theorem own_mono {w : World} {B C : Nat} {v : Value} {xs : List T} (h : Own w B v xs) (hc : C ≤ B) : Own w C v xs := by
  obtain ⟨h1, h2⟩ := h
  refine ⟨h1, ?_⟩
  rcases h2 with h2 | ⟨g, cap, cur, h', hb, h3⟩
  · exact .inl h2
  · exact .inr ⟨g, cap, cur, h', by omega, h3⟩
theorem own_empty {X : World} {B g : Nat} (hB : B ≤ g) (hg : X.heap[g]? = some (.cells #[] 35 (0, 0))) : Own X B (.slice (some ⟨g, 0, none⟩) 0 0) [] :=
  ⟨rfl, .inr ⟨g, 0, #[], rfl, hB, hg, Nat.le_refl _, Nat.zero_le _, rfl, rfl⟩⟩
theorem own_alloc {w : World} {B : Nat} {v : Value} {xs : List T} (h : Own w B v xs) (o : Obj) : Own (w.alloc o) B v xs := World.ownsRow.alloc h o
theorem own_drew {w : World} {B : Nat} {v : Value} {M : List T} (h : Own w B v M) : Own w.drew B v M := h
theorem own_below {w u : World} {B : Nat} {v : Value} {xs : List T} (h : Own w B v xs) (k : Below w.heap.size w u) : Own u B v xs := by
  obtain ⟨h1, h2⟩ := h
  refine ⟨h1, ?_⟩
  rcases h2 with h2 | ⟨g, cap, cur, h', hb, hg, h3⟩
  · exact .inl h2
  · refine .inr ⟨g, cap, cur, h', hb, ?_, h3⟩
    have hl : g < w.heap.size := by
      obtain ⟨hl, _⟩ := Array.getElem?_eq_some_iff.1 hg
      exact hl
    rw [k.block g hl]
    exact hg
/-- a row's block -/
def block (r : T) : Obj := .cells #[.int .i64 r.term, .int .i64 r.mem, .string r.data] 35 (0, 0)
theorem seg_block {X : World} {g : Nat} {r : T} (h : X.heap[g]? = some (block r)) : Seg X (some ⟨g, 0, none⟩) [r] := by
  refine .inr ⟨g, 0, rfl, fun k hk => ?_⟩
  obtain rfl : k = 0 := by simpa using hk
  unfold block at h
  refine ⟨?_, ?_, ?_⟩
  all_goals rw [cell_of_row X g _ _ _ _ h]
  all_goals rfl
theorem step_append {ops : Array Oper} {o : Oper} {a : Act} {K : Act → World → Prop} {Q : Exit → Act → World → Prop} {E : Prop} (X x : World) (hX : Below x.heap.size x X) (hgd : o.guard = none) (s t : Operand)
    (ho : o.op = .call { callee := .builtin .append, args := #[s, t], argTypes := #[30, 30] })
    (v : Value) (xs : List T) (hs : a.eval s = v) (hown : Own X x.heap.size v xs)
    (ao : Option Addr) (n cap : Nat) (zs : List T) (ht : a.eval t = .slice ao n cap) (hn : n = zs.length) (hnil : ao = none → cap = 0) (hsrc : Seg X ao zs) (hl : xs.length + n ≤ 100000)
    (h : ∀ v' w1, Own w1 x.heap.size v' (xs ++ zs) → X.grownBy w1 v.ownBlock → Below x.heap.size x w1 → K (a.put o.dst v') w1) :
    if Region.wanted o (yielded ops a.tmps) = true then Oper.wp Try.prog o a X K Q else E := by
  have hw : Region.wanted o (yielded ops a.tmps) = true := by simp [Region.wanted, hgd]
  rw [if_pos hw]
  exact wp_append X s t ho x.heap.size v xs hs hown ao n cap zs ht hn hnil hsrc (by omega) hX.size fun v' w1 h1 h2 _ => h v' w1 h1 h2 (hX.grown h2 hX.size (own_ge hown))
end Go.Proofs.Ytnelakpagjdcdaa.Et
