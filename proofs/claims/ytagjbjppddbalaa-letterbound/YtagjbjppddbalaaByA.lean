/- BYTES OF THE CALL's OWN: append(own, bytes...), append(own, text...). -/
import Derived.Test.YtagjbjppddbalaaByK
namespace Go.Proofs.Ytagjbjppddbalaa.By
open Go.RowKit
open Mem

/-- bytes of the call's own -/
def Own (w : World) (B : Nat) (v : Value) (xs : List UInt8) : Prop := w.ownsRow B 5 1 v xs.length (xs.map bv)
theorem own_nil (w : World) (B : Nat) : Own w B (.slice none 0 0) [] := ⟨rfl, .inl ⟨rfl, rfl⟩⟩
theorem own_empty {X : World} {B g : Nat} (hB : B ≤ g) (hg : X.heap[g]? = some (.cells #[] 5 (0, 0))) : Own X B (.slice (some ⟨g, 0, none⟩) 0 0) [] :=
  ⟨rfl, .inr ⟨g, 0, #[], rfl, hB, hg, Nat.le_refl _, Nat.zero_le _, rfl, rfl⟩⟩
theorem own_ls {w : World} {B : Nat} {v : Value} {xs : List UInt8} (h : Own w B v xs) : ∃ ao cap, v = .slice ao xs.length cap ∧ Ls w ao xs.length cap xs ∧ (∀ ad, ao = some ad → ∃ g, ad = ⟨g, 0, none⟩ ∧ B ≤ g) := by
  rcases h.2 with ⟨h', h2⟩ | ⟨g, cap, cur, h', hb, hg, hnc, hcm, hcs, htake⟩
  · have e : xs = [] := List.length_eq_zero_iff.1 h2
    subst e
    exact ⟨none, 0, h', ls_nil w, fun ad k => by cases k⟩
  · refine ⟨some ⟨g, 0, none⟩, cap, h', ⟨rfl, hnc, hcm, fun k => (by cases k), .inr ⟨g, 0, rfl, fun k hk => ?_⟩⟩, fun ad k => by cases k; exact ⟨g, rfl, hb⟩⟩
    rw [Nat.zero_add, cell_of_row w g _ _ _ _ hg]
    rw [Nat.mul_one] at htake
    have e : (cur.toList.take xs.length)[k]? = (xs.map bv)[k]? := by rw [htake]
    rw [List.getElem?_take_of_lt hk, List.getElem?_map, List.getElem?_eq_getElem hk] at e
    simpa using e
theorem own_ge {w : World} {B : Nat} {v : Value} {xs : List UInt8} (h : Own w B v xs) : ∀ k, v.ownBlock = some k → B ≤ k := by
  intro k hk
  rcases h.2 with ⟨h', _⟩ | ⟨g, cap, cur, h', hb, _⟩
  · rw [h'] at hk
    cases hk
  · rw [h'] at hk
    simp only [Value.ownBlock, Option.some.injEq] at hk
    omega
theorem own_mono {w : World} {B C : Nat} {v : Value} {xs : List UInt8} (h : Own w B v xs) (hc : C ≤ B) : Own w C v xs := by
  obtain ⟨h1, h2⟩ := h
  refine ⟨h1, ?_⟩
  rcases h2 with h2 | ⟨g, cap, cur, h', hb, h3⟩
  · exact .inl h2
  · exact .inr ⟨g, cap, cur, h', by omega, h3⟩
theorem own_alloc {w : World} {B : Nat} {v : Value} {xs : List UInt8} (h : Own w B v xs) (o : Obj) : Own (w.alloc o) B v xs := World.ownsRow.alloc h o
theorem own_below {w u : World} {B : Nat} {v : Value} {xs : List UInt8} (h : Own w B v xs) (k : Below w.heap.size w u) : Own u B v xs := by
  obtain ⟨h1, h2⟩ := h
  refine ⟨h1, ?_⟩
  rcases h2 with h2 | ⟨g, cap, cur, h', hb, hg, h3⟩
  · exact .inl h2
  · refine .inr ⟨g, cap, cur, h', hb, ?_, h3⟩
    have hl : g < w.heap.size := by
      obtain ⟨hl, _⟩ := Array.getElem?_eq_some_iff.1 hg
      exact hl
    rw [k.block g hl]
    exact hg
theorem wpList_append {ops : Array Oper} {rest : List Oper} {o : Oper} {a : Act} {Q : Exit → Act → World → Prop} (w : World) (hgd : o.guard = none) (s x : Operand)
    (ho : o.op = .call { callee := .builtin .append, args := #[s, x], argTypes := #[25, 25] })
    (B : Nat) (v : Value) (xs : List UInt8) (hs : a.eval s = v) (hown : Own w B v xs)
    (ao : Option Addr) (n cap : Nat) (zs : List UInt8) (hx : a.eval x = .slice ao n cap) (hn : n = zs.length) (hnil : ao = none → cap = 0) (hsrc : Seg w ao zs) (hl : xs.length + n ≤ 140737488355328) (hb : B ≤ w.heap.size)
    (h : ∀ v' w1, Own w1 B v' (xs ++ zs) → w.grownBy w1 v.ownBlock → (v'.ownBlock = v.ownBlock ∨ v'.ownBlock = some w.heap.size) → wpList Try.prog ops Q rest (a.put o.dst v') w1) : wpList Try.prog ops Q (o :: rest) a w := by
  refine wpList_plain hgd fun K hK => ?_
  obtain ⟨i0, hi, hz0, hz1, hz2⟩ := info_parts info
  have hmx : maxLen = 9223372036854775807 := rfl
  cases ao with
  | none =>
    obtain rfl : cap = 0 := hnil rfl
    rcases hsrc with e | ⟨b, off, e, _⟩
    · obtain rfl : n = 0 := by rw [hn, e]; rfl
      have hrun := run_append_owned_none (P := Try.prog) (w := w) B 25 o.type 5 i0 1 Try.underlying25 hi v _ _ hown
      unfold Oper.wp
      simp [execOp, ho, resolve, invoke, builtin, hs, hx, hrun, Result.andThen]
      exact hK _ _ (h v w (by rw [e, List.append_nil]; exact hown) ⟨rfl, rfl, rfl, Nat.le_refl _, fun _ _ _ => rfl⟩ (.inl rfl))
    · cases e
  | some ad =>
    obtain ⟨v', w', hr, h2, h3, _, h5⟩ := run_append_own_at (P := Try.prog) w B 25 o.type 5 i0 (.int .u8 0) 1 1 Try.underlying25 hi hz0 hz1 hz2 rfl (by omega) v xs.length (xs.map bv) hown ad n cap (zs.map bv) (by rw [List.length_map, hn, Nat.mul_one]) (by
      rcases hsrc with e | ⟨b, off, e, hc⟩
      · rw [e]
        intro j u hu
        simp at hu
      · cases e
        exact fun j u hu => news_of hc j u hu) (one_cell zs) (by omega) (by omega) hb
    unfold Oper.wp execOp
    simp only [ho, resolve, invoke, builtin, Sem.run_bind, Sem.run_pure, Result.andThen_ok, List.map_toArray, List.map_cons, List.map_nil, hs, hx, hr]
    refine hK _ _ (h v' w' ?_ h3 h5)
    unfold Own
    rw [List.map_append, List.length_append, ← hn]
    exact h2
theorem seg_one {X : World} {g : Nat} {x : UInt8} {v : Value} (h : X.heap[g]? = some (.cells #[v] 5 (0, 0))) (e : bv x = v) : Seg X (some ⟨g, 0, none⟩) [x] := by
  refine .inr ⟨g, 0, rfl, fun k hk => ?_⟩
  obtain rfl : k = 0 := by simpa using hk
  rw [cell_of_row X g _ _ _ _ h]
  rw [List.getElem_cons_zero, e]
  rfl
end Go.Proofs.Ytagjbjppddbalaa.By
