/- append(own, bytes...): A LAW FOR THE WALK, own a row of the call's own, the bytes whatever lies in memory. -/
import Derived.Test.YtehdhhmaijogbaaSeg
import Derived.Maps.AppendAt
import Derived.Laws.AppendOwnNone
namespace Go.Proofs.Ytehdhhmaijogbaa
open Go.RowKit

theorem own_of_row {w : World} {g m cp : Nat} {xs : List Value} {spare : List Value} (hrow : Row w g (xs ++ spare)) (hm : m = xs.length) (hcp : cp = m + spare.length) (hle : cp ≤ maxLen) :
    w.ownsRow g 5 1 (.slice (some ⟨g, 0, none⟩) m cp) m xs :=
  ⟨by simpa using hm.symm, .inr ⟨g, cp, (xs ++ spare).toArray, rfl, Nat.le_refl _, hrow, by omega, hle, by simp; omega, by rw [Nat.mul_one, hm]; simp⟩⟩
theorem row_of_own {w : World} {base m g cp : Nat} {xs : List Value} (h : w.ownsRow base 5 1 (.slice (some ⟨g, 0, none⟩) m cp) m xs) :
    ∃ spare, Row w g (xs ++ spare) ∧ cp = m + spare.length ∧ cp ≤ maxLen := by
  rcases h.2 with ⟨h', _⟩ | ⟨g', cap', cur, h', _, hg, hnc, hcm, hcs, htake⟩
  · simp at h'
  · simp only [Value.slice.injEq, Option.some.injEq, Addr.mk.injEq, and_true, true_and] at h'
    obtain ⟨rfl, rfl⟩ := h'
    refine ⟨cur.toList.drop m, ?_, ?_, hcm⟩
    · rw [← htake, Nat.mul_one, List.take_append_drop]
      simpa [Row] using hg
    · simp [hcs]
      omega
theorem wpList_append_bytes {ops : Array Oper} {rest : List Oper} {o : Oper} {a : Act} {Q : Exit → Act → World → Prop} (w : World) (hgd : o.guard = none) (s x : Operand)
    (ho : o.op = .call { callee := .builtin .append, args := #[s, x], argTypes := #[22, 22] })
    (g0 m cp0 : Nat) (xs : List Value) (spare : List Value) (hs : a.eval s = .slice (some ⟨g0, 0, none⟩) m cp0) (hrow : Row w g0 (xs ++ spare)) (hm : m = xs.length) (hcp : cp0 = m + spare.length) (hcm : cp0 ≤ 9223372036854775807)
    (ao : Option Addr) (n cap : Nat) (bs : List UInt8) (hx : a.eval x = .slice ao n cap) (hn : n = bs.length) (hnil : ao = none → cap = 0) (hsrc : Seg w ao bs) (hl : m + n ≤ 140737488355328)
    (h : ∀ g cp (spare' : List Value) w1, Row w1 g (xs ++ bs.map bv ++ spare') → (g = g0 ∨ g = w.heap.size) → cp = m + n + spare'.length → cp ≤ 9223372036854775807 → w.grownBy w1 (some g0) → wpList Try.prog ops Q rest (a.put o.dst (.slice (some ⟨g, 0, none⟩) (m + n) cp)) w1) :
    wpList Try.prog ops Q (o :: rest) a w := by
  obtain ⟨i0, hi, hz0, hz1, hz2⟩ := info_parts info8
  have hmx : maxLen = 9223372036854775807 := rfl
  have hown := own_of_row hrow hm hcp (by omega)
  have hlt := hrow.lt
  cases ao with
  | none =>
    obtain rfl : cap = 0 := hnil rfl
    rcases hsrc with rfl | ⟨b, off, e, _⟩
    · obtain rfl : n = 0 := hn
      refine wpList_append_own_none hgd s x 22 ho g0 5 i0 1 Try.underlying22 hi _ m xs hs hown hx ?_
      exact h g0 cp0 spare w (by simpa using hrow) (.inl rfl) (by omega) (by omega) ⟨rfl, rfl, rfl, Nat.le_refl _, fun _ _ _ => rfl⟩
    · cases e
  | some ad =>
    refine wpList_append_own_at w hgd s x 22 ho g0 5 i0 (.int .u8 0) 1 1 Try.underlying22 hi hz0 hz1 hz2 rfl (by omega) _ m xs hs hown ad n cap (bs.map bv) hx (by simp; omega) ?_ (one_bv bs) (by omega) (by omega) (by omega) ?_
    · intro j u hu
      rcases hsrc with rfl | ⟨b, off, e, hc⟩
      · simp at hu
      · cases e
        obtain ⟨hj, rfl⟩ := List.getElem?_eq_some_iff.1 hu
        simp only [List.length_map] at hj
        have h1 := hc j hj
        by_cases hj0 : j = 0
        · subst hj0
          simpa [Addr.add, bv] using h1
        · simpa [Addr.add, bv, hj0] using h1
    · intro v' w' hown' hgrow hnl hat
      rcases hown'.2 with ⟨hv, _⟩ | ⟨g, cp, cur, rfl, hgb, _, _, _, _, _⟩
      · have := hnl.1 hv
        simp at this
      · obtain ⟨spare', hr, hc, hcm'⟩ := row_of_own hown'
        refine h g cp spare' w' hr ?_ hc (by omega) hgrow
        rcases hat with e | e
        · simp [Value.ownBlock] at e
          exact .inl e
        · simp [Value.ownBlock] at e
          exact .inr e
theorem Row.grown {w w' : World} {g : Nat} {cs : List Value} {row : Nat} (h : Row w g cs) (hg : w.grownBy w' (some row)) (hne : g ≠ row) : Row w' g cs :=
  (hg.block g h.lt (by simpa using hne)).trans h
end Go.Proofs.Ytehdhhmaijogbaa
