/- ROWS OF THE CALL's OWN BESIDE OTHERS: what an append to one leaves of the other. -/
import Derived.Test.YtfmfeagfinnmmaaKdT
import Derived.Test.YtfmfeagfinnmmaaKMakes
import Derived.Test.YtfmfeagfinnmmaaKMustW
namespace Go.Proofs.Ytfmfeagfinnmmaa
open Go.RowKit
open Vl (T)
open Mem Tg

theorem rows_lt {w : World} {B e s : Nat} {v : Value} {n : Nat} {xs : List Value} (h : w.ownsRow B e s v n xs) : ∀ k, v.ownBlock = some k → B ≤ k ∧ k < w.heap.size := by
  intro k hk
  rcases h.2 with ⟨h', _⟩ | ⟨g, cap, cur, h', hb, hg, _⟩
  · rw [h'] at hk
    cases hk
  · rw [h'] at hk
    simp only [Value.ownBlock, Option.some.injEq] at hk
    obtain ⟨hl, _⟩ := Array.getElem?_eq_some_iff.1 hg
    omega
theorem rows_grown {w w' : World} {B e s : Nat} {v : Value} {n : Nat} {xs : List Value} {row : Option Nat} (h : w.ownsRow B e s v n xs) (gr : w.grownBy w' row) (hr : ∀ k, v.ownBlock = some k → row ≠ some k) : w'.ownsRow B e s v n xs := by
  obtain ⟨h1, h2⟩ := h
  refine ⟨h1, ?_⟩
  rcases h2 with h2 | ⟨g, cap, cur, h', hb, hg, h3⟩
  · exact .inl h2
  · refine .inr ⟨g, cap, cur, h', hb, ?_, h3⟩
    have hl : g < w.heap.size := by
      obtain ⟨hl, _⟩ := Array.getElem?_eq_some_iff.1 hg
      exact hl
    rw [gr.block g hl (fun k => hr g (by rw [h']; rfl) k.symm)]
    exact hg
theorem rows_set {w : World} {B e s : Nat} {v : Value} {n : Nat} {xs : List Value} (h : w.ownsRow B e s v n xs) {p o : Nat} (hp : p < B) (x : Value) : (w.setCell ⟨p, o, none⟩ x).ownsRow B e s v n xs := by
  obtain ⟨h1, h2⟩ := h
  refine ⟨h1, ?_⟩
  rcases h2 with h2 | ⟨g, cap, cur, h', hb, hg, h3⟩
  · exact .inl h2
  · refine .inr ⟨g, cap, cur, h', hb, ?_, h3⟩
    have hl : g < w.heap.size := by
      obtain ⟨hl, _⟩ := Array.getElem?_eq_some_iff.1 hg
      exact hl
    rw [← hg]
    exact heap_setCell_other w ⟨p, o, none⟩ g x (by show g ≠ p; omega)
/-- a slice of one value that was just built -/
theorem own_one (w : World) (x : T) (B : Nat) (hB : B ≤ w.heap.size) : Vl.Own (w.alloc (Vl.block x)) B (.slice (some ⟨w.heap.size, 0, none⟩) 1 1) [x] :=
  ⟨rfl, .inr ⟨w.heap.size, 1, _, rfl, hB, heap_alloc_new w _, Nat.le_refl _, by unfold maxLen; omega, rfl, rfl⟩⟩
theorem cell_grown {X y : World} {row : Option Nat} {p o : Nat} {x : Value} (gr : X.grownBy y row) (h : X.cell? ⟨p, o, none⟩ = some x) (hr : row ≠ some p) : y.cell? ⟨p, o, none⟩ = some x := by
  rw [World.cell?_of_block (w := X) (w' := y) (a := ⟨p, o, none⟩) (gr.block p (cell_lt h) (fun k => hr k.symm))]
  exact h
theorem frozen_grown {X y : World} {row : Option Nat} {p o q : Nat} {x : Value} (gr : X.grownBy y row) (h : X.cell? ⟨p, q, none⟩ = some x) (hf : X.frozen? ⟨p, o, none⟩ = false) (hr : row ≠ some p) : y.frozen? ⟨p, o, none⟩ = false := by
  rw [World.frozen?_of_block (w := X) (w' := y) (a := ⟨p, o, none⟩) (gr.block p (cell_lt h) (fun k => hr k.symm))]
  exact hf
/-- a thing that lies apart from a slice's own row, behind an append to that slice -/
theorem Tg.Is.past {A : Nat → Prop} {wr X y : World} {l v1 : Value} {t : Th} {v : Value} (h : Is (fun b => A b ∧ l.ownBlock ≠ some b) wr t v) (hbx : Below wr.heap.size wr X) (gr : X.grownBy y l.ownBlock) (hw1 : v1.ownBlock = l.ownBlock ∨ v1.ownBlock = some X.heap.size) : Is (fun b => A b ∧ v1.ownBlock ≠ some b) y t v := by
  have hs := hbx.size
  refine ((h.frame (A' := fun b => (A b ∧ l.ownBlock ≠ some b) ∧ b < wr.heap.size) (fun _ _ _ _ e => e) (fun _ _ _ e a => ⟨a, cell_lt e⟩)).stays hbx).grown gr (fun b a => a.1.2) (fun b _ a => ⟨a.1.1, fun k => ?_⟩)
  rcases hw1 with h | h
  · exact a.1.2 (h ▸ k)
  · rw [h] at k
    injection k with k
    have := a.2
    omega
end Go.Proofs.Ytfmfeagfinnmmaa
