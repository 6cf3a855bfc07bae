/- WORLDS IN WHICH ONLY SOME BLOCKS HAVE TURNED; what a call owns stays where its block stays. -/
import Derived.Test.YtagjbjppddbalaaMemK
import Derived.Laws.AppendOwnNone
set_option linter.unusedVariables false
namespace Go.Proofs.Ytagjbjppddbalaa
open Go.RowKit
open Mem

theorem rows_keep {w u : World} {B e k : Nat} {v : Value} {n : Nat} {xs : List Value} (h : w.ownsRow B e k v n xs) (hb : ∀ g, v.ownBlock = some g → u.heap[g]? = w.heap[g]?) : u.ownsRow B e k v n xs := by
  obtain ⟨h1, h2⟩ := h
  refine ⟨h1, ?_⟩
  rcases h2 with h2 | ⟨g, cap, cur, h', hB, hg, h3⟩
  · exact .inl h2
  · exact .inr ⟨g, cap, cur, h', hB, (hb g (by rw [h']; rfl)).trans hg, h3⟩
theorem rows_nil {w : World} {B e k : Nat} {v : Value} {n : Nat} {xs : List Value} (h : w.ownsRow B e k v n xs) (hn : v.ownBlock = none) : v = .slice none 0 0 ∧ n = 0 := by
  rcases h.2 with h2 | ⟨g, cap, cur, h', hB, hg, h3⟩
  · exact h2
  · rw [h'] at hn
    cases hn
/-- only the blocks that Q names have turned -/
structure UpdQ (Q : Nat → Prop) (u v : World) : Prop where
  size : u.heap.size ≤ v.heap.size
  block : ∀ b, b < u.heap.size → ¬ Q b → v.heap[b]? = u.heap[b]?
  below : ∀ w0, Below w0.heap.size w0 u → (∀ b, Q b → w0.heap.size ≤ b) → Below w0.heap.size w0 v
theorem UpdQ.of {Q : Nat → Prop} {u v : World} (h : Below u.heap.size u v) : UpdQ Q u v := ⟨h.size, fun b hb _ => h.block b hb, fun _ k _ => bchain k h⟩
theorem UpdQ.refl (Q : Nat → Prop) (u : World) : UpdQ Q u u := UpdQ.of (Below.refl _ _)
theorem UpdQ.trans {Q : Nat → Prop} {u v w : World} (h : UpdQ Q u v) (k : UpdQ Q v w) : UpdQ Q u w :=
  ⟨Nat.le_trans h.size k.size, fun b hb hq => (k.block b (Nat.lt_of_lt_of_le hb h.size) hq).trans (h.block b hb hq), fun w0 a c => k.below w0 (h.below w0 a c) c⟩
theorem UpdQ.mono {Q R : Nat → Prop} {u v : World} (h : UpdQ Q u v) (k : ∀ b, Q b → R b) : UpdQ R u v := ⟨h.size, fun b hb hr => h.block b hb fun q => hr (k b q), fun w0 a c => h.below w0 a fun b q => c b (k b q)⟩
theorem UpdQ.set {Q : Nat → Prop} {g : Nat} (u : World) (hg : Q g) (o : Nat) (x : Value) : UpdQ Q u (u.setCell ⟨g, o, none⟩ x) :=
  ⟨by simp, fun b _ hq => heap_setCell_other u ⟨g, o, none⟩ b x (fun e => hq (by rw [show b = g from e]; exact hg)), fun w0 a c => a.setCell (c g hg) x⟩
theorem UpdQ.belowT {Q : Nat → Prop} {u v w : World} (h : UpdQ Q u v) (k : Below v.heap.size v w) : UpdQ Q u w := h.trans (UpdQ.of k)
theorem UpdQ.rows {Q : Nat → Prop} {u v : World} {B e k : Nat} {x : Value} {n : Nat} {xs : List Value} (f : UpdQ Q u v) (h : u.ownsRow B e k x n xs) (hQ : ∀ g, x.ownBlock = some g → ¬ Q g) : v.ownsRow B e k x n xs :=
  rows_keep h fun g hg => f.block g (World.ownsRow.lt h g hg).2 (hQ g hg)
/-- the blocks that P names, and all from a world's end on -/
def nw (P : Nat → Prop) (w : World) (b : Nat) : Prop := P b ∨ w.heap.size ≤ b
theorem nw_nw {P : Nat → Prop} {u w : World} (h : u.heap.size ≤ w.heap.size) (b : Nat) (k : nw (nw P u) w b) : nw P u b := k.elim id fun q => .inr (Nat.le_trans h q)
end Go.Proofs.Ytagjbjppddbalaa
