/- MEMORY BEHIND A WORLD's END: what every kit of rows takes. -/
import Derived.Test.YtnelakpagjdcdaaPlain
import Derived.Test.YtnelakpagjdcdaaTxtN
namespace Go.Proofs.Ytnelakpagjdcdaa.Mem
open Go.RowKit

theorem below_box {w0 w : World} (h : Below w0.heap.size w0 w) (o : Obj) : Below w0.heap.size w0 (w.alloc o) := h.alloc h.size o
theorem bcell {W w1 : World} (hb : Below W.heap.size W w1) : (∀ b o, b < W.heap.size → w1.cell? ⟨b, o, none⟩ = W.cell? ⟨b, o, none⟩) ∧ (∀ b o, b < W.heap.size → w1.frozen? ⟨b, o, none⟩ = W.frozen? ⟨b, o, none⟩) :=
  ⟨fun b o h => hb.cell (p := ⟨b, o, none⟩) h, fun b o h => hb.frozen (p := ⟨b, o, none⟩) h⟩
theorem cell_lt {u : World} {b o : Nat} {v : Value} (h : u.cell? ⟨b, o, none⟩ = some v) : b < u.heap.size := by
  by_cases k : b < u.heap.size
  · exact k
  · exfalso
    simp [World.cell?, Array.getElem?_eq_none (Nat.le_of_not_lt k)] at h
theorem bchain {w0 u v : World} (h : Below w0.heap.size w0 u) (k : Below u.heap.size u v) : Below w0.heap.size w0 v := h.trans (k.mono h.size)
theorem bset {w0 u : World} {p : Nat} (h : Below w0.heap.size w0 u) (hp : w0.heap.size ≤ p) (o : Nat) (x : Value) : Below w0.heap.size w0 (u.setCell ⟨p, o, none⟩ x) := h.setCell hp x
theorem heap_old {x : World} {o o' : Obj} {g : Nat} (h : x.heap[g]? = some o) : (x.alloc o').heap[g]? = some o := by
  have hg : g < x.heap.size := by
    obtain ⟨hg, _⟩ := Array.getElem?_eq_some_iff.1 h
    exact hg
  rw [← h]
  exact (((Below.refl x.heap.size x).alloc (Nat.le_refl _) o').block g hg)
theorem heap_next (x : World) (o o' : Obj) : ((x.alloc o).alloc o').heap[x.heap.size + 1]? = some o' := by
  have h := heap_alloc_new (x.alloc o) o'
  have e : (x.alloc o).heap.size = x.heap.size + 1 := by simp
  rw [e] at h
  exact h
theorem blk_keep {X y : World} {row : Option Nat} {g : Nat} {o : Obj} (gr : X.grownBy y row) (h : X.heap[g]? = some o) (hne : some g ≠ row) : y.heap[g]? = some o := by
  have hg : g < X.heap.size := by
    obtain ⟨hg, _⟩ := Array.getElem?_eq_some_iff.1 h
    exact hg
  rw [gr.block g hg hne]
  exact h
end Go.Proofs.Ytnelakpagjdcdaa.Mem
