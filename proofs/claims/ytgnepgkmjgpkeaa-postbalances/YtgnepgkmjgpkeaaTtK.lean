/- api.Total: IN A BLOCK OF ITS OWN: three numbers and the slice of its parts. -/
import Derived.Test.YtgnepgkmjgpkeaaPtM
import Derived.Test.YtgnepgkmjgpkeaaTotK
namespace Go.Proofs.Ytgnepgkmjgpkeaa.Tt
open Go.RowKit
open Mem

/-- a total as it is handed over -/
def val (n t s : Int) (v : Value) : Value := .agg #[.int .i64 n, .int .i64 t, .int .i64 s, v]
/-- a total lies in a block of its own -/
def At (u : World) (g : Nat) (n t s : Int) (v : Value) : Prop := u.heap[g]? = some (.cells #[.int .i64 n, .int .i64 t, .int .i64 s, v] 30 (0, 0))
def box (w : World) (n t s : Int) (v : Value) : World := w.alloc (.cells #[.int .i64 n, .int .i64 t, .int .i64 s, v] 30)
theorem at_box (w : World) (n t s : Int) (v : Value) : At (box w n t s v) w.heap.size n t s v := heap_alloc_new w _
theorem box_size (w : World) (n t s : Int) (v : Value) : (box w n t s v).heap.size = w.heap.size + 1 := by
  unfold box
  simp
theorem below_own (w : World) (n t s : Int) (v : Value) : Below w.heap.size w (box w n t s v) := (Below.refl _ _).alloc (Nat.le_refl _) _
section
variable {u u' : World} {g : Nat} {n t s : Int} {v : Value}
theorem At.lt (h : At u g n t s v) : g < u.heap.size := by
  obtain ⟨hl, _⟩ := Array.getElem?_eq_some_iff.1 h
  exact hl
theorem At.below (h : At u g n t s v) (b : Below u.heap.size u u') : At u' g n t s v := (b.block g h.lt).trans h
theorem At.cells (h : At u g n t s v) : u.cell? ⟨g, 0, none⟩ = some (.int .i64 n) ∧ u.cell? ⟨g, 1, none⟩ = some (.int .i64 t) ∧ u.cell? ⟨g, 2, none⟩ = some (.int .i64 s) ∧ u.cell? ⟨g, 3, none⟩ = some v := by
  refine ⟨?_, ?_, ?_, ?_⟩
  all_goals
    rw [cell_of_row u g _ _ _ _ h]
    rfl
theorem At.frozen (h : At u g n t s v) (k : Nat) : u.frozen? ⟨g, k, none⟩ = false := frozen_of_row u g k _ _ h
theorem At.far (h : At u g n t s v) {b : Nat} (hne : g ≠ b) (o : Nat) (x : Value) : At (u.setCell ⟨b, o, none⟩ x) g n t s v := by
  unfold At
  rw [heap_setCell_other u ⟨b, o, none⟩ g x hne]
  exact h
theorem At.set0 (h : At u g n t s v) (x : Int) : At (u.setCell ⟨g, 0, none⟩ (.int .i64 x)) g x t s v := (heap_setCell_same u g 0 _ _ _ h).trans rfl
theorem At.set1 (h : At u g n t s v) (x : Int) : At (u.setCell ⟨g, 1, none⟩ (.int .i64 x)) g n x s v := (heap_setCell_same u g 1 _ _ _ h).trans rfl
theorem At.set2 (h : At u g n t s v) (x : Int) : At (u.setCell ⟨g, 2, none⟩ (.int .i64 x)) g n t x v := (heap_setCell_same u g 2 _ _ _ h).trans rfl
theorem At.set3 (h : At u g n t s v) (x : Value) : At (u.setCell ⟨g, 3, none⟩ x) g n t s x := (heap_setCell_same u g 3 _ _ _ h).trans rfl
theorem At.set4 (h : At u g n t s v) (n' t' s' : Int) (v' : Value) : At ((((u.setCell ⟨g, 0, none⟩ (.int .i64 n')).setCell ⟨g, 1, none⟩ (.int .i64 t')).setCell ⟨g, 2, none⟩ (.int .i64 s')).setCell ⟨g, 3, none⟩ v') g n' t' s' v' := (((h.set0 n').set1 t').set2 s').set3 v'
end
/-- what Total and Back answer: a total, its parts in new memory, and why there is none -/
def Ans (w : World) (E : Int) (T : Iv.Tot) (e : Ending) (w' : World) : Prop := ∃ v, e = .returned (.tuple #[val T.net T.tax T.gross v, .int .i64 E]) ∧ Pt.Own w' w.heap.size v T.parts ∧ Below w.heap.size w w'
end Go.Proofs.Ytgnepgkmjgpkeaa.Tt
