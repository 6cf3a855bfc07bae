/- api.Entry: A ROW AS IT IS HANDED OVER, AND IN A BLOCK OF ITS OWN. (By genrows.py.) -/
import Derived.Test.YtnelakpagjdcdaaMemK
namespace Go.Proofs.Ytnelakpagjdcdaa.Et
open Go.RowKit
open Mem

structure T where
  term : Int
  mem : Int
  data : ByteArray
/-- a row as it is handed over -/
def val (r : T) : Value := .agg #[.int .i64 r.term, .int .i64 r.mem, .string r.data]
/-- its numbers are numbers of 64 bits, its texts are not too long for any memory -/
def Short (r : T) : Prop := Fit r.term ∧ Fit r.mem ∧ r.data.size ≤ 140737488355328
/-- a row's own place -/
def box (w : World) (r : T) : World := w.alloc (.cells #[.int .i64 r.term, .int .i64 r.mem, .string r.data] 35)
/-- a row lies in a block of its own -/
def C (u : World) (b : Nat) (r : T) : Prop :=
  u.cell? ⟨b, 0, none⟩ = some (.int .i64 r.term) ∧ u.cell? ⟨b, 1, none⟩ = some (.int .i64 r.mem) ∧ u.cell? ⟨b, 2, none⟩ = some (.string r.data)
theorem C.below {u v : World} {b : Nat} {r : T} (h : C u b r) (k : Below u.heap.size u v) : C v b r := by
  obtain ⟨h0, h1, h2⟩ := h
  have hl := cell_lt h0
  unfold C
  rw [(bcell k).1 _ _ hl, (bcell k).1 _ _ hl, (bcell k).1 _ _ hl]
  exact ⟨h0, h1, h2⟩
theorem c_box (w : World) (r : T) : C (box w r) w.heap.size r := by
  unfold box C
  simp [go_sem]
theorem box_size (w : World) (r : T) : (box w r).heap.size = w.heap.size + 1 := by
  unfold box
  simp
theorem below_own (w : World) (r : T) : Below w.heap.size w (box w r) := (Below.refl _ _).alloc (Nat.le_refl _) _
theorem boxed1 (w : World) (a : T) : ∃ W, w.alloc (.cells #[.int .i64 a.term, .int .i64 a.mem, .string a.data] 35) = W ∧ Below w.heap.size w W ∧ C W w.heap.size a :=
  ⟨_, rfl, below_own w a, c_box w a⟩
theorem boxed2 (w : World) (a b : T) : ∃ W, (w.alloc (.cells #[.int .i64 a.term, .int .i64 a.mem, .string a.data] 35)).alloc (.cells #[.int .i64 b.term, .int .i64 b.mem, .string b.data] 35) = W ∧
    Below w.heap.size w W ∧ C W w.heap.size a ∧ C W (w.heap.size + 1) b := by
  refine ⟨_, rfl, ((below_own w a).trans ((below_own (box w a) b).mono (below_own w a).size)), (c_box w a).below (below_own _ b), ?_⟩
  have h := c_box (box w a) b
  rw [box_size] at h
  exact h
end Go.Proofs.Ytnelakpagjdcdaa.Et
