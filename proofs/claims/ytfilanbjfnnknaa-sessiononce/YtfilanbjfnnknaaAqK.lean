/- impostlaw13.Ask: A ROW AS IT IS HANDED OVER, AND IN A BLOCK OF ITS OWN. (By genrows.py.) -/
import Derived.Test.YtfilanbjfnnknaaMemK
namespace Go.Proofs.Ytfilanbjfnnknaa.Aq
open Go.RowKit
open Mem

structure T where
  kind : Int
  id : Int
  seq : Int
  n : Int
/-- a row as it is handed over -/
def val (r : T) : Value := .agg #[.int .i64 r.kind, .int .i64 r.id, .int .i64 r.seq, .int .i64 r.n]
/-- its numbers are numbers of 64 bits, its texts are not too long for any memory -/
def Short (r : T) : Prop := Fit r.kind ∧ Fit r.id ∧ Fit r.seq ∧ Fit r.n
/-- a row's own place -/
def box (w : World) (r : T) : World := w.alloc (.cells #[.int .i64 r.kind, .int .i64 r.id, .int .i64 r.seq, .int .i64 r.n] 45)
/-- a row lies in a block of its own -/
def C (u : World) (b : Nat) (r : T) : Prop :=
  u.cell? ⟨b, 0, none⟩ = some (.int .i64 r.kind) ∧ u.cell? ⟨b, 1, none⟩ = some (.int .i64 r.id) ∧ u.cell? ⟨b, 2, none⟩ = some (.int .i64 r.seq) ∧ u.cell? ⟨b, 3, none⟩ = some (.int .i64 r.n)
theorem C.below {u v : World} {b : Nat} {r : T} (h : C u b r) (k : Below u.heap.size u v) : C v b r := by
  obtain ⟨h0, h1, h2, h3⟩ := h
  have hl := cell_lt h0
  unfold C
  rw [(bcell k).1 _ _ hl, (bcell k).1 _ _ hl, (bcell k).1 _ _ hl, (bcell k).1 _ _ hl]
  exact ⟨h0, h1, h2, h3⟩
theorem c_box (w : World) (r : T) : C (box w r) w.heap.size r := by
  unfold box C
  simp [go_sem]
theorem box_size (w : World) (r : T) : (box w r).heap.size = w.heap.size + 1 := by
  unfold box
  simp
theorem below_own (w : World) (r : T) : Below w.heap.size w (box w r) := (Below.refl _ _).alloc (Nat.le_refl _) _
theorem boxed1 (w : World) (a : T) : ∃ W, w.alloc (.cells #[.int .i64 a.kind, .int .i64 a.id, .int .i64 a.seq, .int .i64 a.n] 45) = W ∧ Below w.heap.size w W ∧ C W w.heap.size a :=
  ⟨_, rfl, below_own w a, c_box w a⟩
theorem boxed2 (w : World) (a b : T) : ∃ W, (w.alloc (.cells #[.int .i64 a.kind, .int .i64 a.id, .int .i64 a.seq, .int .i64 a.n] 45)).alloc (.cells #[.int .i64 b.kind, .int .i64 b.id, .int .i64 b.seq, .int .i64 b.n] 45) = W ∧
    Below w.heap.size w W ∧ C W w.heap.size a ∧ C W (w.heap.size + 1) b := by
  refine ⟨_, rfl, ((below_own w a).trans ((below_own (box w a) b).mono (below_own w a).size)), (c_box w a).below (below_own _ b), ?_⟩
  have h := c_box (box w a) b
  rw [box_size] at h
  exact h
end Go.Proofs.Ytfilanbjfnnknaa.Aq
