/- api.Hard: A ROW AS IT IS HANDED OVER, AND IN A BLOCK OF ITS OWN. (By genrows.py.) -/
import Derived.Test.YtnelakpagjdcdaaMemL
namespace Go.Proofs.Ytnelakpagjdcdaa.Hd
open Go.RowKit
open Mem

structure T where
  term : Int
  vote : Int
  base : Int
  bt : Int
  mem : Int
  snap : ByteArray
  log : Sl
/-- a row as it is handed over -/
def val (r : T) : Value := .agg #[.int .i64 r.term, .int .i64 r.vote, .int .i64 r.base, .int .i64 r.bt, .int .i64 r.mem, .string r.snap, .slice r.log.ao r.log.n r.log.cap]
/-- its numbers are numbers of 64 bits, its texts are not too long for any memory -/
def Short (r : T) : Prop := Fit r.term ∧ Fit r.vote ∧ Fit r.base ∧ Fit r.bt ∧ Fit r.mem ∧ r.snap.size ≤ 140737488355328
/-- a row's own place -/
def box (w : World) (r : T) : World := w.alloc (.cells #[.int .i64 r.term, .int .i64 r.vote, .int .i64 r.base, .int .i64 r.bt, .int .i64 r.mem, .string r.snap, .slice r.log.ao r.log.n r.log.cap] 32)
/-- a row lies in a block of its own -/
def C (u : World) (b : Nat) (r : T) : Prop :=
  u.cell? ⟨b, 0, none⟩ = some (.int .i64 r.term) ∧ u.cell? ⟨b, 1, none⟩ = some (.int .i64 r.vote) ∧ u.cell? ⟨b, 2, none⟩ = some (.int .i64 r.base) ∧ u.cell? ⟨b, 3, none⟩ = some (.int .i64 r.bt) ∧ u.cell? ⟨b, 4, none⟩ = some (.int .i64 r.mem) ∧ u.cell? ⟨b, 5, none⟩ = some (.string r.snap) ∧ u.cell? ⟨b, 6, none⟩ = some (.slice r.log.ao r.log.n r.log.cap)
theorem C.below {u v : World} {b : Nat} {r : T} (h : C u b r) (k : Below u.heap.size u v) : C v b r := by
  obtain ⟨h0, h1, h2, h3, h4, h5, h6⟩ := h
  have hl := cell_lt h0
  unfold C
  rw [(bcell k).1 _ _ hl, (bcell k).1 _ _ hl, (bcell k).1 _ _ hl, (bcell k).1 _ _ hl, (bcell k).1 _ _ hl, (bcell k).1 _ _ hl, (bcell k).1 _ _ hl]
  exact ⟨h0, h1, h2, h3, h4, h5, h6⟩
theorem c_box (w : World) (r : T) : C (box w r) w.heap.size r := by
  unfold box C
  simp [go_sem]
theorem box_size (w : World) (r : T) : (box w r).heap.size = w.heap.size + 1 := by
  unfold box
  simp
theorem below_own (w : World) (r : T) : Below w.heap.size w (box w r) := (Below.refl _ _).alloc (Nat.le_refl _) _
theorem boxed1 (w : World) (a : T) : ∃ W, w.alloc (.cells #[.int .i64 a.term, .int .i64 a.vote, .int .i64 a.base, .int .i64 a.bt, .int .i64 a.mem, .string a.snap, .slice a.log.ao a.log.n a.log.cap] 32) = W ∧ Below w.heap.size w W ∧ C W w.heap.size a :=
  ⟨_, rfl, below_own w a, c_box w a⟩
theorem boxed2 (w : World) (a b : T) : ∃ W, (w.alloc (.cells #[.int .i64 a.term, .int .i64 a.vote, .int .i64 a.base, .int .i64 a.bt, .int .i64 a.mem, .string a.snap, .slice a.log.ao a.log.n a.log.cap] 32)).alloc (.cells #[.int .i64 b.term, .int .i64 b.vote, .int .i64 b.base, .int .i64 b.bt, .int .i64 b.mem, .string b.snap, .slice b.log.ao b.log.n b.log.cap] 32) = W ∧
    Below w.heap.size w W ∧ C W w.heap.size a ∧ C W (w.heap.size + 1) b := by
  refine ⟨_, rfl, ((below_own w a).trans ((below_own (box w a) b).mono (below_own w a).size)), (c_box w a).below (below_own _ b), ?_⟩
  have h := c_box (box w a) b
  rw [box_size] at h
  exact h
end Go.Proofs.Ytnelakpagjdcdaa.Hd
