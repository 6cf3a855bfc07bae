/- api.Letter: A ROW AS IT IS HANDED OVER, AND IN A BLOCK OF ITS OWN. (By genrows.py.) -/
import Derived.Test.YtagjbjppddbalaaMemL
namespace Go.Proofs.Ytagjbjppddbalaa.Lr
open Go.RowKit
open Mem

structure T where
  kind : Int
  frm : Int
  to : Int
  term : Int
  idx : Int
  bt : Int
  com : Int
  mem : Int
  off : Int
  size : Int
  yes : Bool
  data : ByteArray
  ents : Sl
/-- a row as it is handed over -/
def val (r : T) : Value := .agg #[.int .i64 r.kind, .int .i64 r.frm, .int .i64 r.to, .int .i64 r.term, .int .i64 r.idx, .int .i64 r.bt, .int .i64 r.com, .int .i64 r.mem, .int .i64 r.off, .int .i64 r.size, .bool r.yes, .string r.data, .slice r.ents.ao r.ents.n r.ents.cap]
/-- its numbers are numbers of 64 bits, its texts are not too long for any memory -/
def Short (r : T) : Prop := Fit r.kind ∧ Fit r.frm ∧ Fit r.to ∧ Fit r.term ∧ Fit r.idx ∧ Fit r.bt ∧ Fit r.com ∧ Fit r.mem ∧ Fit r.off ∧ Fit r.size ∧ r.data.size ≤ 140737488355328
/-- a row's own place -/
def box (w : World) (r : T) : World := w.alloc (.cells #[.int .i64 r.kind, .int .i64 r.frm, .int .i64 r.to, .int .i64 r.term, .int .i64 r.idx, .int .i64 r.bt, .int .i64 r.com, .int .i64 r.mem, .int .i64 r.off, .int .i64 r.size, .bool r.yes, .string r.data, .slice r.ents.ao r.ents.n r.ents.cap] 24)
/-- a row lies in a block of its own -/
def C (u : World) (b : Nat) (r : T) : Prop :=
  u.cell? ⟨b, 0, none⟩ = some (.int .i64 r.kind) ∧ u.cell? ⟨b, 1, none⟩ = some (.int .i64 r.frm) ∧ u.cell? ⟨b, 2, none⟩ = some (.int .i64 r.to) ∧ u.cell? ⟨b, 3, none⟩ = some (.int .i64 r.term) ∧ u.cell? ⟨b, 4, none⟩ = some (.int .i64 r.idx) ∧ u.cell? ⟨b, 5, none⟩ = some (.int .i64 r.bt) ∧ u.cell? ⟨b, 6, none⟩ = some (.int .i64 r.com) ∧ u.cell? ⟨b, 7, none⟩ = some (.int .i64 r.mem) ∧ u.cell? ⟨b, 8, none⟩ = some (.int .i64 r.off) ∧ u.cell? ⟨b, 9, none⟩ = some (.int .i64 r.size) ∧ u.cell? ⟨b, 10, none⟩ = some (.bool r.yes) ∧ u.cell? ⟨b, 11, none⟩ = some (.string r.data) ∧ u.cell? ⟨b, 12, none⟩ = some (.slice r.ents.ao r.ents.n r.ents.cap)
theorem C.below {u v : World} {b : Nat} {r : T} (h : C u b r) (k : Below u.heap.size u v) : C v b r := by
  obtain ⟨h0, h1, h2, h3, h4, h5, h6, h7, h8, h9, h10, h11, h12⟩ := h
  have hl := cell_lt h0
  unfold C
  rw [(bcell k).1 _ _ hl, (bcell k).1 _ _ hl, (bcell k).1 _ _ hl, (bcell k).1 _ _ hl, (bcell k).1 _ _ hl, (bcell k).1 _ _ hl, (bcell k).1 _ _ hl, (bcell k).1 _ _ hl, (bcell k).1 _ _ hl, (bcell k).1 _ _ hl, (bcell k).1 _ _ hl, (bcell k).1 _ _ hl, (bcell k).1 _ _ hl]
  exact ⟨h0, h1, h2, h3, h4, h5, h6, h7, h8, h9, h10, h11, h12⟩
theorem c_box (w : World) (r : T) : C (box w r) w.heap.size r := by
  unfold box C
  simp [go_sem]
theorem box_size (w : World) (r : T) : (box w r).heap.size = w.heap.size + 1 := by
  unfold box
  simp
theorem below_own (w : World) (r : T) : Below w.heap.size w (box w r) := (Below.refl _ _).alloc (Nat.le_refl _) _
theorem boxed1 (w : World) (a : T) : ∃ W, w.alloc (.cells #[.int .i64 a.kind, .int .i64 a.frm, .int .i64 a.to, .int .i64 a.term, .int .i64 a.idx, .int .i64 a.bt, .int .i64 a.com, .int .i64 a.mem, .int .i64 a.off, .int .i64 a.size, .bool a.yes, .string a.data, .slice a.ents.ao a.ents.n a.ents.cap] 24) = W ∧ Below w.heap.size w W ∧ C W w.heap.size a :=
  ⟨_, rfl, below_own w a, c_box w a⟩
theorem boxed2 (w : World) (a b : T) : ∃ W, (w.alloc (.cells #[.int .i64 a.kind, .int .i64 a.frm, .int .i64 a.to, .int .i64 a.term, .int .i64 a.idx, .int .i64 a.bt, .int .i64 a.com, .int .i64 a.mem, .int .i64 a.off, .int .i64 a.size, .bool a.yes, .string a.data, .slice a.ents.ao a.ents.n a.ents.cap] 24)).alloc (.cells #[.int .i64 b.kind, .int .i64 b.frm, .int .i64 b.to, .int .i64 b.term, .int .i64 b.idx, .int .i64 b.bt, .int .i64 b.com, .int .i64 b.mem, .int .i64 b.off, .int .i64 b.size, .bool b.yes, .string b.data, .slice b.ents.ao b.ents.n b.ents.cap] 24) = W ∧
    Below w.heap.size w W ∧ C W w.heap.size a ∧ C W (w.heap.size + 1) b := by
  refine ⟨_, rfl, ((below_own w a).trans ((below_own (box w a) b).mono (below_own w a).size)), (c_box w a).below (below_own _ b), ?_⟩
  have h := c_box (box w a) b
  rw [box_size] at h
  exact h
end Go.Proofs.Ytagjbjppddbalaa.Lr
