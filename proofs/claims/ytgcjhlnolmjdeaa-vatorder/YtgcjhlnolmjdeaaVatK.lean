/- ROWS OF RATES AS THEY ARE HANDED OVER: what package vat's contracts and those of the document's own answers share. -/
import Derived.Test.YtgcjhlnolmjdeaaDayK
import Derived.Test.YtgcjhlnolmjdeaaVt
namespace Go.Proofs.Ytgcjhlnolmjdeaa
open Go.RowKit
open Vt (Rt)

/-- a row as it is handed over -/
def rowV (r : Rt) : Value := .agg #[.string r.cat, .int .i64 r.y, .int .i64 r.m, .int .i64 r.d, .int .i64 r.bp]
/-- its numbers are numbers of 64 bits, its text is not too long for any memory -/
def Short (r : Rt) : Prop := r.cat.size ≤ 140737488355328 ∧ Fit r.y ∧ Fit r.m ∧ Fit r.d ∧ Fit r.bp
/-- a row's own place -/
def boxR (w : World) (r : Rt) : World := w.alloc (.cells #[.string r.cat, .int .i64 r.y, .int .i64 r.m, .int .i64 r.d, .int .i64 r.bp] 25)
theorem cell_lt {u : World} {b o : Nat} {v : Value} (h : u.cell? ⟨b, o, none⟩ = some v) : b < u.heap.size := by
  by_cases k : b < u.heap.size
  · exact k
  · exfalso
    simp [World.cell?, Array.getElem?_eq_none (Nat.le_of_not_lt k)] at h
/-- a row lies in a block of its own -/
def RowC (u : World) (b : Nat) (r : Rt) : Prop :=
  u.cell? ⟨b, 0, none⟩ = some (.string r.cat) ∧ u.cell? ⟨b, 1, none⟩ = some (.int .i64 r.y) ∧ u.cell? ⟨b, 2, none⟩ = some (.int .i64 r.m) ∧ u.cell? ⟨b, 3, none⟩ = some (.int .i64 r.d) ∧ u.cell? ⟨b, 4, none⟩ = some (.int .i64 r.bp)
theorem RowC.below {u v : World} {b : Nat} {r : Rt} (h : RowC u b r) (k : Below u.heap.size u v) : RowC v b r := by
  obtain ⟨h0, h1, h2, h3, h4⟩ := h
  have hl := cell_lt h0
  unfold RowC
  rw [(bcell k).1 _ _ hl, (bcell k).1 _ _ hl, (bcell k).1 _ _ hl, (bcell k).1 _ _ hl, (bcell k).1 _ _ hl]
  exact ⟨h0, h1, h2, h3, h4⟩
theorem rowC_box (w : World) (r : Rt) : RowC (boxR w r) w.heap.size r := by
  unfold boxR RowC
  simp [go_sem]
theorem boxR_size (w : World) (r : Rt) : (boxR w r).heap.size = w.heap.size + 1 := by
  unfold boxR
  simp
theorem below_boxR (w : World) (r : Rt) : Below w.heap.size w (boxR w r) := (Below.refl _ _).alloc (Nat.le_refl _) _
theorem boxed1 (w : World) (a : Rt) : ∃ W, w.alloc (.cells #[.string a.cat, .int .i64 a.y, .int .i64 a.m, .int .i64 a.d, .int .i64 a.bp] 25) = W ∧ Below w.heap.size w W ∧ RowC W w.heap.size a :=
  ⟨_, rfl, below_boxR w a, rowC_box w a⟩
theorem boxed2 (w : World) (a b : Rt) : ∃ W, (w.alloc (.cells #[.string a.cat, .int .i64 a.y, .int .i64 a.m, .int .i64 a.d, .int .i64 a.bp] 25)).alloc (.cells #[.string b.cat, .int .i64 b.y, .int .i64 b.m, .int .i64 b.d, .int .i64 b.bp] 25) = W ∧
    Below w.heap.size w W ∧ RowC W w.heap.size a ∧ RowC W (w.heap.size + 1) b := by
  refine ⟨_, rfl, ((below_boxR w a).trans ((below_boxR (boxR w a) b).mono (below_boxR w a).size)), (rowC_box w a).below (below_boxR _ b), ?_⟩
  have h := rowC_box (boxR w a) b
  rw [boxR_size] at h
  exact h
/-- a day lies in a block of its own -/
def DayC (u : World) (b : Nat) (y m d : Int) : Prop :=
  u.cell? ⟨b, 0, none⟩ = some (.int .i64 y) ∧ u.cell? ⟨b, 1, none⟩ = some (.int .i64 m) ∧ u.cell? ⟨b, 2, none⟩ = some (.int .i64 d)
theorem DayC.below {u v : World} {b : Nat} {y m d : Int} (h : DayC u b y m d) (k : Below u.heap.size u v) : DayC v b y m d := by
  obtain ⟨h0, h1, h2⟩ := h
  have hl := cell_lt h0
  unfold DayC
  rw [(bcell k).1 _ _ hl, (bcell k).1 _ _ hl, (bcell k).1 _ _ hl]
  exact ⟨h0, h1, h2⟩
theorem dayC_box (w : World) (y m d : Int) : DayC (w.alloc (.cells #[.int .i64 y, .int .i64 m, .int .i64 d] 23)) w.heap.size y m d := by
  unfold DayC
  simp [go_sem]
theorem boxedRD (w : World) (a : Rt) (y m d : Int) : ∃ W, (w.alloc (.cells #[.string a.cat, .int .i64 a.y, .int .i64 a.m, .int .i64 a.d, .int .i64 a.bp] 25)).alloc (.cells #[.int .i64 y, .int .i64 m, .int .i64 d] 23) = W ∧
    Below w.heap.size w W ∧ RowC W w.heap.size a ∧ DayC W (w.heap.size + 1) y m d := by
  refine ⟨_, rfl, ((below_boxR w a).alloc (below_boxR w a).size _), (rowC_box w a).below ((Below.refl _ _).alloc (Nat.le_refl _) _), ?_⟩
  have h := dayC_box (boxR w a) y m d
  rw [boxR_size] at h
  exact h
theorem bchain {w0 u v : World} (h : Below w0.heap.size w0 u) (k : Below u.heap.size u v) : Below w0.heap.size w0 v := h.trans (k.mono h.size)
end Go.Proofs.Ytgcjhlnolmjdeaa
