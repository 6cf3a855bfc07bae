/- impostlaw16.Ask: A ROW AS IT IS HANDED OVER, AND IN A BLOCK OF ITS OWN. (By genrows.py.) -/
import Derived.Test.YtegniklofhopeaaZDp1
namespace Go.Proofs.Ytegniklofhopeaa.As
open Go.RowKit
open Mem
structure T where
 kind : Int
 n : Int
 name : ByteArray
 to : ByteArray
 data : Sl
 picks : Sl
def val (r : T) : Value := .agg #[.int .i64 r.kind,.int .i64 r.n,.string r.name,.string r.to,.slice r.data.ao r.data.n r.data.cap,.slice r.picks.ao r.picks.n r.picks.cap]
def Short (r : T) : Prop := Fit r.kind ∧ Fit r.n ∧ r.name.size ≤ 140737488355328 ∧ r.to.size ≤ 140737488355328
def box (w : World) (r : T) : World := w.alloc (.cells #[.int .i64 r.kind,.int .i64 r.n,.string r.name,.string r.to,.slice r.data.ao r.data.n r.data.cap,.slice r.picks.ao r.picks.n r.picks.cap] 30)
def C (u : World) (b : Nat) (r : T) : Prop :=
 u.cell? ⟨b,0,none⟩ = some (.int .i64 r.kind) ∧ u.cell? ⟨b,1,none⟩ = some (.int .i64 r.n) ∧ u.cell? ⟨b,2,none⟩ = some (.string r.name) ∧ u.cell? ⟨b,3,none⟩ = some (.string r.to) ∧ u.cell? ⟨b,4,none⟩ = some (.slice r.data.ao r.data.n r.data.cap) ∧ u.cell? ⟨b,5,none⟩ = some (.slice r.picks.ao r.picks.n r.picks.cap)
theorem C.below {u v : World} {b : Nat} {r : T} (h : C u b r) (k : Below u.heap.size u v) : C v b r := by
 obtain ⟨h0,h1,h2,h3,h4,h5⟩ := h
 have hl := cell_lt h0
 unfold C
 rw [(bcell k).1 _ _ hl,(bcell k).1 _ _ hl,(bcell k).1 _ _ hl,(bcell k).1 _ _ hl,(bcell k).1 _ _ hl,(bcell k).1 _ _ hl]
 exact ⟨h0,h1,h2,h3,h4,h5⟩
theorem c_box (w : World) (r : T) : C (box w r) w.heap.size r := by
 unfold box C
 simp [go_sem]
theorem box_size (w : World) (r : T) : (box w r).heap.size = w.heap.size + 1 := by
 unfold box
 simp
theorem below_own (w : World) (r : T) : Below w.heap.size w (box w r) := (Below.refl _ _).alloc (Nat.le_refl _) _
theorem boxed1 (w : World) (a : T) : ∃ W,w.alloc (.cells #[.int .i64 a.kind,.int .i64 a.n,.string a.name,.string a.to,.slice a.data.ao a.data.n a.data.cap,.slice a.picks.ao a.picks.n a.picks.cap] 30) = W ∧ Below w.heap.size w W ∧ C W w.heap.size a :=
 ⟨_,rfl,below_own w a,c_box w a⟩
theorem boxed2 (w : World) (a b : T) : ∃ W,(w.alloc (.cells #[.int .i64 a.kind,.int .i64 a.n,.string a.name,.string a.to,.slice a.data.ao a.data.n a.data.cap,.slice a.picks.ao a.picks.n a.picks.cap] 30)).alloc (.cells #[.int .i64 b.kind,.int .i64 b.n,.string b.name,.string b.to,.slice b.data.ao b.data.n b.data.cap,.slice b.picks.ao b.picks.n b.picks.cap] 30) = W ∧
  Below w.heap.size w W ∧ C W w.heap.size a ∧ C W (w.heap.size + 1) b := by
 refine ⟨_,rfl,((below_own w a).trans ((below_own (box w a) b).mono (below_own w a).size)),(c_box w a).below (below_own _ b),?_⟩
 have h := c_box (box w a) b
 rw [box_size] at h
 exact h
end Go.Proofs.Ytegniklofhopeaa.As
