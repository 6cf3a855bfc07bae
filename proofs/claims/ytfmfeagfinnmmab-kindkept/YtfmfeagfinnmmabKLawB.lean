/- WHAT Of ANSWERS, where the values are a thing. (As in KMakes; for a seat that lacks what KMakes speaks of.) -/
import Derived.Test.YtfmfeagfinnmmabKRun
import Derived.Test.YtfmfeagfinnmmabRefKindOf
namespace Go.Proofs.Ytfmfeagfinnmmab
open Go.RowKit
open Vl (T)
open Mem Tg

theorem of_zero {l : List T} {w w' : World} {e : Ending} (h : ofP l w e w') (h0 : Kd.ofE l = 0) : ∃ t v, e = .returned (.tuple #[.agg #[v], .int .i64 0]) ∧ Is (fun b => w.heap.size ≤ b) w' t v ∧ l = t.flat ∧ t.fits 0 0 := by
  rcases h with ⟨_, t, v, h2, h3, h4⟩ | ⟨h2, _⟩
  · obtain ⟨t', e1, e2, e3, e4⟩ := Th.ofE_zero h0
    rw [h2] at e1
    injection e1 with e1
    injection e1 with e1
    subst e1
    exact ⟨t, v, h3, h4, e2, e3, by rw [← e2]; omega⟩
  · exact absurd h0 h2
theorem keepC {u v : World} {b o : Nat} {x : Value} (h : u.cell? ⟨b, o, none⟩ = some x) (k : Below u.heap.size u v) : v.cell? ⟨b, o, none⟩ = some x := by
  rw [(bcell k).1 _ _ (cell_lt h)]
  exact h
theorem below_alloc (u : World) (o : Obj) : Below u.heap.size u (u.alloc o) := (Below.refl _ _).alloc (Nat.le_refl _) o
end Go.Proofs.Ytfmfeagfinnmmab
