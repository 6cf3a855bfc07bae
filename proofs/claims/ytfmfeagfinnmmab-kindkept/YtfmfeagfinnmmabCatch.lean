/- WHAT A CALL PANICS WITH: impostlaw8's caught, its deferred closure. -/
import Derived.Test.YtfmfeagfinnmmabMemK
import Derived.Defers
import Derived.Recover
namespace Go.Proofs.Ytfmfeagfinnmmab
open Go.RowKit
open Mem

/-- THE DEFERRED CLOSURE of a frame that returns: recover finds nothing. -/
theorem catch_idle (p q : Nat) (w : World) (x y : Int) (b : Bool) (h0 : w.cell? ⟨p, 0, none⟩ = some (.int .i64 x)) (h1 : w.cell? ⟨p, 1, none⟩ = some (.int .i64 y)) (h2 : w.cell? ⟨q, 0, none⟩ = some (.bool b))
    (f0 : ∀ o, w.frozen? ⟨p, o, none⟩ = false) (f1 : w.frozen? ⟨q, 0, none⟩ = false) (hpq : p ≠ q) :
    CallsD Try.prog 24 #[.pointer (some ⟨p, 0, none⟩), .pointer (some ⟨q, 0, none⟩)] .returning w fun e u' w' => e = .returned (.tuple #[]) ∧ u' = .returning ∧ w' = ((w.setCell ⟨p, 0, none⟩ (.int .i64 0)).setCell ⟨p, 1, none⟩ (.int .i64 0)).setCell ⟨q, 0, none⟩ (.bool false) := by
  have hta : ∀ u : World, (Instr.typeAssert Value.nilIface 20 53 true).run Try.prog u = .ok (.tuple #[.agg #[.int .i64 0, .int .i64 0], .bool false]) u := fun _ => by kernel_rfl
  have hqp : ¬ q = p := fun h => hpq h.symm
  refine callsD_of_wpS Try.func24 rfl fun c₀ cs hu => ?_
  apply wpS_region
  simp [wpOpsS, go_sem, recoverD, hu, Try.ntmps24, hta, h0, h1, h2, f0, f1]
  cases c₀
  simp_all [bodyPostS, results, Try.results24]
/-- THE DEFERRED CLOSURE of a frame that panics with an api.Wrong: it is recovered, and kept. -/
theorem catch_hit (p q : Nat) (w : World) (x y a c : Int) (b : Bool) (older : List PanicEntry) (h0 : w.cell? ⟨p, 0, none⟩ = some (.int .i64 x)) (h1 : w.cell? ⟨p, 1, none⟩ = some (.int .i64 y)) (h2 : w.cell? ⟨q, 0, none⟩ = some (.bool b))
    (f0 : ∀ o, w.frozen? ⟨p, o, none⟩ = false) (f1 : w.frozen? ⟨q, 0, none⟩ = false) (hpq : p ≠ q) :
    CallsD Try.prog 24 #[.pointer (some ⟨p, 0, none⟩), .pointer (some ⟨q, 0, none⟩)] (.panicking ({ v := .iface 53 (.agg #[.int .i64 a, .int .i64 c]), recovered := false } :: older)) w fun e u' w' =>
      e = .returned (.tuple #[]) ∧ u' = .panicking ({ v := .iface 53 (.agg #[.int .i64 a, .int .i64 c]), recovered := true } :: older) ∧ w' = ((w.setCell ⟨p, 0, none⟩ (.int .i64 a)).setCell ⟨p, 1, none⟩ (.int .i64 c)).setCell ⟨q, 0, none⟩ (.bool true) := by
  have hta : ∀ u : World, (Instr.typeAssert (.iface 53 (.agg #[.int .i64 a, .int .i64 c])) 20 53 true).run Try.prog u = .ok (.tuple #[.agg #[.int .i64 a, .int .i64 c], .bool true]) u := fun _ => by kernel_rfl
  have hqp : ¬ q = p := fun h => hpq h.symm
  refine callsD_of_wpS Try.func24 rfl fun c₀ cs hu => ?_
  apply wpS_region
  simp [wpOpsS, go_sem, recoverD, hu, Try.ntmps24, hta, h0, h1, h2, f0, f1]
  cases c₀
  simp_all [bodyPostS, results, Try.results24]
end Go.Proofs.Ytfmfeagfinnmmab
