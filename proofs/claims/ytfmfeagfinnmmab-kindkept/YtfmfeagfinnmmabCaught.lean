/- WHAT A CALL PANICS WITH: impostlaw8's caught, at a function that returns (caught_ret) and at one that panics with an api.Wrong (caught_hit). -/
import Derived.Test.YtfmfeagfinnmmabCatch
import Derived.Defers
import Derived.Recover
namespace Go.Proofs.Ytfmfeagfinnmmab
open Go.RowKit
open Mem

/-- the two named results' own places, and what lies there -/
structure TwoAt (u : World) (p q : Nat) (a c : Int) (b : Bool) : Prop where
  c0 : u.cell? ⟨p, 0, none⟩ = some (.int .i64 a)
  c1 : u.cell? ⟨p, 1, none⟩ = some (.int .i64 c)
  c2 : u.cell? ⟨q, 0, none⟩ = some (.bool b)
  f0 : ∀ o, u.frozen? ⟨p, o, none⟩ = false
  f1 : u.frozen? ⟨q, 0, none⟩ = false
/-- three stores -/
def put3 (u : World) (p q : Nat) (a c : Int) (b : Bool) : World := ((u.setCell ⟨p, 0, none⟩ (.int .i64 a)).setCell ⟨p, 1, none⟩ (.int .i64 c)).setCell ⟨q, 0, none⟩ (.bool b)
theorem TwoAt.put {u : World} {p q : Nat} {a c : Int} {b : Bool} (h : TwoAt u p q a c b) (hpq : p ≠ q) (x y : Int) (z : Bool) : TwoAt (put3 u p q x y z) p q x y z := by
  obtain ⟨h0, h1, h2, h3, h4⟩ := h
  have e' : ¬ q = p := fun k => hpq k.symm
  refine ⟨?_, ?_, ?_, ?_, ?_⟩
  all_goals simp [put3, go_sem, *]
theorem TwoAt.drew {u : World} {p q : Nat} {a c : Int} {b : Bool} (h : TwoAt u p q a c b) : TwoAt u.drew p q a c b := ⟨h.c0, h.c1, h.c2, h.f0, h.f1⟩
theorem below_put3 {B : Nat} {v u : World} (h : Below B v u) {p q : Nat} (hp : B ≤ p) (hq : B ≤ q) (a c : Int) (b : Bool) : Below B v (put3 u p q a c b) := ((h.setCell (p := ⟨p, 0, none⟩) hp _).setCell (p := ⟨p, 1, none⟩) hp _).setCell (p := ⟨q, 0, none⟩) hq _
def twoW (w : World) : World := (w.alloc (.cells #[.int .i64 0, .int .i64 0] 53)).alloc (.cells #[.bool false] 4)
set_option maxHeartbeats 1000000 in
theorem caught_ret (F : FuncId) (cap : Array Value) (w : World) (Q : World → Prop) (hen : ∀ (args : Array Value) (u : World), (callFunc F args).run Try.prog u = .ok (.enter F args) u)
    (hF : Calls Try.prog F cap (twoW w) fun e u => e = .returned (.tuple #[]) ∧ Q u ∧ TwoAt u w.heap.size (w.heap.size + 1) 0 0 false) :
    Calls Try.prog 16 #[.func (.func F) #[] cap] w fun e w' => e = .returned (.tuple #[.agg #[.int .i64 0, .int .i64 0], .bool false]) ∧ ∃ u, Q u ∧ Below w.heap.size u w' := by
  have hmf : ∀ (fn : Fn) (first cap : Array Value) (w : World), (Instr.makeFunc fn first cap).run Try.prog w = .ok (.func fn first cap) w := fun _ _ _ _ => rfl
  have HF := Lib.hid hF
  clear hF
  go_enter_defers Try.func16, Try.ntmps16
  go_wp2_with fail
  refine HF.out.mono ?_
  rintro e u ⟨rfl, hQ, hT⟩
  have HQ := Lib.hid hQ
  have HT := Lib.hid hT
  obtain ⟨h0, h1, h2, f0, f1⟩ := hT
  clear hQ
  go_wp2_with fail
  go_region
  go_wp2_with fail
  refine leaves_cons (f := 24) (args := #[.pointer (some ⟨w.heap.size, 0, none⟩), .pointer (some ⟨w.heap.size + 1, 0, none⟩)]) (by simp) (by simp [go_sem]) ?_
  have hpq : w.heap.size ≠ w.heap.size + 1 := by omega
  have HP := ((HT.out.put hpq 0 0 false).drew)
  refine (catch_idle w.heap.size (w.heap.size + 1) _ 0 0 false HP.c0 HP.c1 HP.c2 HP.f0 HP.f1 hpq).mono ?_
  rintro e u' w'' ⟨rfl, rfl, h⟩
  have hB : Below w.heap.size u w'' := h ▸ below_put3 (below_put3 (Below.refl _ u) (Nat.le_refl _) (Nat.le_succ _) 0 0 false).drew (Nat.le_refl _) (Nat.le_succ _) 0 0 false
  have hZ : TwoAt w'' w.heap.size (w.heap.size + 1) 0 0 false := h ▸ HP.put hpq 0 0 false
  clear h HP
  simp [Leaves, settle, results, Try.results16, go_sem, hZ.c0, hZ.c1, hZ.c2]
  exact ⟨u, HQ.out, hB⟩
set_option maxHeartbeats 1000000 in
theorem caught_hit (F : FuncId) (a c : Int) (cap : Array Value) (w : World) (Q : World → Prop) (hen : ∀ (args : Array Value) (u : World), (callFunc F args).run Try.prog u = .ok (.enter F args) u)
    (hF : Calls Try.prog F cap (twoW w) fun e u => e = .panicked [{ v := .iface 53 (.agg #[.int .i64 a, .int .i64 c]), recovered := false }] ∧ Q u ∧ TwoAt u w.heap.size (w.heap.size + 1) 0 0 false) :
    Calls Try.prog 16 #[.func (.func F) #[] cap] w fun e w' => e = .returned (.tuple #[.agg #[.int .i64 a, .int .i64 c], .bool true]) ∧ ∃ u, Q u ∧ Below w.heap.size u w' := by
  have hmf : ∀ (fn : Fn) (first cap : Array Value) (w : World), (Instr.makeFunc fn first cap).run Try.prog w = .ok (.func fn first cap) w := fun _ _ _ _ => rfl
  have HF := Lib.hid hF
  clear hF
  go_enter_defers Try.func16, Try.ntmps16
  go_wp2_with fail
  refine HF.out.mono ?_
  rintro e u ⟨rfl, hQ, hT⟩
  have HQ := Lib.hid hQ
  have HT := Lib.hid hT
  obtain ⟨h0, h1, h2, f0, f1⟩ := hT
  clear hQ
  go_wp2_with fail
  refine leaves_cons (f := 24) (args := #[.pointer (some ⟨w.heap.size, 0, none⟩), .pointer (some ⟨w.heap.size + 1, 0, none⟩)]) (by simp) (by simp [go_sem]) ?_
  have hpq : w.heap.size ≠ w.heap.size + 1 := by omega
  refine (catch_hit w.heap.size (w.heap.size + 1) _ 0 0 a c false [] h0 h1 h2 f0 f1 hpq).mono ?_
  rintro e u' w'' ⟨rfl, rfl, h⟩
  have hB : Below w.heap.size u w'' := h ▸ below_put3 (Below.refl _ u) (Nat.le_refl _) (Nat.le_succ _) a c true
  have hZ : TwoAt w'' w.heap.size (w.heap.size + 1) a c true := h ▸ HT.out.put hpq a c true
  clear h
  simp [Leaves, settle, results, Try.results16, go_sem, hZ.c0, hZ.c1, hZ.c2]
  exact ⟨u, HQ.out, hB⟩
end Go.Proofs.Ytfmfeagfinnmmab
