/- MERGED: Catch9, Caught9, CaughtK. (By mg.py.) -/
import Derived.Test.YtndfhnaafaijcaaMGa
import Derived.Defers
import Derived.Recover
/- WHAT A CALL PANICS WITH: impostlaw9's caught, its deferred closure. -/
namespace Go.Proofs.Ytndfhnaafaijcaa
open Go.RowKit
open Mem

/-- THE DEFERRED CLOSURE of a frame that returns: recover finds nothing. -/
theorem catch_idle (p q : Nat) (w : World) (x y : Int) (b : Bool) (h0 : w.cell? ⟨p, 0, none⟩ = some (.int .i64 x)) (h1 : w.cell? ⟨p, 1, none⟩ = some (.int .i64 y)) (h2 : w.cell? ⟨q, 0, none⟩ = some (.bool b))
    (f0 : ∀ o, w.frozen? ⟨p, o, none⟩ = false) (f1 : w.frozen? ⟨q, 0, none⟩ = false) (hpq : p ≠ q) :
    CallsD Try.prog 38 #[.pointer (some ⟨p, 0, none⟩), .pointer (some ⟨q, 0, none⟩)] .returning w fun e u' w' => e = .returned (.tuple #[]) ∧ u' = .returning ∧ w' = ((w.setCell ⟨p, 0, none⟩ (.int .i64 0)).setCell ⟨p, 1, none⟩ (.int .i64 0)).setCell ⟨q, 0, none⟩ (.bool false) := by
  have hta : ∀ u : World, (Instr.typeAssert Value.nilIface 20 45 true).run Try.prog u = .ok (.tuple #[.agg #[.int .i64 0, .int .i64 0], .bool false]) u := fun _ => by kernel_rfl
  have hqp : ¬ q = p := fun h => hpq h.symm
  refine callsD_of_wpS Try.func38 rfl fun c₀ cs hu => ?_
  apply wpS_region
  simp [wpOpsS, go_sem, recoverD, hu, Try.ntmps38, hta, h0, h1, h2, f0, f1]
  cases c₀
  simp_all [bodyPostS, results, Try.results38]
/-- THE DEFERRED CLOSURE of a frame that panics with an api.Wrong: it is recovered, and kept. -/
theorem catch_hit (p q : Nat) (w : World) (x y a c : Int) (b : Bool) (older : List PanicEntry) (h0 : w.cell? ⟨p, 0, none⟩ = some (.int .i64 x)) (h1 : w.cell? ⟨p, 1, none⟩ = some (.int .i64 y)) (h2 : w.cell? ⟨q, 0, none⟩ = some (.bool b))
    (f0 : ∀ o, w.frozen? ⟨p, o, none⟩ = false) (f1 : w.frozen? ⟨q, 0, none⟩ = false) (hpq : p ≠ q) :
    CallsD Try.prog 38 #[.pointer (some ⟨p, 0, none⟩), .pointer (some ⟨q, 0, none⟩)] (.panicking ({ v := .iface 45 (.agg #[.int .i64 a, .int .i64 c]), recovered := false } :: older)) w fun e u' w' =>
      e = .returned (.tuple #[]) ∧ u' = .panicking ({ v := .iface 45 (.agg #[.int .i64 a, .int .i64 c]), recovered := true } :: older) ∧ w' = ((w.setCell ⟨p, 0, none⟩ (.int .i64 a)).setCell ⟨p, 1, none⟩ (.int .i64 c)).setCell ⟨q, 0, none⟩ (.bool true) := by
  have hta : ∀ u : World, (Instr.typeAssert (.iface 45 (.agg #[.int .i64 a, .int .i64 c])) 20 45 true).run Try.prog u = .ok (.tuple #[.agg #[.int .i64 a, .int .i64 c], .bool true]) u := fun _ => by kernel_rfl
  have hqp : ¬ q = p := fun h => hpq h.symm
  refine callsD_of_wpS Try.func38 rfl fun c₀ cs hu => ?_
  apply wpS_region
  simp [wpOpsS, go_sem, recoverD, hu, Try.ntmps38, hta, h0, h1, h2, f0, f1]
  cases c₀
  simp_all [bodyPostS, results, Try.results38]
end Go.Proofs.Ytndfhnaafaijcaa

/- WHAT A CALL PANICS WITH: impostlaw9's caught, at a function that returns (caught_ret) and at one that panics with an api.Wrong (caught_hit). -/
namespace Go.Proofs.Ytndfhnaafaijcaa
open Go.RowKit
open Mem

/-- the two named results' own places, and what lies there -/
structure TwoAt (u : World) (p q : Nat) (a c : Int) (b : Bool) : Prop where
  c0 : u.cell? ⟨p, 0, none⟩ = some (.int .i64 a)
  c1 : u.cell? ⟨p, 1, none⟩ = some (.int .i64 c)
  c2 : u.cell? ⟨q, 0, none⟩ = some (.bool b)
  f0 : ∀ o, u.frozen? ⟨p, o, none⟩ = false
  f1 : u.frozen? ⟨q, 0, none⟩ = false
/-- three stores -/
def put3 (u : World) (p q : Nat) (a c : Int) (b : Bool) : World := ((u.setCell ⟨p, 0, none⟩ (.int .i64 a)).setCell ⟨p, 1, none⟩ (.int .i64 c)).setCell ⟨q, 0, none⟩ (.bool b)
theorem TwoAt.put {u : World} {p q : Nat} {a c : Int} {b : Bool} (h : TwoAt u p q a c b) (hpq : p ≠ q) (x y : Int) (z : Bool) : TwoAt (put3 u p q x y z) p q x y z := by
  obtain ⟨h0, h1, h2, h3, h4⟩ := h
  have e' : ¬ q = p := fun k => hpq k.symm
  refine ⟨?_, ?_, ?_, ?_, ?_⟩
  all_goals simp [put3, go_sem, *]
theorem TwoAt.drew {u : World} {p q : Nat} {a c : Int} {b : Bool} (h : TwoAt u p q a c b) : TwoAt u.drew p q a c b := ⟨h.c0, h.c1, h.c2, h.f0, h.f1⟩
theorem below_put3 {B : Nat} {v u : World} (h : Below B v u) {p q : Nat} (hp : B ≤ p) (hq : B ≤ q) (a c : Int) (b : Bool) : Below B v (put3 u p q a c b) := ((h.setCell (p := ⟨p, 0, none⟩) hp _).setCell (p := ⟨p, 1, none⟩) hp _).setCell (p := ⟨q, 0, none⟩) hq _
def twoW (w : World) : World := (w.alloc (.cells #[.int .i64 0, .int .i64 0] 45)).alloc (.cells #[.bool false] 4)
set_option maxHeartbeats 1000000 in
theorem caught_ret (F : FuncId) (cap : Array Value) (w : World) (Q : World → Prop) (hen : ∀ (args : Array Value) (u : World), (callFunc F args).run Try.prog u = .ok (.enter F args) u)
    (hF : Calls Try.prog F cap (twoW w) fun e u => e = .returned (.tuple #[]) ∧ Q u ∧ TwoAt u w.heap.size (w.heap.size + 1) 0 0 false) :
    Calls Try.prog 13 #[.func (.func F) #[] cap] w fun e w' => e = .returned (.tuple #[.agg #[.int .i64 0, .int .i64 0], .bool false]) ∧ ∃ u, Q u ∧ Below w.heap.size u w' := by
  have hmf : ∀ (fn : Fn) (first cap : Array Value) (w : World), (Instr.makeFunc fn first cap).run Try.prog w = .ok (.func fn first cap) w := fun _ _ _ _ => rfl
  have HF := Lib.hid hF
  clear hF
  go_enter_defers Try.func13, Try.ntmps13
  go_wp2_with fail
  refine HF.out.mono ?_
  rintro e u ⟨rfl, hQ, hT⟩
  have HQ := Lib.hid hQ
  have HT := Lib.hid hT
  obtain ⟨h0, h1, h2, f0, f1⟩ := hT
  clear hQ
  go_wp2_with fail
  go_region
  go_wp2_with fail
  refine leaves_cons (f := 38) (args := #[.pointer (some ⟨w.heap.size, 0, none⟩), .pointer (some ⟨w.heap.size + 1, 0, none⟩)]) (by simp) (by simp [go_sem]) ?_
  have hpq : w.heap.size ≠ w.heap.size + 1 := by omega
  have HP := ((HT.out.put hpq 0 0 false).drew)
  refine (catch_idle w.heap.size (w.heap.size + 1) _ 0 0 false HP.c0 HP.c1 HP.c2 HP.f0 HP.f1 hpq).mono ?_
  rintro e u' w'' ⟨rfl, rfl, h⟩
  have hB : Below w.heap.size u w'' := h ▸ below_put3 (below_put3 (Below.refl _ u) (Nat.le_refl _) (Nat.le_succ _) 0 0 false).drew (Nat.le_refl _) (Nat.le_succ _) 0 0 false
  have hZ : TwoAt w'' w.heap.size (w.heap.size + 1) 0 0 false := h ▸ HP.put hpq 0 0 false
  clear h HP
  simp [Leaves, settle, results, Try.results13, go_sem, hZ.c0, hZ.c1, hZ.c2]
  exact ⟨u, HQ.out, hB⟩
set_option maxHeartbeats 1000000 in
theorem caught_hit (F : FuncId) (a c : Int) (cap : Array Value) (w : World) (Q : World → Prop) (hen : ∀ (args : Array Value) (u : World), (callFunc F args).run Try.prog u = .ok (.enter F args) u)
    (hF : Calls Try.prog F cap (twoW w) fun e u => e = .panicked [{ v := .iface 45 (.agg #[.int .i64 a, .int .i64 c]), recovered := false }] ∧ Q u ∧ TwoAt u w.heap.size (w.heap.size + 1) 0 0 false) :
    Calls Try.prog 13 #[.func (.func F) #[] cap] w fun e w' => e = .returned (.tuple #[.agg #[.int .i64 a, .int .i64 c], .bool true]) ∧ ∃ u, Q u ∧ Below w.heap.size u w' := by
  have hmf : ∀ (fn : Fn) (first cap : Array Value) (w : World), (Instr.makeFunc fn first cap).run Try.prog w = .ok (.func fn first cap) w := fun _ _ _ _ => rfl
  have HF := Lib.hid hF
  clear hF
  go_enter_defers Try.func13, Try.ntmps13
  go_wp2_with fail
  refine HF.out.mono ?_
  rintro e u ⟨rfl, hQ, hT⟩
  have HQ := Lib.hid hQ
  have HT := Lib.hid hT
  obtain ⟨h0, h1, h2, f0, f1⟩ := hT
  clear hQ
  go_wp2_with fail
  refine leaves_cons (f := 38) (args := #[.pointer (some ⟨w.heap.size, 0, none⟩), .pointer (some ⟨w.heap.size + 1, 0, none⟩)]) (by simp) (by simp [go_sem]) ?_
  have hpq : w.heap.size ≠ w.heap.size + 1 := by omega
  refine (catch_hit w.heap.size (w.heap.size + 1) _ 0 0 a c false [] h0 h1 h2 f0 f1 hpq).mono ?_
  rintro e u' w'' ⟨rfl, rfl, h⟩
  have hB : Below w.heap.size u w'' := h ▸ below_put3 (Below.refl _ u) (Nat.le_refl _) (Nat.le_succ _) a c true
  have hZ : TwoAt w'' w.heap.size (w.heap.size + 1) a c true := h ▸ HT.out.put hpq a c true
  clear h
  simp [Leaves, settle, results, Try.results13, go_sem, hZ.c0, hZ.c1, hZ.c2]
  exact ⟨u, HQ.out, hB⟩
end Go.Proofs.Ytndfhnaafaijcaa

/- WHAT A CALL PANICS WITH: impostlaw9's caught, at a function that returns: what it leaves as it was. -/
namespace Go.Proofs.Ytndfhnaafaijcaa
open Go.RowKit
open Mem

theorem put3_heap (u : World) (k : Nat) {p q : Nat} (h1 : k ≠ p) (h2 : k ≠ q) (a c : Int) (b : Bool) : (put3 u p q a c b).heap[k]? = u.heap[k]? := by
  unfold put3
  rw [Below.heap_setCell _ ⟨q, 0, none⟩ _ k h2, Below.heap_setCell _ ⟨p, 1, none⟩ _ k h1, Below.heap_setCell _ ⟨p, 0, none⟩ _ k h1]
set_option maxHeartbeats 1000000 in
theorem caught_keep (F : FuncId) (cap : Array Value) (w : World) (Q : World → Prop) (hen : ∀ (args : Array Value) (u : World), (callFunc F args).run Try.prog u = .ok (.enter F args) u)
    (hF : Calls Try.prog F cap (twoW w) fun e u => e = .returned (.tuple #[]) ∧ Q u ∧ TwoAt u w.heap.size (w.heap.size + 1) 0 0 false) :
    Calls Try.prog 13 #[.func (.func F) #[] cap] w fun e w' => e = .returned (.tuple #[.agg #[.int .i64 0, .int .i64 0], .bool false]) ∧ ∃ u, Q u ∧ Below w.heap.size u w' ∧ ∀ k, k ≠ w.heap.size → k ≠ w.heap.size + 1 → w'.heap[k]? = u.heap[k]? := by
  have hmf : ∀ (fn : Fn) (first cap : Array Value) (w : World), (Instr.makeFunc fn first cap).run Try.prog w = .ok (.func fn first cap) w := fun _ _ _ _ => rfl
  have HF := Lib.hid hF
  clear hF
  go_enter_defers Try.func13, Try.ntmps13
  go_wp2_with fail
  refine HF.out.mono ?_
  rintro e u ⟨rfl, hQ, hT⟩
  have HQ := Lib.hid hQ
  have HT := Lib.hid hT
  obtain ⟨h0, h1, h2, f0, f1⟩ := hT
  clear hQ
  go_wp2_with fail
  go_region
  go_wp2_with fail
  refine leaves_cons (f := 38) (args := #[.pointer (some ⟨w.heap.size, 0, none⟩), .pointer (some ⟨w.heap.size + 1, 0, none⟩)]) (by simp) (by simp [go_sem]) ?_
  have hpq : w.heap.size ≠ w.heap.size + 1 := by omega
  have HP := ((HT.out.put hpq 0 0 false).drew)
  refine (catch_idle w.heap.size (w.heap.size + 1) _ 0 0 false HP.c0 HP.c1 HP.c2 HP.f0 HP.f1 hpq).mono ?_
  rintro e u' w'' ⟨rfl, rfl, h⟩
  have hB : Below w.heap.size u w'' := h ▸ below_put3 (below_put3 (Below.refl _ u) (Nat.le_refl _) (Nat.le_succ _) 0 0 false).drew (Nat.le_refl _) (Nat.le_succ _) 0 0 false
  have hK : ∀ k, k ≠ w.heap.size → k ≠ w.heap.size + 1 → w''.heap[k]? = u.heap[k]? := h ▸ fun k h1 h2 => ((put3_heap _ k h1 h2 0 0 false).trans (put3_heap u k h1 h2 0 0 false))
  have hZ : TwoAt w'' w.heap.size (w.heap.size + 1) 0 0 false := h ▸ HP.put hpq 0 0 false
  clear h HP
  simp [Leaves, settle, results, Try.results13, go_sem, hZ.c0, hZ.c1, hZ.c2]
  exact ⟨u, HQ.out, hB, hK⟩
end Go.Proofs.Ytndfhnaafaijcaa
