/- impostlaw8's must: what panics does so just of another kind, and says so. (By genmust.py.) -/
import Derived.Test.YtfmfeagfinnmmaaKThing
namespace Go.Proofs.Ytfmfeagfinnmmaa
open Go.RowKit
open Go.Sort (grow)
open Vl (T)
open Mem Tg

/-- of what was there nothing has turned but one block -/
structure Upd (w : World) (p : Nat) (w' : World) : Prop where
  size : w.heap.size ≤ w'.heap.size
  cell : ∀ b o, b < w.heap.size → b ≠ p → w'.cell? ⟨b, o, none⟩ = w.cell? ⟨b, o, none⟩
  frozen : ∀ b o, b < w.heap.size → w'.frozen? ⟨b, o, none⟩ = w.frozen? ⟨b, o, none⟩
  below : ∀ w0, Below w0.heap.size w0 w → w0.heap.size ≤ p → Below w0.heap.size w0 w'
theorem Upd.of {w w' : World} (p : Nat) (h : Below w.heap.size w w') : Upd w p w' :=
  ⟨h.size, fun b o hb _ => (bcell h).1 b o hb, fun b o hb => (bcell h).2 b o hb, fun _ k _ => bchain k h⟩
theorem Upd.trans {w u v : World} {p : Nat} (h : Upd w p u) (k : Upd u p v) : Upd w p v :=
  ⟨Nat.le_trans h.size k.size, fun b o hb hp => by rw [k.cell b o (Nat.lt_of_lt_of_le hb h.size) hp, h.cell b o hb hp], fun b o hb => by rw [k.frozen b o (Nat.lt_of_lt_of_le hb h.size), h.frozen b o hb], fun w0 a c => k.below w0 (h.below w0 a c) c⟩
theorem Upd.set {w : World} {p o : Nat} (x : Value) : Upd w p (w.setCell ⟨p, o, none⟩ x) := by
  refine ⟨by simp, fun b q _ _ => by simp [go_sem], fun b q _ => by simp [go_sem], fun w0 h hp => h.setCell (p := ⟨p, o, none⟩) hp x⟩

theorem closure1_no {A : Nat → Prop} (t : Th) (v : Value) (pv px : Nat) (w : World) (hc : w.cell? ⟨pv, 0, none⟩ = some v) (hI : Is A w t v) (hk : t.kind ≠ 1) :
    Calls Try.prog 39 #[.pointer (some ⟨pv, 0, none⟩), .pointer (some ⟨px, 0, none⟩)] w fun e w' => e = wrong 1 t.kind ∧ Below w.heap.size w w' := by
  have h1 := hI.oneCell
  have HI := Lib.hid hI
  have HK := Lib.hid hk
  clear hI hk
  go_enter Try.func39, Try.ntmps39
  go_wp2_with fail
  refine (kind_mustint t v w _ (Below.refl _ _) HI.out HK.out).mono ?_
  rintro e w1 ⟨rfl, b1⟩
  have HB := Lib.hid b1
  clear b1
  unfold wrong
  go_wp2_with fail
  exact ⟨rfl, rfl, HB.out⟩
theorem caught1_no {A : Nat → Prop} (t : Th) (v : Value) (pv px : Nat) (w : World) (hc : w.cell? ⟨pv, 0, none⟩ = some v) (hI : Is A w t v) (hk : t.kind ≠ 1) :
    Calls Try.prog 15 #[.func (.func 39) #[] #[.pointer (some ⟨pv, 0, none⟩), .pointer (some ⟨px, 0, none⟩)]] w fun e w' => e = .returned (.tuple #[.agg #[.int .i64 1, .int .i64 t.kind], .bool true]) ∧ Below w.heap.size w w' := by
  have b0 := twoW_below w
  refine (caught_hit 39 1 t.kind #[.pointer (some ⟨pv, 0, none⟩), .pointer (some ⟨px, 0, none⟩)] w (fun u => Below w.heap.size w u) (fun _ _ => rfl) ((closure1_no t v pv px (twoW w) (by rw [(bcell b0).1 _ _ (cell_lt hc)]; exact hc) (hI.stays b0) hk).mono ?_)).mono ?_
  · rintro e u ⟨rfl, b⟩
    exact ⟨rfl, bchain b0 b, (twoW_at w).below b⟩
  · rintro e w' ⟨rfl, u, hu, b⟩
    exact ⟨rfl, hu.trans b⟩
set_option maxHeartbeats 1000000 in
theorem closure1_ok (n : Int) (hf : Fit n) (pv px : Nat) (w : World) (hc : w.cell? ⟨pv, 0, none⟩ = some (.iface 73 (.int .i64 n))) (h0 : w.cell? ⟨px, 0, none⟩ = some (.int .i64 0)) (hz : ∀ o, w.frozen? ⟨px, o, none⟩ = false) :
    Calls Try.prog 39 #[.pointer (some ⟨pv, 0, none⟩), .pointer (some ⟨px, 0, none⟩)] w fun e w' => e = .returned (.tuple #[]) ∧ Upd w px w' ∧ w'.cell? ⟨px, 0, none⟩ = some (.int .i64 n) := by
  go_enter Try.func39, Try.ntmps39
  go_wp2_with fail
  refine (kind_mustint_ok n hf w _ (Below.refl _ _)).mono ?_
  rintro e u1 ⟨rfl, b1⟩
  have k0 : u1.cell? ⟨px, 0, none⟩ = some (.int .i64 0) := by
    rw [(bcell b1).1 _ _ (cell_lt h0)]
    exact h0
  have kz : ∀ o, u1.frozen? ⟨px, o, none⟩ = false := by
    intro o
    rw [(bcell b1).2 _ _ (cell_lt h0)]
    exact hz o
  have HB := Lib.hid b1
  clear b1
  go_wp2_with fail
  go_end0
  refine ⟨rfl, (Upd.of px HB.out).trans (Upd.set _), ?_⟩ <;> simp [go_sem, k0]
theorem caught1_ok (n : Int) (hf : Fit n) (pv px : Nat) (w : World) (hc : w.cell? ⟨pv, 0, none⟩ = some (.iface 73 (.int .i64 n))) (h0 : w.cell? ⟨px, 0, none⟩ = some (.int .i64 0)) (hz : ∀ o, w.frozen? ⟨px, o, none⟩ = false) :
    Calls Try.prog 15 #[.func (.func 39) #[] #[.pointer (some ⟨pv, 0, none⟩), .pointer (some ⟨px, 0, none⟩)]] w fun e w' => e = .returned (.tuple #[.agg #[.int .i64 0, .int .i64 0], .bool false]) ∧ Upd w px w' ∧ w'.cell? ⟨px, 0, none⟩ = some (.int .i64 n) := by
  have b0 := twoW_below w
  have hpx := cell_lt h0
  have hs : (twoW w).heap.size = w.heap.size + 2 := by unfold twoW; simp
  have hT := twoW_at w
  refine (caught_ret 39 #[.pointer (some ⟨pv, 0, none⟩), .pointer (some ⟨px, 0, none⟩)] w (fun u => Upd w px u ∧ u.cell? ⟨px, 0, none⟩ = some (.int .i64 n)) (fun _ _ => rfl) ((closure1_ok n hf pv px (twoW w) (by rw [(bcell b0).1 _ _ (cell_lt hc)]; exact hc) (by rw [(bcell b0).1 _ _ hpx]; exact h0) (fun o => by rw [(bcell b0).2 _ _ hpx]; exact hz o)).mono ?_)).mono ?_
  · rintro e u ⟨rfl, hU, e0⟩
    refine ⟨rfl, ⟨⟨by have := hU.size; omega, fun b o hb hp => ?_, fun b o hb => ?_, fun w0 h hp => hU.below w0 (bchain h b0) hp⟩, e0⟩, ?_⟩
    · rw [hU.cell b o (by omega) hp, (bcell b0).1 b o hb]
    · rw [hU.frozen b o (by omega), (bcell b0).2 b o hb]
    · exact ⟨by rw [hU.cell _ _ (by omega) (by omega)]; exact hT.c0, by rw [hU.cell _ _ (by omega) (by omega)]; exact hT.c1, by rw [hU.cell _ _ (by omega) (by omega)]; exact hT.c2, fun o => by rw [hU.frozen _ _ (by omega)]; exact hT.f0 o, by rw [hU.frozen _ _ (by omega)]; exact hT.f1⟩
  · rintro e w' ⟨rfl, u, ⟨hU, e0⟩, b⟩
    have hk : ∀ b' o, b' < w.heap.size → w'.cell? ⟨b', o, none⟩ = u.cell? ⟨b', o, none⟩ ∧ w'.frozen? ⟨b', o, none⟩ = u.frozen? ⟨b', o, none⟩ := fun b' o hb => ⟨b.cell (p := ⟨b', o, none⟩) hb, b.frozen (p := ⟨b', o, none⟩) hb⟩
    refine ⟨rfl, ⟨by have := hU.size; have := b.size; omega, fun b' o hb hp => by rw [(hk b' o hb).1, hU.cell b' o hb hp], fun b' o hb => by rw [(hk b' o hb).2, hU.frozen b' o hb], fun w0 h hp => (hU.below w0 h hp).trans (b.mono h.size)⟩, ?_⟩
    · rw [(hk px 0 hpx).1]
      exact e0
theorem closure2_no {A : Nat → Prop} (t : Th) (v : Value) (pv px : Nat) (w : World) (hc : w.cell? ⟨pv, 0, none⟩ = some v) (hI : Is A w t v) (hk : t.kind ≠ 2) :
    Calls Try.prog 40 #[.pointer (some ⟨pv, 0, none⟩), .pointer (some ⟨px, 0, none⟩)] w fun e w' => e = wrong 2 t.kind ∧ Below w.heap.size w w' := by
  have h1 := hI.oneCell
  have HI := Lib.hid hI
  have HK := Lib.hid hk
  clear hI hk
  go_enter Try.func40, Try.ntmps40
  go_wp2_with fail
  refine (kind_musttext t v w _ (Below.refl _ _) HI.out HK.out).mono ?_
  rintro e w1 ⟨rfl, b1⟩
  have HB := Lib.hid b1
  clear b1
  unfold wrong
  go_wp2_with fail
  exact ⟨rfl, rfl, HB.out⟩
theorem caught2_no {A : Nat → Prop} (t : Th) (v : Value) (pv px : Nat) (w : World) (hc : w.cell? ⟨pv, 0, none⟩ = some v) (hI : Is A w t v) (hk : t.kind ≠ 2) :
    Calls Try.prog 15 #[.func (.func 40) #[] #[.pointer (some ⟨pv, 0, none⟩), .pointer (some ⟨px, 0, none⟩)]] w fun e w' => e = .returned (.tuple #[.agg #[.int .i64 2, .int .i64 t.kind], .bool true]) ∧ Below w.heap.size w w' := by
  have b0 := twoW_below w
  refine (caught_hit 40 2 t.kind #[.pointer (some ⟨pv, 0, none⟩), .pointer (some ⟨px, 0, none⟩)] w (fun u => Below w.heap.size w u) (fun _ _ => rfl) ((closure2_no t v pv px (twoW w) (by rw [(bcell b0).1 _ _ (cell_lt hc)]; exact hc) (hI.stays b0) hk).mono ?_)).mono ?_
  · rintro e u ⟨rfl, b⟩
    exact ⟨rfl, bchain b0 b, (twoW_at w).below b⟩
  · rintro e w' ⟨rfl, u, hu, b⟩
    exact ⟨rfl, hu.trans b⟩
set_option maxHeartbeats 1000000 in
theorem closure2_ok (s : ByteArray) (hf : s.size ≤ 140737488355328) (pv px : Nat) (w : World) (hc : w.cell? ⟨pv, 0, none⟩ = some (.iface 74 (.string s))) (h0 : w.cell? ⟨px, 0, none⟩ = some (.string ⟨#[]⟩)) (hz : ∀ o, w.frozen? ⟨px, o, none⟩ = false) :
    Calls Try.prog 40 #[.pointer (some ⟨pv, 0, none⟩), .pointer (some ⟨px, 0, none⟩)] w fun e w' => e = .returned (.tuple #[]) ∧ Upd w px w' ∧ w'.cell? ⟨px, 0, none⟩ = some (.string s) := by
  go_enter Try.func40, Try.ntmps40
  go_wp2_with fail
  refine (kind_musttext_ok s hf w _ (Below.refl _ _)).mono ?_
  rintro e u1 ⟨rfl, b1⟩
  have k0 : u1.cell? ⟨px, 0, none⟩ = some (.string ⟨#[]⟩) := by
    rw [(bcell b1).1 _ _ (cell_lt h0)]
    exact h0
  have kz : ∀ o, u1.frozen? ⟨px, o, none⟩ = false := by
    intro o
    rw [(bcell b1).2 _ _ (cell_lt h0)]
    exact hz o
  have HB := Lib.hid b1
  clear b1
  go_wp2_with fail
  go_end0
  refine ⟨rfl, (Upd.of px HB.out).trans (Upd.set _), ?_⟩ <;> simp [go_sem, k0]
theorem caught2_ok (s : ByteArray) (hf : s.size ≤ 140737488355328) (pv px : Nat) (w : World) (hc : w.cell? ⟨pv, 0, none⟩ = some (.iface 74 (.string s))) (h0 : w.cell? ⟨px, 0, none⟩ = some (.string ⟨#[]⟩)) (hz : ∀ o, w.frozen? ⟨px, o, none⟩ = false) :
    Calls Try.prog 15 #[.func (.func 40) #[] #[.pointer (some ⟨pv, 0, none⟩), .pointer (some ⟨px, 0, none⟩)]] w fun e w' => e = .returned (.tuple #[.agg #[.int .i64 0, .int .i64 0], .bool false]) ∧ Upd w px w' ∧ w'.cell? ⟨px, 0, none⟩ = some (.string s) := by
  have b0 := twoW_below w
  have hpx := cell_lt h0
  have hs : (twoW w).heap.size = w.heap.size + 2 := by unfold twoW; simp
  have hT := twoW_at w
  refine (caught_ret 40 #[.pointer (some ⟨pv, 0, none⟩), .pointer (some ⟨px, 0, none⟩)] w (fun u => Upd w px u ∧ u.cell? ⟨px, 0, none⟩ = some (.string s)) (fun _ _ => rfl) ((closure2_ok s hf pv px (twoW w) (by rw [(bcell b0).1 _ _ (cell_lt hc)]; exact hc) (by rw [(bcell b0).1 _ _ hpx]; exact h0) (fun o => by rw [(bcell b0).2 _ _ hpx]; exact hz o)).mono ?_)).mono ?_
  · rintro e u ⟨rfl, hU, e0⟩
    refine ⟨rfl, ⟨⟨by have := hU.size; omega, fun b o hb hp => ?_, fun b o hb => ?_, fun w0 h hp => hU.below w0 (bchain h b0) hp⟩, e0⟩, ?_⟩
    · rw [hU.cell b o (by omega) hp, (bcell b0).1 b o hb]
    · rw [hU.frozen b o (by omega), (bcell b0).2 b o hb]
    · exact ⟨by rw [hU.cell _ _ (by omega) (by omega)]; exact hT.c0, by rw [hU.cell _ _ (by omega) (by omega)]; exact hT.c1, by rw [hU.cell _ _ (by omega) (by omega)]; exact hT.c2, fun o => by rw [hU.frozen _ _ (by omega)]; exact hT.f0 o, by rw [hU.frozen _ _ (by omega)]; exact hT.f1⟩
  · rintro e w' ⟨rfl, u, ⟨hU, e0⟩, b⟩
    have hk : ∀ b' o, b' < w.heap.size → w'.cell? ⟨b', o, none⟩ = u.cell? ⟨b', o, none⟩ ∧ w'.frozen? ⟨b', o, none⟩ = u.frozen? ⟨b', o, none⟩ := fun b' o hb => ⟨b.cell (p := ⟨b', o, none⟩) hb, b.frozen (p := ⟨b', o, none⟩) hb⟩
    refine ⟨rfl, ⟨by have := hU.size; have := b.size; omega, fun b' o hb hp => by rw [(hk b' o hb).1, hU.cell b' o hb hp], fun b' o hb => by rw [(hk b' o hb).2, hU.frozen b' o hb], fun w0 h hp => (hU.below w0 h hp).trans (b.mono h.size)⟩, ?_⟩
    · rw [(hk px 0 hpx).1]
      exact e0
theorem closure3_no {A : Nat → Prop} (t : Th) (v : Value) (pv px : Nat) (w : World) (hc : w.cell? ⟨pv, 0, none⟩ = some v) (hI : Is A w t v) (hk : t.kind ≠ 4) :
    Calls Try.prog 42 #[.pointer (some ⟨pv, 0, none⟩), .pointer (some ⟨px, 0, none⟩)] w fun e w' => e = wrong 4 t.kind ∧ Below w.heap.size w w' := by
  have h1 := hI.oneCell
  have HI := Lib.hid hI
  have HK := Lib.hid hk
  clear hI hk
  go_enter Try.func42, Try.ntmps42
  go_wp2_with fail
  refine (kind_mustdate t v w _ (Below.refl _ _) HI.out HK.out).mono ?_
  rintro e w1 ⟨rfl, b1⟩
  have HB := Lib.hid b1
  clear b1
  unfold wrong
  go_wp2_with fail
  exact ⟨rfl, rfl, HB.out⟩
theorem caught3_no {A : Nat → Prop} (t : Th) (v : Value) (pv px : Nat) (w : World) (hc : w.cell? ⟨pv, 0, none⟩ = some v) (hI : Is A w t v) (hk : t.kind ≠ 4) :
    Calls Try.prog 15 #[.func (.func 42) #[] #[.pointer (some ⟨pv, 0, none⟩), .pointer (some ⟨px, 0, none⟩)]] w fun e w' => e = .returned (.tuple #[.agg #[.int .i64 4, .int .i64 t.kind], .bool true]) ∧ Below w.heap.size w w' := by
  have b0 := twoW_below w
  refine (caught_hit 42 4 t.kind #[.pointer (some ⟨pv, 0, none⟩), .pointer (some ⟨px, 0, none⟩)] w (fun u => Below w.heap.size w u) (fun _ _ => rfl) ((closure3_no t v pv px (twoW w) (by rw [(bcell b0).1 _ _ (cell_lt hc)]; exact hc) (hI.stays b0) hk).mono ?_)).mono ?_
  · rintro e u ⟨rfl, b⟩
    exact ⟨rfl, bchain b0 b, (twoW_at w).below b⟩
  · rintro e w' ⟨rfl, u, hu, b⟩
    exact ⟨rfl, hu.trans b⟩
set_option maxHeartbeats 1000000 in
theorem closure3_ok (y m d : Int) (hy : Fit y) (hm : Fit m) (hd : Fit d) (pv px : Nat) (w : World) (hc : w.cell? ⟨pv, 0, none⟩ = some (.iface 78 (.agg #[.int .i64 y, .int .i64 m, .int .i64 d]))) (h0 : w.cell? ⟨px, 0, none⟩ = some (.int .i64 0)) (h1 : w.cell? ⟨px, 1, none⟩ = some (.int .i64 0)) (h2 : w.cell? ⟨px, 2, none⟩ = some (.int .i64 0)) (hz : ∀ o, w.frozen? ⟨px, o, none⟩ = false) :
    Calls Try.prog 42 #[.pointer (some ⟨pv, 0, none⟩), .pointer (some ⟨px, 0, none⟩)] w fun e w' => e = .returned (.tuple #[]) ∧ Upd w px w' ∧ w'.cell? ⟨px, 0, none⟩ = some (.int .i64 y) ∧ w'.cell? ⟨px, 1, none⟩ = some (.int .i64 m) ∧ w'.cell? ⟨px, 2, none⟩ = some (.int .i64 d) := by
  go_enter Try.func42, Try.ntmps42
  go_wp2_with fail
  refine (kind_mustdate_ok y m d hy hm hd w _ (Below.refl _ _)).mono ?_
  rintro e u1 ⟨rfl, b1⟩
  have k0 : u1.cell? ⟨px, 0, none⟩ = some (.int .i64 0) := by
    rw [(bcell b1).1 _ _ (cell_lt h0)]
    exact h0
  have k1 : u1.cell? ⟨px, 1, none⟩ = some (.int .i64 0) := by
    rw [(bcell b1).1 _ _ (cell_lt h1)]
    exact h1
  have k2 : u1.cell? ⟨px, 2, none⟩ = some (.int .i64 0) := by
    rw [(bcell b1).1 _ _ (cell_lt h2)]
    exact h2
  have kz : ∀ o, u1.frozen? ⟨px, o, none⟩ = false := by
    intro o
    rw [(bcell b1).2 _ _ (cell_lt h0)]
    exact hz o
  have HB := Lib.hid b1
  clear b1
  go_wp2_with fail
  go_end0
  refine ⟨rfl, (((Upd.of px HB.out).trans (Upd.set _)).trans (Upd.set _)).trans (Upd.set _), ?_, ?_, ?_⟩ <;> simp [go_sem, k0, k1, k2]
theorem caught3_ok (y m d : Int) (hy : Fit y) (hm : Fit m) (hd : Fit d) (pv px : Nat) (w : World) (hc : w.cell? ⟨pv, 0, none⟩ = some (.iface 78 (.agg #[.int .i64 y, .int .i64 m, .int .i64 d]))) (h0 : w.cell? ⟨px, 0, none⟩ = some (.int .i64 0)) (h1 : w.cell? ⟨px, 1, none⟩ = some (.int .i64 0)) (h2 : w.cell? ⟨px, 2, none⟩ = some (.int .i64 0)) (hz : ∀ o, w.frozen? ⟨px, o, none⟩ = false) :
    Calls Try.prog 15 #[.func (.func 42) #[] #[.pointer (some ⟨pv, 0, none⟩), .pointer (some ⟨px, 0, none⟩)]] w fun e w' => e = .returned (.tuple #[.agg #[.int .i64 0, .int .i64 0], .bool false]) ∧ Upd w px w' ∧ w'.cell? ⟨px, 0, none⟩ = some (.int .i64 y) ∧ w'.cell? ⟨px, 1, none⟩ = some (.int .i64 m) ∧ w'.cell? ⟨px, 2, none⟩ = some (.int .i64 d) := by
  have b0 := twoW_below w
  have hpx := cell_lt h0
  have hs : (twoW w).heap.size = w.heap.size + 2 := by unfold twoW; simp
  have hT := twoW_at w
  refine (caught_ret 42 #[.pointer (some ⟨pv, 0, none⟩), .pointer (some ⟨px, 0, none⟩)] w (fun u => Upd w px u ∧ u.cell? ⟨px, 0, none⟩ = some (.int .i64 y) ∧ u.cell? ⟨px, 1, none⟩ = some (.int .i64 m) ∧ u.cell? ⟨px, 2, none⟩ = some (.int .i64 d)) (fun _ _ => rfl) ((closure3_ok y m d hy hm hd pv px (twoW w) (by rw [(bcell b0).1 _ _ (cell_lt hc)]; exact hc) (by rw [(bcell b0).1 _ _ hpx]; exact h0) (by rw [(bcell b0).1 _ _ hpx]; exact h1) (by rw [(bcell b0).1 _ _ hpx]; exact h2) (fun o => by rw [(bcell b0).2 _ _ hpx]; exact hz o)).mono ?_)).mono ?_
  · rintro e u ⟨rfl, hU, e0, e1, e2⟩
    refine ⟨rfl, ⟨⟨by have := hU.size; omega, fun b o hb hp => ?_, fun b o hb => ?_, fun w0 h hp => hU.below w0 (bchain h b0) hp⟩, e0, e1, e2⟩, ?_⟩
    · rw [hU.cell b o (by omega) hp, (bcell b0).1 b o hb]
    · rw [hU.frozen b o (by omega), (bcell b0).2 b o hb]
    · exact ⟨by rw [hU.cell _ _ (by omega) (by omega)]; exact hT.c0, by rw [hU.cell _ _ (by omega) (by omega)]; exact hT.c1, by rw [hU.cell _ _ (by omega) (by omega)]; exact hT.c2, fun o => by rw [hU.frozen _ _ (by omega)]; exact hT.f0 o, by rw [hU.frozen _ _ (by omega)]; exact hT.f1⟩
  · rintro e w' ⟨rfl, u, ⟨hU, e0, e1, e2⟩, b⟩
    have hk : ∀ b' o, b' < w.heap.size → w'.cell? ⟨b', o, none⟩ = u.cell? ⟨b', o, none⟩ ∧ w'.frozen? ⟨b', o, none⟩ = u.frozen? ⟨b', o, none⟩ := fun b' o hb => ⟨b.cell (p := ⟨b', o, none⟩) hb, b.frozen (p := ⟨b', o, none⟩) hb⟩
    refine ⟨rfl, ⟨by have := hU.size; have := b.size; omega, fun b' o hb hp => by rw [(hk b' o hb).1, hU.cell b' o hb hp], fun b' o hb => by rw [(hk b' o hb).2, hU.frozen b' o hb], fun w0 h hp => (hU.below w0 h hp).trans (b.mono h.size)⟩, ?_, ?_, ?_⟩
    · rw [(hk px 0 hpx).1]
      exact e0
    · rw [(hk px 1 hpx).1]
      exact e1
    · rw [(hk px 2 hpx).1]
      exact e2
end Go.Proofs.Ytfmfeagfinnmmaa
