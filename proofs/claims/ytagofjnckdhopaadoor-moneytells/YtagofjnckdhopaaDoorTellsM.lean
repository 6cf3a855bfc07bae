/- THE WALK OF MoneyTells. -/
import Derived.Test.YtagofjnckdhopaaDoorMRuns
import Derived.Test.YtagofjnckdhopaaDoorRefMoney
namespace Go.Proofs.YtagofjnckdhopaaDoor
open Go.RowKit

theorem fit_in {a : Int} (h : (Lit.int .i64 a).wf = true) : Mn.Fit a := by
  simpa [Lit.wf, IntKind.min, IntKind.max, IntKind.signed, IntKind.bits, Mn.Fit] using h
set_option maxHeartbeats 2000000 in
theorem moneyTells_walk (a b : Int) (w : World) (ha : (Lit.int .i64 a).wf = true) (hb : (Lit.int .i64 b).wf = true) (ht : Tab w) :
    Calls Tryd.prog 4 #[.int .i64 a, .int .i64 b] w fun e w' => e = .returned (.bool true) ∧ Below w.heap.size w w' := by
  have HA := Lib.hid (fit_in ha)
  have HB := Lib.hid (fit_in hb)
  have HT := Lib.hid ht
  clear ha hb ht
  obtain ⟨p, hp⟩ : ∃ p, both (Mn.amt (a + b)) (Mn.err (a + b)) = both p.1 p.2 := ⟨(_, _), rfl⟩
  obtain ⟨q, hq⟩ : ∃ p, both (Mn.amt (a - b)) (Mn.err (a - b)) = both p.1 p.2 := ⟨(_, _), rfl⟩
  obtain ⟨r, hr⟩ : ∃ p, both (Mn.amt (a * b)) (Mn.err (a * b)) = both p.1 p.2 := ⟨(_, _), rfl⟩
  obtain ⟨p1, p2⟩ := p
  obtain ⟨q1, q2⟩ := q
  obtain ⟨r1, r2⟩ := r
  have HP := Lib.hid hp
  have HQ := Lib.hid hq
  have HR := Lib.hid hr
  clear hp hq hr
  go_enter Tryd.func4, Tryd.ntmps4
  go_wp2_with fail
  refine (add_any a b _ HA.out HB.out).mono ?_
  rintro e w1 ⟨rfl, hw1⟩
  subst hw1
  rw [HP.out]
  unfold both
  go_wp2_with fail
  refine (sub_any a b _ HA.out HB.out).mono ?_
  rintro e w1 ⟨rfl, hw1⟩
  subst hw1
  rw [HQ.out]
  unfold both
  go_wp2_with fail
  refine (mul_any a b _ HA.out HB.out).mono ?_
  rintro e w1 ⟨rfl, hw1⟩
  subst hw1
  rw [HR.out]
  unfold both
  go_wp2_with fail
  refine (refAdd_any a b _ HA.out HB.out).mono ?_
  rintro e w1 ⟨rfl, hw1⟩
  subst hw1
  rw [HP.out]
  unfold both
  go_wp2_with fail
  refine (refSub_any a b _ HA.out HB.out).mono ?_
  rintro e w1 ⟨rfl, hw1⟩
  subst hw1
  rw [HQ.out]
  unfold both
  go_wp2_with fail
  refine (refMul_any a b _ HA.out HB.out).mono ?_
  rintro e w1 ⟨rfl, hw1⟩
  subst hw1
  rw [HR.out]
  unfold both
  go_wp2_with fail
  refine (runs_any _ HT.out).mono ?_
  rintro e w2 ⟨rfl, b2⟩
  have HB2 := Lib.hid b2
  clear b2
  go_wp2_with fail
  go_ret
  exact ⟨rfl, HB2.out⟩
end Go.Proofs.YtagofjnckdhopaaDoor
