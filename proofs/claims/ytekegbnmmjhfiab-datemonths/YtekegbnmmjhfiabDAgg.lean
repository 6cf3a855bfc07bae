/- CONTRACTS IN THE FORM THAT A REGION WITH AN OPEN ORDER TAKES (Derived/Lib/QuietBelow.lean): package date's; a day's own place. -/
import Derived.Test.YtekegbnmmjhfiabDate
import Derived.Lib.QuietBelow
namespace Go.Proofs.Ytekegbnmmjhfiab
open Go.RowKit
open Go.Sort (grow)

theorem fit_lit {n : Int} (h : (decide (-9223372036854775808 ≤ n) && decide (n ≤ 9223372036854775807)) = true) : Fit n := by
  rw [Bool.and_eq_true, decide_eq_true_eq, decide_eq_true_eq] at h
  exact h
theorem chain {w0 w w' : World} (h : Below w0.heap.size w0 w) (k : Below w.heap.size w w') : Below w0.heap.size w0 w' := h.trans (k.mono h.size)
/-- a day's own place, behind new memory -/
theorem boxed (w : World) (a b c : Int) : ∃ W, w.alloc (.cells #[.int .i64 a, .int .i64 b, .int .i64 c] 23) = W ∧ Below w.heap.size w W ∧ (∀ u, Below W.heap.size W u → u.cell? ⟨w.heap.size, 0, none⟩ = some (.int .i64 a) ∧ u.cell? ⟨w.heap.size, 1, none⟩ = some (.int .i64 b) ∧ u.cell? ⟨w.heap.size, 2, none⟩ = some (.int .i64 c)) := by
  refine ⟨_, rfl, (Below.refl _ _).alloc (Nat.le_refl _) _, fun u hb => ?_⟩
  rw [(bcell hb).1 _ _ (by simp), (bcell hb).1 _ _ (by simp), (bcell hb).1 _ _ (by simp)]
  simp
theorem right_fit {y m d : Int} (h : Dt.rightB y m d = true) : Fit y ∧ Fit m ∧ Fit d := by
  obtain ⟨h1, h2, h3, h4, h5, h6⟩ := Dt.right_bd h
  exact ⟨⟨by omega, by omega⟩, ⟨by omega, by omega⟩, ⟨by omega, by omega⟩⟩
theorem ahead_num {y m d z n e : Int} (h : Dt.rightB y m d = true) (k : Dt.rightB z n e = true) : aheadB y m d z n e = decide (Dt.num y m d < Dt.num z n e) := by
  unfold aheadB
  rw [h, k]
  rfl
theorem leap_29 {y : Int} (h0 : 1 ≤ y) (h1 : y ≤ 9999) : Dt.rightB y 2 29 = decide (Dt.lp y = 1) := by
  have h := Dt.lp_01 y
  unfold Dt.rightB
  rw [Dt.len_2, Bool.eq_iff_iff, decide_eq_true_iff, decide_eq_true_iff]
  omega
theorem day_any (y m d : Int) (w0 w : World) (hw : Below w0.heap.size w0 w) :
    Calls Try.prog 8 #[.int .i64 y, .int .i64 m, .int .i64 d] w fun e w' => e = .returned (dayV y m d) ∧ Below w0.heap.size w0 w' := by
  have HW := Lib.hid hw
  clear hw
  go_enter Try.func8, Try.ntmps8
  go_wp2
  exact bodyPost_ret (v := dayV y m d) (by simp [results, dayV, Try.results8, go_sem]) rfl ⟨rfl, below_box HW.out _⟩
/-- what a call answers, in every world of the class -/
def Ans (f : FuncId) (args : Array Value) (u : World) (i : Nat) (os : Array Obj) (v : Value) : Prop :=
  Calls Try.prog f args (grow (redrawn u i) os) fun e w'' => e = .returned v ∧ ∃ p : Regrown, w'' = grow (redrawn u p.d) p.os
variable (y m d z n e : Int) (u : World) (i : Nat) (os : Array Obj)
theorem day_agg : Ans 8 #[.int .i64 y, .int .i64 m, .int .i64 d] u i os (.agg #[.int .i64 y, .int .i64 m, .int .i64 d]) :=
  Calls.regrown_of (day_any y m d _ _ (Below.refl _ _))
theorem right_agg (hy : Fit y) (hm : Fit m) (hd : Fit d) : Ans 9 #[.agg #[.int .i64 y, .int .i64 m, .int .i64 d]] u i os (.bool (Dt.rightB y m d)) :=
  Calls.regrown_of (right_date y m d _ _ (Below.refl _ _) hy hm hd)
theorem days_agg (hy : Fit y) (hm : Fit m) (hd : Fit d) : Ans 7 #[.agg #[.int .i64 y, .int .i64 m, .int .i64 d]] u i os (.int .i64 (Dt.days y m d)) :=
  Calls.regrown_of (days_date y m d _ _ (Below.refl _ _) hy hm hd)
theorem show_agg (hy : Fit y) (hm : Fit m) (hd : Fit d) : Ans 11 #[.agg #[.int .i64 y, .int .i64 m, .int .i64 d]] u i os (.string ⟨(Dt.shown y m d).toArray⟩) :=
  Calls.regrown_of (show_date y m d _ _ (Below.refl _ _) hy hm hd)
theorem before_agg (hy : Fit y) (hm : Fit m) (hd : Fit d) (hz : Fit z) (hn : Fit n) (he : Fit e) : Ans 10 #[.agg #[.int .i64 y, .int .i64 m, .int .i64 d], .agg #[.int .i64 z, .int .i64 n, .int .i64 e]] u i os (.bool (aheadB y m d z n e)) :=
  Calls.regrown_of (before_date y m d z n e _ _ (Below.refl _ _) hy hm hd hz hn he)
end Go.Proofs.Ytekegbnmmjhfiab
