/- chapter 6's runs, walked. -/
import Derived.Test.YtekegbnmmjhfiabDAgg
namespace Go.Proofs.Ytekegbnmmjhfiab
open Go.RowKit
open Go.Sort (grow)

theorem t1 : Dt.told (txt ⟨#[50, 48, 50, 54, 45, 49, 49, 45, 51, 49]⟩) = (0, 0, 0, 9) := by decide +kernel
theorem t2 : Dt.told (txt ⟨#[50, 48, 50, 54, 45, 49, 45, 48, 53]⟩) = (0, 0, 0, 4) := by decide +kernel
theorem s1 : Dt.shown 2026 11 5 = [50, 48, 50, 54, 45, 49, 49, 45, 48, 53] := by decide +kernel
theorem d1 : Dt.days 1 1 1 = 0 := by decide +kernel
theorem d2 : Dt.days 2000 2 29 = 730178 := by decide +kernel
theorem d3 : Dt.days 9999 12 31 = 3652058 := by decide +kernel
theorem d4 : Dt.days 1900 2 29 = -1 := by decide +kernel
set_option maxHeartbeats 4000000 in
theorem runs_any (w0 w : World) (hw : Below w0.heap.size w0 w) : Calls Try.prog 12 #[] w fun e w' => e = .returned (.bool true) ∧ Below w0.heap.size w0 w' := by
  have HB0 := Lib.hid hw
  clear hw
  go_enter Try.func12, Try.ntmps12
  go_wp2_with fail
  refine (of_yes 0 w0 _ HB0.out (by omega) (by omega)).mono ?_
  rintro e w1 ⟨⟨y, m, d, rfl, hr, hn⟩, b1⟩
  obtain ⟨rfl, rfl, rfl⟩ := Dt.num_inj hr (show Dt.rightB 1 1 1 = true by decide +kernel) (hn.trans (by decide +kernel))
  have HB1 := Lib.hid b1
  clear b1 hr hn
  unfold dayB dayV
  go_wp2_with fail
  refine (of_no 3652059 _ _ (Below.refl _ _) (fit_lit rfl) (by omega)).mono ?_
  rintro e w2 ⟨rfl, b2⟩
  obtain ⟨W, hW⟩ : ∃ W, w1.alloc (.cells #[.int .i64 1, .int .i64 1, .int .i64 1] 23) = W := ⟨_, rfl⟩
  have HBW : Hid (Below w0.heap.size w0 W) := Lib.hid (hW ▸ below_box HB1.out _)
  rw [hW] at b2
  have l0 : ∀ u, Below W.heap.size W u → u.cell? ⟨w1.heap.size, 0, none⟩ = some (.int .i64 1) ∧ u.cell? ⟨w1.heap.size, 1, none⟩ = some (.int .i64 1) ∧ u.cell? ⟨w1.heap.size, 2, none⟩ = some (.int .i64 1) := fun u hb => by
    rw [(bcell hb).1 _ _ (by rw [← hW]; simp), (bcell hb).1 _ _ (by rw [← hW]; simp), (bcell hb).1 _ _ (by rw [← hW]; simp), ← hW]
    simp
  have HB2 := Lib.hid b2
  clear b2 hW
  unfold dayB dayV
  go_wp2_with fail
  refine (of_no (-1) W _ (below_box HB2.out _) (fit_lit rfl) (by omega)).mono ?_
  rintro e w3 ⟨rfl, b3⟩
  have HB3 := Lib.hid b3
  clear b3
  unfold dayB dayV
  go_wp2_with fail
  refine (read_date _ W _ (below_box HB3.out _) (by decide)).mono ?_
  rintro e w4 ⟨rfl, b4⟩
  have HB4 := Lib.hid b4
  clear b4
  rw [t1]
  unfold dayE dayV
  dsimp only
  go_wp2_with fail
  refine (read_date _ W _ (below_box HB4.out _) (by decide)).mono ?_
  rintro e w5 ⟨rfl, b5⟩
  have HB5 := Lib.hid b5
  clear b5
  rw [t2]
  unfold dayE dayV
  dsimp only
  have e1 := d1
  have e2 := d2
  have e3 := d3
  have e4 := d4
  have c1 : ∀ u i os, Ans 11 #[.agg #[.int .i64 2026, .int .i64 11, .int .i64 5]] u i os (.string ⟨#[50, 48, 50, 54, 45, 49, 49, 45, 48, 53]⟩) := fun u i os => by
    have h := show_agg 2026 11 5 u i os (fit_lit rfl) (fit_lit rfl) (fit_lit rfl)
    rw [s1] at h
    exact h
  go_wp2_with fail
  obtain ⟨U, hU, bU, _⟩ := boxed w5 0 0 0
  rw [hU]
  have bW := chain HB5.out bU
  obtain ⟨g0, g1, g2⟩ := l0 U bW
  have k0 := cell_regrown g0
  have k1 := cell_regrown g1
  have k2 := cell_regrown g2
  have HBU := Lib.hid (chain HBW.out bW)
  clear l0 bW bU g0 g1 g2
  refine wp_region_quiet_below (by kernel_rfl) (by kernel_rfl) ?_
  repeat (first | go_big_quiet_step (first | exact day_agg _ _ _ _ _ _ | exact days_agg _ _ _ _ _ _ (fit_lit rfl) (fit_lit rfl) (fit_lit rfl) | exact c1 _ _ _) | quiet_step (first | exact day_agg _ _ _ _ _ _ | exact days_agg _ _ _ _ _ _ (fit_lit rfl) (fit_lit rfl) (fit_lit rfl) | exact c1 _ _ _))
  refine wpQuiet_nil ?_
  intro _ hw'
  obtain ⟨⟨dq, osq⟩, hw''⟩ := hw'
  subst hw''
  have HBv := Lib.hid (chain HBU.out (below_regrown U dq osq))
  go_wp2
  go_ret
  exact ⟨rfl, HBv.out⟩
theorem dateRuns_walk (w : World) : Calls Try.prog 12 #[] w fun e w' => e = .returned (.bool true) ∧ Below w.heap.size w w' := runs_any w w (Below.refl _ _)
end Go.Proofs.Ytekegbnmmjhfiab
