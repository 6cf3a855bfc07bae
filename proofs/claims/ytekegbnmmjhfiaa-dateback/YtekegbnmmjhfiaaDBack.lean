/- THE WALK OF DateBack. -/
import Derived.Test.YtekegbnmmjhfiaaDLaws
namespace Go.Proofs.Ytekegbnmmjhfiaa
open Go.RowKit

theorem shown_len {y m d : Int} (h : Dt.rightB y m d = true) : (Dt.shown y m d).length = 10 := by
  rw [Dt.shown_right h]
  rfl
set_option maxHeartbeats 2000000 in
theorem dateBack_walk (n : Int) (w : World) (hn : (Lit.int .i64 n).wf = true) :
    Calls Try.prog 7 #[.int .i64 n] w fun e w' => e = .returned (.bool true) ∧ Below w.heap.size w w' := by
  have HN := Lib.hid (fit_in hn)
  clear hn
  go_enter Try.func7, Try.ntmps7
  go_wp2_with fail
  refine (bookWithin_any n 0 3652058 _ HN.out (by omega) (by omega) (by omega)).mono ?_
  rintro e wx ⟨⟨k, rfl, _, hk⟩, hx⟩
  replace hx := hx.symm
  subst hx
  go_wp2_with fail
  refine (of_yes k w _ (Below.refl _ _) (by omega) (by omega)).mono ?_
  rintro e w1 ⟨⟨y, m, d, rfl, hr, hn⟩, b1⟩
  have HR := Lib.hid hr
  have HE := Lib.hid hn
  have HB1 := Lib.hid b1
  have HF := Lib.hid (right_fit hr)
  clear hr hn b1
  unfold dayB dayV
  go_wp2_with fail
  refine (show_date y m d _ _ (Below.refl _ _) HF.out.1 HF.out.2.1 HF.out.2.2).mono ?_
  rintro e w2 ⟨rfl, b2⟩
  obtain ⟨W, hW, bW, lW⟩ := boxed w1 y m d
  have HBW := Lib.hid (chain HB1.out bW)
  rw [hW] at b2
  have hz2 : w1.heap.size < W.heap.size := by have := congrArg (fun u : World => u.heap.size) hW; simp at this; omega
  have HB2 := Lib.hid b2
  clear b2 hW bW
  go_wp2_with fail
  refine (read_date _ W _ HB2.out (by rw [size_mk, shown_len HR.out]; omega)).mono ?_
  rintro e w3 ⟨rfl, b3⟩
  rw [txt_mk, Dt.told_shown HR.out]
  unfold dayE dayV
  dsimp only
  obtain ⟨k0, k1, k2⟩ := lW w3 b3
  have hz : w1.heap.size < w3.heap.size := by have := b3.size; omega
  have HB3 := Lib.hid b3
  clear b3
  go_wp2_with fail
  refine (right_date y m d _ _ (Below.refl _ _) HF.out.1 HF.out.2.1 HF.out.2.2).mono ?_
  rintro e w4 ⟨rfl, b4⟩
  obtain ⟨V, hV, bV, lV⟩ := boxed w3 y m d
  rw [hV] at b4
  rw [HR.out]
  obtain ⟨g0, g1, g2⟩ := lW w4 (chain (chain HB3.out bV) b4)
  have HBV := Lib.hid (chain HB3.out bV)
  have HB4 := Lib.hid b4
  clear b4 hV bV
  go_wp2_with fail
  refine (days_date y m d V _ HB4.out HF.out.1 HF.out.2.1 HF.out.2.2).mono ?_
  rintro e w5 ⟨rfl, b5⟩
  rw [Dt.days_right HR.out, HE.out]
  obtain ⟨i0, i1, i2⟩ := lW w5 (chain HBV.out b5)
  obtain ⟨j0, j1, j2⟩ := lV w5 b5
  have HB5 := Lib.hid (chain (chain HBW.out HBV.out) b5)
  clear b5
  go_wp2_with fail
  refine (runs_any w _ HB5.out).mono ?_
  rintro e w6 ⟨rfl, b6⟩
  have HB6 := Lib.hid b6
  clear b6
  go_wp2_with fail
  go_ret
  exact ⟨rfl, HB6.out⟩
end Go.Proofs.Ytekegbnmmjhfiaa
