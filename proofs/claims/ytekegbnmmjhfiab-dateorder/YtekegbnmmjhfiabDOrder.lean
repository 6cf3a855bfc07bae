/- THE WALK OF DateOrder. -/
import Derived.Test.YtekegbnmmjhfiabDLaws
namespace Go.Proofs.Ytekegbnmmjhfiab
open Go.RowKit
open Go.Sort (grow)

set_option maxHeartbeats 4000000 in
theorem dateOrder_walk (a b c : Int) (w : World) (ha : (Lit.int .i64 a).wf = true) (hb : (Lit.int .i64 b).wf = true) (hc : (Lit.int .i64 c).wf = true) :
    Calls Try.prog 3 #[.int .i64 a, .int .i64 b, .int .i64 c] w fun e w' => e = .returned (.bool true) ∧ Below w.heap.size w w' := by
  have Ha := Lib.hid (fit_in ha)
  have Hb := Lib.hid (fit_in hb)
  have Hc := Lib.hid (fit_in hc)
  clear ha hb hc
  go_enter Try.func3, Try.ntmps3
  go_wp2_with fail
  refine (bookWithin_any a 0 3652058 _ Ha.out (by omega) (by omega) (by omega)).mono ?_
  rintro e wx ⟨⟨k, rfl, _, hk⟩, hx⟩
  replace hx := hx.symm
  subst hx
  go_wp2_with fail
  refine (of_yes k w _ (Below.refl _ _) (by omega) (by omega)).mono ?_
  rintro e w1 ⟨⟨y, m, d, rfl, hr, hn⟩, b1⟩
  have HR := Lib.hid hr
  have HE := Lib.hid hn
  have HB1 := Lib.hid b1
  have HF := Lib.hid (right_fit hr)
  clear hr hn b1
  unfold dayB dayV
  go_wp2_with fail
  refine (bookWithin_any b 0 3652058 _ Hb.out (by omega) (by omega) (by omega)).mono ?_
  rintro e wx ⟨⟨l, rfl, _, hl⟩, hx⟩
  replace hx := hx.symm
  subst hx
  go_wp2_with fail
  refine (of_yes l _ _ (Below.refl _ _) (by omega) (by omega)).mono ?_
  rintro e w2 ⟨⟨z, p, q, rfl, hr, hn⟩, b2⟩
  have HR2 := Lib.hid hr
  have HE2 := Lib.hid hn
  have HF2 := Lib.hid (right_fit hr)
  obtain ⟨W, hW, bW, lW⟩ := boxed w1 y m d
  rw [hW] at b2
  obtain ⟨V, hV, bV, lV⟩ := boxed w2 z p q
  have HBV := Lib.hid (chain (chain (chain HB1.out bW) b2) bV)
  have l0 : ∀ u, Below V.heap.size V u → u.cell? ⟨w1.heap.size, 0, none⟩ = some (.int .i64 y) ∧ u.cell? ⟨w1.heap.size, 1, none⟩ = some (.int .i64 m) ∧ u.cell? ⟨w1.heap.size, 2, none⟩ = some (.int .i64 d) := fun u hb => lW u (chain (chain b2 bV) hb)
  clear hr hn b2 hW bW bV lW
  unfold dayB dayV
  go_wp2_with fail
  refine (bookWithin_any c 1 9998 _ Hc.out (by omega) (by omega) (by omega)).mono ?_
  rintro e wx ⟨⟨t, rfl, ht0, ht⟩, hx⟩
  replace hx := hx.symm
  subst hx
  go_wp2_with fail
  refine (day_any (t + 1) 1 1 _ _ (Below.refl _ _)).mono ?_
  rintro e w3 ⟨rfl, b3⟩
  have HB3 := Lib.hid b3
  clear b3 hV
  unfold dayV
  go_wp2_with fail
  refine (days_date (t + 1) 1 1 V _ HB3.out ⟨by omega, by omega⟩ (fit_lit rfl) (fit_lit rfl)).mono ?_
  rintro e w4 ⟨rfl, b4⟩
  have HB4 := Lib.hid b4
  clear b4
  rw [days_first (show 1 ≤ (t : Int) + 1 by omega) (by omega) (by omega) (by omega), Dt.cum_1, Int.add_zero]
  go_wp2_with fail
  refine (day_any t 1 1 V _ HB4.out).mono ?_
  rintro e w5 ⟨rfl, b5⟩
  have HB5 := Lib.hid b5
  clear b5
  unfold dayV
  go_wp2_with fail
  refine (days_date t 1 1 V _ HB5.out ⟨by omega, by omega⟩ (fit_lit rfl) (fit_lit rfl)).mono ?_
  rintro e w6 ⟨rfl, b6⟩
  have HB6 := Lib.hid b6
  clear b6
  rw [days_first (show 1 ≤ (t : Int) by omega) (by omega) (by omega) (by omega), Dt.cum_1, Int.add_zero]
  have hy1 := Dt.yd_bd (show 1 ≤ (t : Int) by omega) (show (t : Int) ≤ 10000 by omega)
  have hy2 := Dt.yd_bd (show 1 ≤ (t : Int) + 1 by omega) (show (t : Int) + 1 ≤ 10000 by omega)
  have hlp := Dt.lp_01 (t : Int)
  have hys : Dt.yd ((t : Int) + 1) - Dt.yd (t : Int) = 365 + Dt.lp (t : Int) := by have := Dt.yd_succ (t : Int); omega
  go_wp2_with fail
  refine (day_any t 2 29 V _ HB6.out).mono ?_
  rintro e w7 ⟨rfl, b7⟩
  have HB7 := Lib.hid b7
  clear b7
  unfold dayV
  go_wp2_with fail
  refine (right_date t 2 29 V _ HB7.out ⟨by omega, by omega⟩ (fit_lit rfl) (fit_lit rfl)).mono ?_
  rintro e u ⟨rfl, b⟩
  rw [leap_29 (by omega) (by omega)]
  obtain ⟨g0, g1, g2⟩ := l0 u b
  obtain ⟨g3, g4, g5⟩ := lV u b
  have k0 := cell_regrown g0
  have k1 := cell_regrown g1
  have k2 := cell_regrown g2
  have k3 := cell_regrown g3
  have k4 := cell_regrown g4
  have k5 := cell_regrown g5
  obtain ⟨sa, hsa⟩ : ∃ sa : ByteArray, (⟨(Dt.shown y m d).toArray⟩ : ByteArray) = sa := ⟨_, rfl⟩
  obtain ⟨sb, hsb⟩ : ∃ sb : ByteArray, (⟨(Dt.shown z p q).toArray⟩ : ByteArray) = sb := ⟨_, rfl⟩
  obtain ⟨lt, hlt⟩ : ∃ lt : Bool, Op.bytesLess sa.toList sb.toList = lt := ⟨_, rfl⟩
  have hab : aheadB y m d z p q = lt := by rw [← hlt, ← hsa, ← hsb, tl, tl, txt_mk, txt_mk, Dt.less_shown HR.out HR2.out, ahead_num HR.out HR2.out]
  have c1 : ∀ v i os, Calls Try.prog 10 #[.agg #[.int .i64 y, .int .i64 m, .int .i64 d], .agg #[.int .i64 z, .int .i64 p, .int .i64 q]] (grow (redrawn v i) os) fun e w'' => e = .returned (.bool lt) ∧ ∃ p : Regrown, w'' = grow (redrawn v p.d) p.os := fun v i os => by
    have h := before_date y m d z p q _ (grow (redrawn v i) os) (Below.refl _ _) HF.out.1 HF.out.2.1 HF.out.2.2 HF2.out.1 HF2.out.2.1 HF2.out.2.2
    rw [hab] at h
    exact Calls.regrown_of h
  have c2 : ∀ v i os, Calls Try.prog 11 #[.agg #[.int .i64 y, .int .i64 m, .int .i64 d]] (grow (redrawn v i) os) fun e w'' => e = .returned (.string sa) ∧ ∃ p : Regrown, w'' = grow (redrawn v p.d) p.os := fun v i os => by
    have h := show_date y m d _ (grow (redrawn v i) os) (Below.refl _ _) HF.out.1 HF.out.2.1 HF.out.2.2
    rw [hsa] at h
    exact Calls.regrown_of h
  have c3 : ∀ v i os, Calls Try.prog 11 #[.agg #[.int .i64 z, .int .i64 p, .int .i64 q]] (grow (redrawn v i) os) fun e w'' => e = .returned (.string sb) ∧ ∃ p : Regrown, w'' = grow (redrawn v p.d) p.os := fun v i os => by
    have h := show_date z p q _ (grow (redrawn v i) os) (Below.refl _ _) HF2.out.1 HF2.out.2.1 HF2.out.2.2
    rw [hsb] at h
    exact Calls.regrown_of h
  have c4 : ∀ v i os, Calls Try.prog 12 #[] (grow (redrawn v i) os) fun e w'' => e = .returned (.bool true) ∧ ∃ p : Regrown, w'' = grow (redrawn v p.d) p.os := fun v i os => Calls.regrown_of (runs_any _ _ (Below.refl _ _))
  clear hab hsa hsb HR HR2 HE HE2 HF HF2
  rcases (by omega : Dt.lp (t : Int) = 1 ∨ Dt.lp (t : Int) = 0) with h1 | h1
  · rw [h1] at hys ⊢
    go_wp2
    refine wp_region_quiet_below (by kernel_rfl) (by kernel_rfl) ?_
    repeat (first | go_big_quiet_step (first | (go_at_call 10; exact c1 _ _ _) | (go_at_call_of 11 (Value.int .i64 y); exact c2 _ _ _) | (go_at_call_of 11 (Value.int .i64 z); exact c3 _ _ _) | (go_at_call 12; exact c4 _ _ _)) | quiet_step (first | (go_at_call 10; exact c1 _ _ _) | (go_at_call_of 11 (Value.int .i64 y); exact c2 _ _ _) | (go_at_call_of 11 (Value.int .i64 z); exact c3 _ _ _) | (go_at_call 12; exact c4 _ _ _)))
    refine wpQuiet_nil ?_
    intro _ hw'
    obtain ⟨⟨dq, osq⟩, hw''⟩ := hw'
    subst hw''
    have HBv := Lib.hid (chain (chain HBV.out b) (below_regrown u dq osq))
    go_wp2
    go_ret
    exact ⟨rfl, HBv.out⟩
  · rw [h1] at hys ⊢
    go_wp2
    refine wp_region_quiet_below (by kernel_rfl) (by kernel_rfl) ?_
    repeat (first | go_big_quiet_step (first | (go_at_call 10; exact c1 _ _ _) | (go_at_call_of 11 (Value.int .i64 y); exact c2 _ _ _) | (go_at_call_of 11 (Value.int .i64 z); exact c3 _ _ _) | (go_at_call 12; exact c4 _ _ _)) | quiet_step (first | (go_at_call 10; exact c1 _ _ _) | (go_at_call_of 11 (Value.int .i64 y); exact c2 _ _ _) | (go_at_call_of 11 (Value.int .i64 z); exact c3 _ _ _) | (go_at_call 12; exact c4 _ _ _)))
    refine wpQuiet_nil ?_
    intro _ hw'
    obtain ⟨⟨dq, osq⟩, hw''⟩ := hw'
    subst hw''
    have HBv := Lib.hid (chain (chain HBV.out b) (below_regrown u dq osq))
    go_wp2
    go_ret
    exact ⟨rfl, HBv.out⟩
end Go.Proofs.Ytekegbnmmjhfiab
