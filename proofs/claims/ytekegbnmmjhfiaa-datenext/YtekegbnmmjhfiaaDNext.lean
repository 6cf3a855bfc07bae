/- THE WALK OF DateNext. -/
import Derived.Test.YtekegbnmmjhfiaaDLaws
namespace Go.Proofs.Ytekegbnmmjhfiaa
open Go.RowKit
open Go.Sort (grow)

set_option maxRecDepth 100000 in
set_option maxHeartbeats 4000000 in
theorem dateNext_walk (n : Int) (w : World) (hn : (Lit.int .i64 n).wf = true) :
    Calls Try.prog 8 #[.int .i64 n] w fun e w' => e = .returned (.bool true) ∧ Below w.heap.size w w' := by
  have HN := Lib.hid (fit_in hn)
  clear hn
  go_enter Try.func8, Try.ntmps8
  go_wp2_with fail
  refine (bookWithin_any n 0 3652057 _ HN.out (by omega) (by omega) (by omega)).mono ?_
  rintro e wx ⟨⟨k, rfl, _, hk⟩, hx⟩
  replace hx := hx.symm
  subst hx
  go_wp2_with fail
  refine (of_yes k w _ (Below.refl _ _) (by omega) (by omega)).mono ?_
  rintro e w1 ⟨⟨y, m, d, rfl, hr, hn⟩, b1⟩
  have HR := Lib.hid hr
  have HE := Lib.hid hn
  have HB1 := Lib.hid b1
  have HF := Lib.hid (right_fit hr)
  clear hr hn b1
  unfold dayB dayV
  go_wp2_with fail
  refine (of_yes (k + 1) _ _ (Below.refl _ _) (by omega) (by omega)).mono ?_
  rintro e w2 ⟨⟨z, p, q, rfl, hr, hn⟩, b2⟩
  have HR2 := Lib.hid hr
  have HE2 := Lib.hid hn
  have HF2 := Lib.hid (right_fit hr)
  obtain ⟨W, hW, bW, lW⟩ := boxed w1 y m d
  rw [hW] at b2
  have hz1 : w1.heap.size < w2.heap.size := by have := b2.size; have := congrArg (fun u : World => u.heap.size) hW; simp at this; omega
  obtain ⟨V, hV, bV, lV⟩ := boxed w2 z p q
  have HBV := Lib.hid (chain (chain (chain HB1.out bW) b2) bV)
  have l0 : ∀ u, Below V.heap.size V u → u.cell? ⟨w1.heap.size, 0, none⟩ = some (.int .i64 y) ∧ u.cell? ⟨w1.heap.size, 1, none⟩ = some (.int .i64 m) ∧ u.cell? ⟨w1.heap.size, 2, none⟩ = some (.int .i64 d) := fun u hb => lW u (chain (chain b2 bV) hb)
  have a1 : aheadB y m d z p q = true := by rw [ahead_num HR.out hr, HE.out, hn]; exact decide_eq_true (by omega)
  have a2 : aheadB z p q y m d = false := by rw [ahead_num hr HR.out, HE.out, hn]; exact decide_eq_false (by omega)
  have a3 : aheadB y m d y m d = false := by rw [ahead_num HR.out HR.out]; exact decide_eq_false (by omega)
  obtain ⟨sa, hsa⟩ : ∃ sa : ByteArray, (⟨(Dt.shown y m d).toArray⟩ : ByteArray) = sa := ⟨_, rfl⟩
  obtain ⟨sb, hsb⟩ : ∃ sb : ByteArray, (⟨(Dt.shown z p q).toArray⟩ : ByteArray) = sb := ⟨_, rfl⟩
  have hlt : Op.bytesLess sa.toList sb.toList = true := by rw [← hsa, ← hsb, tl, tl, txt_mk, txt_mk, Dt.less_shown HR.out hr, HE.out, hn]; exact decide_eq_true (by omega)
  clear hr hn b2 hW bW bV lW
  unfold dayB dayV
  go_wp2_with fail
  go_region_held3 (fun u => Below V.heap.size V u) (first | assumption | exact (Below.refl _ _).drew) (first | (go_at_call 18; refine (before_date _ _ _ _ _ _ V _ (by assumption) (by first | exact HF.out.1 | exact HF.out.2.1 | exact HF.out.2.2 | exact HF2.out.1 | exact HF2.out.2.1 | exact HF2.out.2.2) (by first | exact HF.out.1 | exact HF.out.2.1 | exact HF.out.2.2 | exact HF2.out.1 | exact HF2.out.2.1 | exact HF2.out.2.2) (by first | exact HF.out.1 | exact HF.out.2.1 | exact HF.out.2.2 | exact HF2.out.1 | exact HF2.out.2.1 | exact HF2.out.2.2) (by first | exact HF.out.1 | exact HF.out.2.1 | exact HF.out.2.2 | exact HF2.out.1 | exact HF2.out.2.1 | exact HF2.out.2.2) (by first | exact HF.out.1 | exact HF.out.2.1 | exact HF.out.2.2 | exact HF2.out.1 | exact HF2.out.2.1 | exact HF2.out.2.2) (by first | exact HF.out.1 | exact HF.out.2.1 | exact HF.out.2.2 | exact HF2.out.1 | exact HF2.out.2.1 | exact HF2.out.2.2)).mono ?_; rintro en w' ⟨rfl, b⟩; first | rw [a1] | rw [a2] | rw [a3]) | (go_at_call 13; refine (show_date _ _ _ V _ (by assumption) (by first | exact HF.out.1 | exact HF.out.2.1 | exact HF.out.2.2 | exact HF2.out.1 | exact HF2.out.2.1 | exact HF2.out.2.2) (by first | exact HF.out.1 | exact HF.out.2.1 | exact HF.out.2.2 | exact HF2.out.1 | exact HF2.out.2.1 | exact HF2.out.2.2) (by first | exact HF.out.1 | exact HF.out.2.1 | exact HF.out.2.2 | exact HF2.out.1 | exact HF2.out.2.1 | exact HF2.out.2.2)).mono ?_; rintro en w' ⟨rfl, b⟩; first | rw [hsa] | rw [hsb]))
  clear a1 a2 a3 hlt hsa hsb
  obtain ⟨h1, h2, h3, h4, h5, h6⟩ := Dt.right_bd HR.out
  go_wp2
  rename World => u
  obtain ⟨g0, g1, g2⟩ := l0 u b
  obtain ⟨g3, g4, g5⟩ := lV u b
  have k0 := cell_regrown g0
  have k1 := cell_regrown g1
  have k2 := cell_regrown g2
  have k3 := cell_regrown g3
  have k4 := cell_regrown g4
  have k5 := cell_regrown g5
  rcases Dt.next HR.out (by rw [HE.out]; omega) with ⟨hd, hr, hn⟩ | ⟨hd, hm, hr, hn⟩ | ⟨hd, hm, hr, hn⟩
  · obtain ⟨rfl, rfl, rfl⟩ := Dt.num_inj HR2.out hr (by rw [HE2.out, hn, HE.out])
    clear hr hn HR2 HE2 HF2 HR HE HF hV
    clear hd
    have c1 : (d + 1 != 1) = true := bne_iff_ne.2 (by omega)
    refine wp_region_quiet_below (by kernel_rfl) (by kernel_rfl) ?_
    repeat (first | go_big_quiet_step (exact day_agg _ _ _ _ _ _) | quiet_step (exact day_agg _ _ _ _ _ _))
    refine wpQuiet_nil ?_
    intro _ hw'
    obtain ⟨⟨dq, osq⟩, hw''⟩ := hw'
    subst hw''
    have bv := chain b (below_regrown u dq osq)
    generalize grow (redrawn u dq) osq = v at bv ⊢
    obtain ⟨i0, i1, i2⟩ := l0 v bv
    obtain ⟨i3, i4, i5⟩ := lV v bv
    have HBv := Lib.hid (chain HBV.out bv)
    clear bv k0 k1 k2 k3 k4 k5 g0 g1 g2 g3 g4 g5 l0 lV
    go_wp2_with fail
    refine (runs_any w _ HBv.out).mono ?_
    rintro e w6 ⟨rfl, b6⟩
    have HB6 := Lib.hid b6
    clear b6
    go_wp2_with fail
    go_ret
    exact ⟨rfl, HB6.out⟩
  · obtain ⟨rfl, rfl, rfl⟩ := Dt.num_inj HR2.out hr (by rw [HE2.out, hn, HE.out])
    have hl := Dt.len_lo (y := z) h3 h4
    clear hr hn HR2 HE2 HF2 HR HE HF hV
    have c1 : 28 ≤ d := by omega
    clear hd hl
    have c2 : (m + 1 == m) = false := beq_eq_false_iff_ne.2 (by omega)
    refine wp_region_quiet_below (by kernel_rfl) (by kernel_rfl) ?_
    repeat (first | go_big_quiet_step (exact day_agg _ _ _ _ _ _) | quiet_step (exact day_agg _ _ _ _ _ _))
    refine wpQuiet_nil ?_
    intro _ hw'
    obtain ⟨⟨dq, osq⟩, hw''⟩ := hw'
    subst hw''
    have bv := chain b (below_regrown u dq osq)
    generalize grow (redrawn u dq) osq = v at bv ⊢
    obtain ⟨i0, i1, i2⟩ := l0 v bv
    obtain ⟨i3, i4, i5⟩ := lV v bv
    have HBv := Lib.hid (chain HBV.out bv)
    clear bv k0 k1 k2 k3 k4 k5 g0 g1 g2 g3 g4 g5 l0 lV
    go_wp2_with fail
    refine (runs_any w _ HBv.out).mono ?_
    rintro e w6 ⟨rfl, b6⟩
    have HB6 := Lib.hid b6
    clear b6
    go_wp2_with fail
    go_ret
    exact ⟨rfl, HB6.out⟩
  · obtain ⟨rfl, rfl, rfl⟩ := Dt.num_inj HR2.out hr (by rw [HE2.out, hn, HE.out])
    have hl := Dt.len_lo (y := y) h3 h4
    clear hr hn HR2 HE2 HF2 HR HE HF hV
    have c1 : 28 ≤ d := by omega
    subst hm
    clear hd hl
    have c2 : (y + 1 == y) = false := beq_eq_false_iff_ne.2 (by omega)
    refine wp_region_quiet_below (by kernel_rfl) (by kernel_rfl) ?_
    repeat (first | go_big_quiet_step (exact day_agg _ _ _ _ _ _) | quiet_step (exact day_agg _ _ _ _ _ _))
    refine wpQuiet_nil ?_
    intro _ hw'
    obtain ⟨⟨dq, osq⟩, hw''⟩ := hw'
    subst hw''
    have bv := chain b (below_regrown u dq osq)
    generalize grow (redrawn u dq) osq = v at bv ⊢
    obtain ⟨i0, i1, i2⟩ := l0 v bv
    obtain ⟨i3, i4, i5⟩ := lV v bv
    have HBv := Lib.hid (chain HBV.out bv)
    clear bv k0 k1 k2 k3 k4 k5 g0 g1 g2 g3 g4 g5 l0 lV
    go_wp2_with fail
    refine (runs_any w _ HBv.out).mono ?_
    rintro e w6 ⟨rfl, b6⟩
    have HB6 := Lib.hid b6
    clear b6
    go_wp2_with fail
    go_ret
    exact ⟨rfl, HB6.out⟩
end Go.Proofs.Ytekegbnmmjhfiaa
