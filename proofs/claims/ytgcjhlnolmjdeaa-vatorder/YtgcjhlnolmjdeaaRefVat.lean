/- THE DOCUMENT's OWN ANSWER: impostref3's Row, before. -/
import Derived.Test.YtgcjhlnolmjdeaaVatK
import Derived.Test.YtgcjhlnolmjdeaaRefName
import Derived.Test.YtgcjhlnolmjdeaaRefDate
import Derived.Lib.QuietBelow
namespace Go.Proofs.Ytgcjhlnolmjdeaa
open Go.RowKit
open Vt (Rt)

set_option maxHeartbeats 1000000 in
theorem refRow_any (r : Rt) (w0 w : World) (hw : Below w0.heap.size w0 w) (hs : Short r) :
    Calls Try.prog 18 #[rowV r] w fun e w' => e = .returned (.int .i64 (Vt.rowE r)) ∧ Below w0.heap.size w0 w' := by
  have HW := Lib.hid hw
  have HS := Lib.hid hs
  clear hw hs
  obtain ⟨cat, y, m, d, bp⟩ := r
  unfold rowV Short at *
  dsimp only at *
  go_enter Try.func18, Try.ntmps18
  go_wp2_with fail
  refine (refName_any cat _ HS.out.1).mono ?_
  rintro e w1 ⟨rfl, b1⟩
  have hC := (rowC_box w ⟨cat, y, m, d, bp⟩).below b1
  have HC := Lib.hid hC
  unfold RowC at hC
  obtain ⟨c0, c1, c2, c3, c4⟩ := hC
  have HB1 := Lib.hid (bchain (below_box HW.out _) b1)
  clear b1
  cases hn : Rn.name (txt cat)
  · have HE := Lib.hid (Vt.rowE_name (r := ⟨cat, y, m, d, bp⟩) hn)
    go_wp2_with fail
    go_ret
    exact ⟨ret_int HE.out.symm, HB1.out⟩
  · have HN := Lib.hid hn
    go_wp2_with fail
    refine (refRight_any y m d _ _ (Below.refl _ _)).mono ?_
    rintro e w2 ⟨rfl, b2⟩
    have hC := HC.out.below b2
    unfold RowC at hC
    obtain ⟨c5, c6, c7, c8, c9⟩ := hC
    have HB2 := Lib.hid (bchain HB1.out b2)
    clear b2
    cases hr : Dt.rightB y m d
    · have HE := Lib.hid (Vt.rowE_day (r := ⟨cat, y, m, d, bp⟩) HN.out hr)
      go_wp2_with fail
      go_ret
      exact ⟨ret_int HE.out.symm, HB2.out⟩
    · have HR := Lib.hid hr
      by_cases h0 : bp < 0
      · have HE := Lib.hid (Vt.rowE_bp (r := ⟨cat, y, m, d, bp⟩) HN.out HR.out (.inl h0))
        go_wp2_with fail
        go_ret
        exact ⟨ret_int HE.out.symm, HB2.out⟩
      · by_cases h1 : 100000 < bp
        · have HE := Lib.hid (Vt.rowE_bp (r := ⟨cat, y, m, d, bp⟩) HN.out HR.out (.inr h1))
          go_wp2_with fail
          go_ret
          exact ⟨ret_int HE.out.symm, HB2.out⟩
        · have HE := Lib.hid (Vt.rowE_0 (r := ⟨cat, y, m, d, bp⟩) |>.2 ⟨HN.out, HR.out, Int.not_lt.1 h0, Int.not_lt.1 h1⟩)
          go_wp2_with fail
          go_ret
          exact ⟨ret_int HE.out.symm, HB2.out⟩
theorem refDays_agg (y m d : Int) (u : World) (i : Nat) (os : Array Obj) : Calls Try.prog 26 #[.agg #[.int .i64 y, .int .i64 m, .int .i64 d]] (Go.Sort.grow (redrawn u i) os) fun e w'' => e = .returned (.int .i64 (Dt.days y m d)) ∧ ∃ p : Regrown, w'' = Go.Sort.grow (redrawn u p.d) p.os :=
  Calls.regrown_of (refDays_any y m d _ _ (Below.refl _ _))
set_option maxHeartbeats 1000000 in
theorem refBefore_any (a b : Rt) (w0 w : World) (hw : Below w0.heap.size w0 w) :
    Calls Try.prog 34 #[rowV a, rowV b] w fun e w' => e = .returned (.bool (Vt.lt a b)) ∧ Below w0.heap.size w0 w' := by
  have HW := Lib.hid hw
  clear hw
  obtain ⟨W, hW, hbW, hA, hB⟩ := boxed2 w a b
  have HBW : Hid (Below w0.heap.size w0 W) := Lib.hid (bchain HW.out hbW)
  unfold RowC at hA hB
  obtain ⟨a0, a1, a2, a3, a4⟩ := hA
  obtain ⟨b0, b1, b2, b3, b4⟩ := hB
  by_cases hc : a.cat = b.cat
  · have HL := Lib.hid (Vt.lt_same hc)
    have k1 := cell_regrown a1
    have k2 := cell_regrown a2
    have k3 := cell_regrown a3
    have k4 := cell_regrown b1
    have k5 := cell_regrown b2
    have k6 := cell_regrown b3
    have hy : (a.cat.toList == b.cat.toList) = true := beq_iff_eq.2 (by rw [hc])
    have e1 : Hid (Vt.dy a = Dt.days a.y a.m a.d) := rfl
    have e2 : Hid (Vt.dy b = Dt.days b.y b.m b.d) := rfl
    clear hbW hc
    unfold rowV
    go_enter Try.func34, Try.ntmps34
    go_wp2
    refine wp_region_quiet_below (by kernel_rfl) (by kernel_rfl) ?_
    repeat (first | go_big_quiet_step (exact refDays_agg _ _ _ _ _ _) | quiet_step (exact refDays_agg _ _ _ _ _ _))
    refine wpQuiet_nil ?_
    intro _ hw'
    obtain ⟨⟨dq, osq⟩, hw''⟩ := hw'
    subst hw''
    have HBv := Lib.hid (bchain HBW.out (below_regrown W dq osq))
    go_wp2
    go_ret
    exact ⟨ret_bool (by rw [HL.out, e1.out, e2.out]), HBv.out⟩
  · have HL := Lib.hid (Vt.lt_other hc)
    have hy : (a.cat.toList == b.cat.toList) = false := beq_eq_false_iff_ne.2 fun k => hc (Vt.cat_ext k)
    clear hbW hc
    unfold rowV
    go_enter Try.func34, Try.ntmps34
    go_wp2
    go_ret
    exact ⟨ret_bool HL.out.symm, HBW.out⟩
end Go.Proofs.Ytgcjhlnolmjdeaa
