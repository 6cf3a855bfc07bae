/- CONTRACTS OF PACKAGE vat: Row, ahead, bare. -/
import Derived.Test.YtgcjhlnolmjdeaaVatK
import Derived.Test.YtgcjhlnolmjdeaaSignN
import Derived.Test.YtgcjhlnolmjdeaaDateB
import Derived.Lib.QuietBelow
namespace Go.Proofs.Ytgcjhlnolmjdeaa
open Go.RowKit
open Vt (Rt)

set_option maxHeartbeats 1000000 in
theorem vat_row (r : Rt) (w0 w : World) (hw : Below w0.heap.size w0 w) (hs : Short r) :
    Calls Try.prog 17 #[rowV r] w fun e w' => e = .returned (.int .i64 (Vt.rowE r)) ∧ Below w0.heap.size w0 w' := by
  have HW := Lib.hid hw
  have HS := Lib.hid hs
  clear hw hs
  obtain ⟨cat, y, m, d, bp⟩ := r
  unfold rowV Short at *
  dsimp only at *
  go_enter Try.func17, Try.ntmps17
  go_wp2_with fail
  refine (name_any cat _ HS.out.1).mono ?_
  rintro e w1 ⟨rfl, b1⟩
  have hC := (rowC_box w ⟨cat, y, m, d, bp⟩).below b1
  have HC := Lib.hid hC
  unfold RowC at hC
  obtain ⟨c0, c1, c2, c3, c4⟩ := hC
  have HB1 := Lib.hid (bchain (below_box HW.out _) b1)
  clear b1
  cases hn : Rn.name (txt cat)
  · have HE := Lib.hid (Vt.rowE_name (r := ⟨cat, y, m, d, bp⟩) hn)
    go_wp2_with fail
    go_ret
    exact ⟨ret_int HE.out.symm, HB1.out⟩
  · have HN := Lib.hid hn
    go_wp2_with fail
    refine (right_date y m d _ _ (Below.refl _ _) HS.out.2.1 HS.out.2.2.1 HS.out.2.2.2.1).mono ?_
    rintro e w2 ⟨rfl, b2⟩
    have hC := HC.out.below b2
    unfold RowC at hC
    obtain ⟨c5, c6, c7, c8, c9⟩ := hC
    have HB2 := Lib.hid (bchain HB1.out b2)
    clear b2
    cases hr : Dt.rightB y m d
    · have HE := Lib.hid (Vt.rowE_day (r := ⟨cat, y, m, d, bp⟩) HN.out hr)
      go_wp2_with fail
      go_ret
      exact ⟨ret_int HE.out.symm, HB2.out⟩
    · have HR := Lib.hid hr
      by_cases h0 : bp < 0
      · have HE := Lib.hid (Vt.rowE_bp (r := ⟨cat, y, m, d, bp⟩) HN.out HR.out (.inl h0))
        go_wp2_with fail
        go_ret
        exact ⟨ret_int HE.out.symm, HB2.out⟩
      · by_cases h1 : 100000 < bp
        · have HE := Lib.hid (Vt.rowE_bp (r := ⟨cat, y, m, d, bp⟩) HN.out HR.out (.inr h1))
          go_wp2_with fail
          go_ret
          exact ⟨ret_int HE.out.symm, HB2.out⟩
        · have HE := Lib.hid (Vt.rowE_0 (r := ⟨cat, y, m, d, bp⟩) |>.2 ⟨HN.out, HR.out, Int.not_lt.1 h0, Int.not_lt.1 h1⟩)
          go_wp2_with fail
          go_ret
          exact ⟨ret_int HE.out.symm, HB2.out⟩
theorem less_self (a : Rt) : Op.bytesLess a.cat.toList a.cat.toList = false := Vt.less_irrefl _
set_option maxHeartbeats 1000000 in
/-- of right days alone: Before asks for them -/
theorem vat_ahead (a b : Rt) (w0 w : World) (hw : Below w0.heap.size w0 w) (ha : Short a) (hb : Short b) (ra : Dt.rightB a.y a.m a.d = true) (rb : Dt.rightB b.y b.m b.d = true) :
    Calls Try.prog 27 #[rowV a, rowV b] w fun e w' => e = .returned (.bool (Vt.lt a b)) ∧ Below w0.heap.size w0 w' := by
  have HW := Lib.hid hw
  have HA := Lib.hid ha
  have HB := Lib.hid hb
  have HRR := Lib.hid (ahead_both ra rb)
  clear hw ha hb ra rb
  obtain ⟨W, hW, hbW, hA, hB⟩ := boxed2 w a b
  have HBW : Hid (Below w0.heap.size w0 W) := Lib.hid (bchain HW.out hbW)
  unfold RowC at hA hB
  obtain ⟨a0, a1, a2, a3, a4⟩ := hA
  obtain ⟨b0, b1, b2, b3, b4⟩ := hB
  by_cases hc : a.cat = b.cat
  · have HL := Lib.hid (Vt.lt_same hc)
    have hy : (a.cat.toList == b.cat.toList) = true := beq_iff_eq.2 (by rw [hc])
    have hlf : Op.bytesLess a.cat.toList b.cat.toList = false := by rw [hc]; exact less_self b
    have e1 : Hid (Vt.dy a = Dt.days a.y a.m a.d) := rfl
    have e2 : Hid (Vt.dy b = Dt.days b.y b.m b.d) := rfl
    clear hbW hc
    unfold rowV
    go_enter Try.func27, Try.ntmps27
    go_wp2_with fail
    refine (before_date a.y a.m a.d b.y b.m b.d w0 _ HBW.out HA.out.2.1 HA.out.2.2.1 HA.out.2.2.2.1 HB.out.2.1 HB.out.2.2.1 HB.out.2.2.2.1).mono ?_
    rintro e w1 ⟨rfl, b5⟩
    have HB1 := Lib.hid b5
    clear b5
    go_wp2_with fail
    go_ret
    exact ⟨ret_bool (by rw [HL.out, e1.out, e2.out, HRR.out]), HB1.out⟩
  · have HL := Lib.hid (Vt.lt_other hc)
    have hy : (a.cat.toList == b.cat.toList) = false := beq_eq_false_iff_ne.2 fun k => hc (Vt.cat_ext k)
    clear hbW hc
    unfold rowV
    cases hl : Op.bytesLess a.cat.toList b.cat.toList
    · go_enter Try.func27, Try.ntmps27
      go_wp2_with fail
      go_ret
      exact ⟨ret_bool (by rw [HL.out, hl]), HBW.out⟩
    · go_enter Try.func27, Try.ntmps27
      go_wp2_with fail
      go_ret
      exact ⟨ret_bool (by rw [HL.out, hl]), HBW.out⟩
theorem vat_bare (r : Rt) (w0 w : World) (hw : Below w0.heap.size w0 w) :
    Calls Try.prog 36 #[rowV r] w fun e w' => e = .returned (rowV { r with bp := 0 }) ∧ Below w0.heap.size w0 w' := by
  have HW := Lib.hid hw
  clear hw
  obtain ⟨cat, y, m, d, bp⟩ := r
  unfold rowV
  go_enter Try.func36, Try.ntmps36
  go_wp2
  exact bodyPost_ret (v := rowV ⟨cat, y, m, d, 0⟩) (by simp [results, rowV, Try.results36, go_sem]) rfl ⟨rfl, below_box (below_box HW.out _) _⟩
end Go.Proofs.Ytgcjhlnolmjdeaa
