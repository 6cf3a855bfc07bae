/- MERGED: VatA, RefName, RefDate, RefVat, RefTable, VatR, RefFind, VatF. (By mg11.py.) -/
import Derived.Test.YthcaecinjmnlbaaHd
import Derived.Lib.QuietBelow
/- CONTRACTS OF PACKAGE vat: Row, ahead, bare. -/
namespace Go.Proofs.Ythcaecinjmnlbaa
open Go.RowKit
open Vt (Rt)

set_option maxHeartbeats 1000000 in
theorem vat_row (r : Rt) (w0 w : World) (hw : Below w0.heap.size w0 w) (hs : Short r) :
    Calls Try.prog 55 #[rowV r] w fun e w' => e = .returned (.int .i64 (Vt.rowE r)) ∧ Below w0.heap.size w0 w' := by
  have HW := Lib.hid hw
  have HS := Lib.hid hs
  clear hw hs
  obtain ⟨cat, y, m, d, bp⟩ := r
  unfold rowV Short at *
  dsimp only at *
  go_enter Try.func55, Try.ntmps55
  go_wp2_with fail
  refine (name_any cat _ HS.out.1).mono ?_
  rintro e w1 ⟨rfl, b1⟩
  have hC := (rowC_box w ⟨cat, y, m, d, bp⟩).below b1
  have HC := Lib.hid hC
  unfold RowC at hC
  obtain ⟨c0, c1, c2, c3, c4⟩ := hC
  have HB1 := Lib.hid (bchain (below_box HW.out _) b1)
  clear b1
  cases hn : Rn.name (txt cat)
  · have HE := Lib.hid (Vt.rowE_name (r := ⟨cat, y, m, d, bp⟩) hn)
    go_wp2_with fail
    go_ret
    exact ⟨ret_int HE.out.symm, HB1.out⟩
  · have HN := Lib.hid hn
    go_wp2_with fail
    refine (right_date y m d _ _ (Below.refl _ _) HS.out.2.1 HS.out.2.2.1 HS.out.2.2.2.1).mono ?_
    rintro e w2 ⟨rfl, b2⟩
    have hC := HC.out.below b2
    unfold RowC at hC
    obtain ⟨c5, c6, c7, c8, c9⟩ := hC
    have HB2 := Lib.hid (bchain HB1.out b2)
    clear b2
    cases hr : Dt.rightB y m d
    · have HE := Lib.hid (Vt.rowE_day (r := ⟨cat, y, m, d, bp⟩) HN.out hr)
      go_wp2_with fail
      go_ret
      exact ⟨ret_int HE.out.symm, HB2.out⟩
    · have HR := Lib.hid hr
      by_cases h0 : bp < 0
      · have HE := Lib.hid (Vt.rowE_bp (r := ⟨cat, y, m, d, bp⟩) HN.out HR.out (.inl h0))
        go_wp2_with fail
        go_ret
        exact ⟨ret_int HE.out.symm, HB2.out⟩
      · by_cases h1 : 100000 < bp
        · have HE := Lib.hid (Vt.rowE_bp (r := ⟨cat, y, m, d, bp⟩) HN.out HR.out (.inr h1))
          go_wp2_with fail
          go_ret
          exact ⟨ret_int HE.out.symm, HB2.out⟩
        · have HE := Lib.hid (Vt.rowE_0 (r := ⟨cat, y, m, d, bp⟩) |>.2 ⟨HN.out, HR.out, Int.not_lt.1 h0, Int.not_lt.1 h1⟩)
          go_wp2_with fail
          go_ret
          exact ⟨ret_int HE.out.symm, HB2.out⟩
theorem less_self (a : Rt) : Op.bytesLess a.cat.toList a.cat.toList = false := Vt.less_irrefl _
set_option maxHeartbeats 1000000 in
/-- of right days alone: Before asks for them -/
theorem vat_ahead (a b : Rt) (w0 w : World) (hw : Below w0.heap.size w0 w) (ha : Short a) (hb : Short b) (ra : Dt.rightB a.y a.m a.d = true) (rb : Dt.rightB b.y b.m b.d = true) :
    Calls Try.prog 59 #[rowV a, rowV b] w fun e w' => e = .returned (.bool (Vt.lt a b)) ∧ Below w0.heap.size w0 w' := by
  have HW := Lib.hid hw
  have HA := Lib.hid ha
  have HB := Lib.hid hb
  have HRR := Lib.hid (ahead_both ra rb)
  clear hw ha hb ra rb
  obtain ⟨W, hW, hbW, hA, hB⟩ := boxed2 w a b
  have HBW : Hid (Below w0.heap.size w0 W) := Lib.hid (bchain HW.out hbW)
  unfold RowC at hA hB
  obtain ⟨a0, a1, a2, a3, a4⟩ := hA
  obtain ⟨b0, b1, b2, b3, b4⟩ := hB
  by_cases hc : a.cat = b.cat
  · have HL := Lib.hid (Vt.lt_same hc)
    have hy : (a.cat.toList == b.cat.toList) = true := beq_iff_eq.2 (by rw [hc])
    have hlf : Op.bytesLess a.cat.toList b.cat.toList = false := by rw [hc]; exact less_self b
    have e1 : Hid (Vt.dy a = Dt.days a.y a.m a.d) := rfl
    have e2 : Hid (Vt.dy b = Dt.days b.y b.m b.d) := rfl
    clear hbW hc
    unfold rowV
    go_enter Try.func59, Try.ntmps59
    go_wp2_with fail
    refine (before_date a.y a.m a.d b.y b.m b.d w0 _ HBW.out HA.out.2.1 HA.out.2.2.1 HA.out.2.2.2.1 HB.out.2.1 HB.out.2.2.1 HB.out.2.2.2.1).mono ?_
    rintro e w1 ⟨rfl, b5⟩
    have HB1 := Lib.hid b5
    clear b5
    go_wp2_with fail
    go_ret
    exact ⟨ret_bool (by rw [HL.out, e1.out, e2.out, HRR.out]), HB1.out⟩
  · have HL := Lib.hid (Vt.lt_other hc)
    have hy : (a.cat.toList == b.cat.toList) = false := beq_eq_false_iff_ne.2 fun k => hc (Vt.cat_ext k)
    clear hbW hc
    unfold rowV
    cases hl : Op.bytesLess a.cat.toList b.cat.toList
    · go_enter Try.func59, Try.ntmps59
      go_wp2_with fail
      go_ret
      exact ⟨ret_bool (by rw [HL.out, hl]), HBW.out⟩
    · go_enter Try.func59, Try.ntmps59
      go_wp2_with fail
      go_ret
      exact ⟨ret_bool (by rw [HL.out, hl]), HBW.out⟩
theorem vat_bare (r : Rt) (w0 w : World) (hw : Below w0.heap.size w0 w) :
    Calls Try.prog 71 #[rowV r] w fun e w' => e = .returned (rowV { r with bp := 0 }) ∧ Below w0.heap.size w0 w' := by
  have HW := Lib.hid hw
  clear hw
  obtain ⟨cat, y, m, d, bp⟩ := r
  unfold rowV
  go_enter Try.func71, Try.ntmps71
  go_wp2
  exact bodyPost_ret (v := rowV ⟨cat, y, m, d, 0⟩) (by simp [results, rowV, Try.results71, go_sem]) rfl ⟨rfl, below_box (below_box HW.out _) _⟩
end Go.Proofs.Ythcaecinjmnlbaa

/- THE DOCUMENT's OWN ANSWER: impostref3's Letter, Name. -/
namespace Go.Proofs.Ythcaecinjmnlbaa
open Go.RowKit

theorem refLetter_any (r : Int) (w : World) :
    Calls Try.prog 52 #[.int .i32 r] w fun e w' => e = .returned (.bool (Rn.letter r)) ∧ w' = w := by
  go_enter Try.func52, Try.ntmps52
  have hc : r < 65 ∨ (65 ≤ r ∧ r ≤ 90) ∨ (90 < r ∧ r < 97) ∨ (97 ≤ r ∧ r ≤ 122) ∨ (122 < r ∧ r < 192) ∨ r = 215 ∨ (192 ≤ r ∧ r ≤ 591 ∧ ¬ r = 215) ∨ 591 < r := by omega
  rcases hc with h | ⟨h1, h2⟩ | ⟨h1, h2⟩ | ⟨h1, h2⟩ | ⟨h1, h2⟩ | h | ⟨h1, h2, h3⟩ | h
  case inr.inr.inr.inr.inr.inl =>
    subst h
    go_wp2
    go_ret
    exact ⟨rfl, rfl⟩
  all_goals (
    go_wp2
    go_ret
    refine ⟨ret_bool ?_, rfl⟩
    rw [Bool.eq_iff_iff]
    simp [Rn.letter]
    omega)

set_option maxHeartbeats 1000000 in
theorem refName_any (s : ByteArray) (w : World) (hs : s.size ≤ 140737488355328) :
    Calls Try.prog 30 #[.string s] w fun e w' => e = .returned (.bool (Rn.name (txt s))) ∧ Below w.heap.size w w' := by
  by_cases hn : s.toList = []
  · have HN : Hid (Rn.name (txt s) = false) := name_long s (.inl hn)
    go_enter Try.func30, Try.ntmps30
    go_wp2
    go_ret
    exact ⟨ret_bool HN.out.symm, Below.refl _ _⟩
  have hn2 : s.toList.isEmpty = false := by cases e : s.toList with | nil => exact absurd e hn | cons _ _ => rfl
  by_cases h24 : 24 < s.size
  · have HN : Hid (Rn.name (txt s) = false) := name_long s (.inr h24)
    go_enter Try.func30, Try.ntmps30
    go_wp2
    go_ret
    exact ⟨ret_bool HN.out.symm, Below.refl _ _⟩
  have HN : Hid (Rn.name (txt s) = Rn.nameOk true (Rn.runes (txt s))) := name_short s hn (by omega)
  go_enter Try.func30, Try.ntmps30
  go_wp2
  clear hn hn2
  go_loopw [3, 4] (fun _ _ w' => ∃ (pos : Nat), w' = w.iter s pos ∧ Hid (Rn.nameOk (decide (pos = 0)) (Rn.runes ((txt s).drop pos)) = Rn.nameOk true (Rn.runes (txt s))) ∧ pos ≤ s.size) (fun _ _ w' => s.size - w'.iterPos w.heap.size)
  case atStart => exact ⟨0, rfl, by show _ = _; simp, by omega⟩
  case round =>
    obtain ⟨pos, rfl, HC, hb⟩ := hrel
    by_cases hp : pos < s.size
    · have hnx : ∀ ty, (Instr.next (.pointer (some ⟨w.heap.size, 0, none⟩)) true ty).run Try.prog (w.iter s pos) = _ := fun ty => run_next_any w s pos ty hp
      have hwd := dec_pos s pos
      have hle := dec_le s pos hp
      have HS : Hid (Rn.nameOk (decide (pos = 0)) (Rn.runes ((txt s).drop pos)) = ((Rn.letter ((Utf8.decode s pos).1 : Int) || (!decide (pos = 0) && Rn.inner ((Utf8.decode s pos).1 : Int))) && Rn.nameOk (decide (pos + (Utf8.decode s pos).2 = 0)) (Rn.runes ((txt s).drop (pos + (Utf8.decode s pos).2))))) := by
        show _ = _
        rw [runes_at s pos hp, Rn.nameOk, show decide (pos + (Utf8.decode s pos).2 = 0) = false from decide_eq_false (by omega)]
      go_wp2_with fail
      refine (refLetter_any _ _).mono ?_
      rintro e _ ⟨rfl, rfl⟩
      cases hL : Rn.letter ((Utf8.decode s pos).1 : Int)
      · by_cases h0 : pos = 0
        · go_wp2
          go_ret
          refine ⟨ret_bool ?_, below_iter w s _⟩
          rw [HN.out, ← HC.out, HS.out, hL]
          simp [h0]
        · have hp0 : ((pos : Int) == 0) = false := by simp; omega
          generalize hr : ((Utf8.decode s pos).1 : Int) = r at *
          cases hI : Rn.inner r
          · have hc : (r < 48 ∧ ¬ r = 45 ∧ ¬ r = 46) ∨ (57 < r ∧ ¬ r = 95) := by
              simp only [Rn.inner, Rn.digit, Bool.or_eq_false_iff, decide_eq_false_iff_not] at hI
              omega
            have hc2 : ¬ r = 45 ∧ ¬ r = 95 ∧ ¬ r = 46 := by
              simp only [Rn.inner, Rn.digit, Bool.or_eq_false_iff, decide_eq_false_iff_not] at hI
              omega
            obtain ⟨e1, e2, e3⟩ := hc2
            have b1 : (r != 45) = true := by simpa using e1
            have b2 : (r != 95) = true := by simpa using e2
            have b3 : (r != 46) = true := by simpa using e3
            rcases hc with ⟨c1, _⟩ | ⟨c1, _⟩
            all_goals (
              go_wp2
              go_ret
              refine ⟨ret_bool ?_, below_iter w s _⟩
              rw [HN.out, ← HC.out, HS.out, hL, hI]
              simp)
          · have hc : (48 ≤ r ∧ r ≤ 57) ∨ r = 45 ∨ r = 95 ∨ r = 46 := by
              simp only [Rn.inner, Rn.digit, Bool.or_eq_true, decide_eq_true_eq] at hI
              omega
            rcases hc with ⟨c1, c2⟩ | c1 | c1 | c1
            all_goals (
              try subst c1
              go_wp2
              go_roundw
              case rel =>
                refine ⟨pos + (Utf8.decode s pos).2, rfl, ?_, by omega⟩
                show _ = _
                rw [← HC.out, HS.out, hL, hI]
                simp [h0]
              case measure =>
                simp
                omega)
      · go_wp2
        go_roundw
        case rel =>
          refine ⟨pos + (Utf8.decode s pos).2, rfl, ?_, by omega⟩
          show _ = _
          rw [← HC.out, HS.out, hL]
          simp
        case measure =>
          simp
          omega
    · have hnx : ∀ ty, (Instr.next (.pointer (some ⟨w.heap.size, 0, none⟩)) true ty).run Try.prog (w.iter s pos) = _ := fun ty => run_next_end w s pos ty hp
      go_wp2
      go_ret
      refine ⟨ret_bool ?_, below_iter w s pos⟩
      rw [HN.out, ← HC.out, runes_end s pos hp]
      rfl

theorem refName_gen (s : ByteArray) (w0 w : World) (hb : Below w0.heap.size w0 w) (hs : s.size ≤ 140737488355328) :
    Calls Try.prog 30 #[.string s] w fun e w' => e = .returned (.bool (Rn.name (txt s))) ∧ Below w0.heap.size w0 w' :=
  (refName_any s w hs).mono fun _ _ ⟨h1, h2⟩ => ⟨h1, hb.trans (h2.mono hb.size)⟩
end Go.Proofs.Ythcaecinjmnlbaa

/- THE DOCUMENT's OWN ANSWER: impostref3's leap, Length, Right, Days. -/
namespace Go.Proofs.Ythcaecinjmnlbaa
open Go.RowKit

theorem leap_any (y : Int) (w : World) (h0 : 0 ≤ y) (h1 : y ≤ 10000) :
    Calls Try.prog 70 #[.int .i64 y] w fun e w' => e = .returned (.bool (Dt.leapB y)) ∧ w' = w := by
  go_enter Try.func70, Try.ntmps70
  by_cases a1 : y % 4 = 0
  · by_cases a2 : y % 100 = 0
    · go_wp2
      go_ret
      refine ⟨ret_bool ?_, rfl⟩
      rw [Bool.eq_iff_iff, Dt.leap_iff, beq_iff_eq]
      omega
    · have a3 : (y % 100 != 0) = true := bne_iff_ne.2 a2
      go_wp2
      go_ret
      exact ⟨ret_bool ((Dt.leap_iff y).2 ⟨a1, .inl a2⟩).symm, rfl⟩
  · have a2 : (y % 4 == 0) = false := beq_eq_false_iff_ne.2 a1
    go_wp2
    go_ret
    refine ⟨ret_bool ?_, rfl⟩
    rw [eq_comm, Bool.eq_false_iff]
    intro h
    exact a1 ((Dt.leap_iff y).1 h).1
theorem length_any (y m : Int) (w : World) (h0 : 0 ≤ y) (h1 : y ≤ 10000) :
    Calls Try.prog 51 #[.int .i64 y, .int .i64 m] w fun e w' => e = .returned (.int .i64 (Dt.len y m)) ∧ w' = w := by
  by_cases h : m < 1 ∨ 12 < m
  · have HL := Lib.hid (Dt.len_0 (y := y) h)
    have e1 : (m == 1) = false := beq_eq_false_iff_ne.2 (by omega)
    have e2 : (m == 2) = false := beq_eq_false_iff_ne.2 (by omega)
    have e3 : (m == 3) = false := beq_eq_false_iff_ne.2 (by omega)
    have e4 : (m == 4) = false := beq_eq_false_iff_ne.2 (by omega)
    have e5 : (m == 5) = false := beq_eq_false_iff_ne.2 (by omega)
    have e6 : (m == 6) = false := beq_eq_false_iff_ne.2 (by omega)
    have e7 : (m == 7) = false := beq_eq_false_iff_ne.2 (by omega)
    have e8 : (m == 8) = false := beq_eq_false_iff_ne.2 (by omega)
    have e9 : (m == 9) = false := beq_eq_false_iff_ne.2 (by omega)
    have e10 : (m == 10) = false := beq_eq_false_iff_ne.2 (by omega)
    have e11 : (m == 11) = false := beq_eq_false_iff_ne.2 (by omega)
    have e12 : (m == 12) = false := beq_eq_false_iff_ne.2 (by omega)
    clear h
    go_enter Try.func51, Try.ntmps51
    go_wp2_with fail
    go_ret
    exact ⟨ret_int HL.out.symm, rfl⟩
  · have hm : m = 1 ∨ m = 2 ∨ m = 3 ∨ m = 4 ∨ m = 5 ∨ m = 6 ∨ m = 7 ∨ m = 8 ∨ m = 9 ∨ m = 10 ∨ m = 11 ∨ m = 12 := by omega
    clear h
    by_cases h2 : m = 2
    · subst h2
      clear hm
      by_cases hl : Dt.leapB y = true
      · have HL : Hid (Dt.len y 2 = 29) := Lib.hid (by rw [Dt.len_2, Dt.lp_true hl]; rfl)
        go_enter Try.func51, Try.ntmps51
        go_wp2_with fail
        refine (leap_any y _ h0 h1).mono ?_
        rintro e w1 ⟨rfl, hw1⟩
        subst hw1
        rw [hl]
        go_wp2_with fail
        go_ret
        exact ⟨ret_int HL.out.symm, rfl⟩
      · have hl' : Dt.leapB y = false := by simpa using hl
        have HL : Hid (Dt.len y 2 = 28) := Lib.hid (by rw [Dt.len_2, Dt.lp_false hl']; rfl)
        clear hl
        go_enter Try.func51, Try.ntmps51
        go_wp2_with fail
        refine (leap_any y _ h0 h1).mono ?_
        rintro e w1 ⟨rfl, hw1⟩
        subst hw1
        rw [hl']
        go_wp2_with fail
        go_ret
        exact ⟨ret_int HL.out.symm, rfl⟩
    · by_cases h3 : m = 4 ∨ m = 6 ∨ m = 9 ∨ m = 11
      · have HL := Lib.hid (Dt.len_30 (y := y) h3)
        clear hm h2
        rcases h3 with rfl | rfl | rfl | rfl
        all_goals
          go_enter Try.func51, Try.ntmps51
          go_wp2_with fail
          go_ret
          exact ⟨ret_int HL.out.symm, rfl⟩
      · have h4 : m = 1 ∨ m = 3 ∨ m = 5 ∨ m = 7 ∨ m = 8 ∨ m = 10 ∨ m = 12 := by omega
        have HL := Lib.hid (Dt.len_31 (y := y) h4)
        clear hm h2 h3
        rcases h4 with rfl | rfl | rfl | rfl | rfl | rfl | rfl
        all_goals
          go_enter Try.func51, Try.ntmps51
          go_wp2_with fail
          go_ret
          exact ⟨ret_int HL.out.symm, rfl⟩
set_option maxHeartbeats 1000000 in
theorem refRight_any (y m d : Int) (w0 w : World) (hw : Below w0.heap.size w0 w) :
    Calls Try.prog 29 #[dayV y m d] w fun e w' => e = .returned (.bool (Dt.rightB y m d)) ∧ Below w0.heap.size w0 w' := by
  have HW := Lib.hid hw
  clear hw
  unfold dayV
  by_cases h1 : 1 ≤ y
  · by_cases h2 : y ≤ 9999
    · by_cases h3 : 1 ≤ d
      · have HR := Lib.hid (right_len (m := m) h1 h2 h3)
        go_enter Try.func29, Try.ntmps29
        go_wp2
        go_quiet ((go_at_call 51; exact Calls.quiet_of_same (length_any _ _ _ (by omega) (by omega))))
        go_wp2
        go_ret
        exact ⟨ret_bool HR.out.symm, below_drewN (below_box HW.out _) _⟩
      · have HR := Lib.hid (right_none (y := y) (m := m) (.inr (.inr h3)))
        have hf : decide (1 ≤ d) = false := decide_eq_false h3
        go_enter Try.func29, Try.ntmps29
        go_wp2
        go_quiet (fail)
        go_wp2
        go_ret
        exact ⟨ret_bool HR.out.symm, below_drewN (below_box HW.out _) _⟩
    · have HR := Lib.hid (right_none (m := m) (d := d) (.inr (.inl h2)))
      have hf : decide (y ≤ 9999) = false := decide_eq_false h2
      go_enter Try.func29, Try.ntmps29
      go_wp2
      go_quiet (fail)
      go_wp2
      go_ret
      exact ⟨ret_bool HR.out.symm, below_drewN (below_box HW.out _) _⟩
  · have HR := Lib.hid (right_none (m := m) (d := d) (.inl h1))
    have hf : decide (1 ≤ y) = false := decide_eq_false h1
    go_enter Try.func29, Try.ntmps29
    go_wp2
    go_quiet (fail)
    go_wp2
    go_ret
    exact ⟨ret_bool HR.out.symm, below_drewN (below_box HW.out _) _⟩
set_option maxHeartbeats 1000000 in
theorem refDays_any (y m d : Int) (w0 w : World) (hw : Below w0.heap.size w0 w) :
    Calls Try.prog 53 #[dayV y m d] w fun e w' => e = .returned (.int .i64 (Dt.days y m d)) ∧ Below w0.heap.size w0 w' := by
  have HW := Lib.hid hw
  clear hw
  unfold dayV
  by_cases h : Dt.rightB y m d = true
  · rw [Dt.days_right h]
    obtain ⟨h1, h2, h3, h4, h5, h6⟩ := Dt.right_bd h
    have hn := Lib.hid (Dt.num_bd h)
    obtain ⟨hy0, hy1⟩ := Dt.yd_bd h1 (show y ≤ 10000 by omega)
    go_enter Try.func53, Try.ntmps53
    go_wp2_with fail
    refine (refRight_any y m d _ _ (Below.refl _ _)).mono ?_
    rintro e w1 ⟨rfl, b1⟩
    have HB1 := Lib.hid ((below_box HW.out _).trans (b1.mono (below_box HW.out _).size))
    obtain ⟨hc, hf⟩ := bcell b1
    clear b1
    rw [h]
    go_wp2
    go_loop [4, 5] (fun n i => ∃ k : Int, 1 ≤ k ∧ k ≤ m ∧ i = .int .i64 k ∧ n = .int .i64 (Dt.yd y + Dt.cum y k)) (fun _ i => (m - intOf i).toNat)
    case atStart => exact ⟨1, by omega, h3, rfl, by rw [Dt.cum_1, Int.add_zero]; rfl⟩
    case round =>
      obtain ⟨k, hk0, hk1, rfl, rfl⟩ := hrel
      have hcb := Dt.cum_bd (y := y) hk0 (show k ≤ 13 by omega)
      by_cases hlt : k < m
      · have hlb := Dt.len_bd y k
        have HS := Lib.hid (Dt.cum_succ y k hk0 (by omega))
        go_wp2_with fail
        refine (length_any y k _ (by omega) (by omega)).mono ?_
        rintro e w2 ⟨rfl, hw2⟩
        subst hw2
        go_wp2
        go_round
        case rel => exact ⟨k + 1, by omega, by omega, rfl, by rw [HS.out, ← Int.add_assoc]⟩
        case measure => simp [intOf]; omega
      · obtain rfl : k = m := by omega
        go_wp2
        go_ret
        exact ⟨rfl, HB1.out⟩
  · have h' : Dt.rightB y m d = false := by simpa using h
    rw [Dt.days_not h']
    go_enter Try.func53, Try.ntmps53
    go_wp2_with fail
    refine (refRight_any y m d w0 _ (below_box HW.out _)).mono ?_
    rintro e w1 ⟨rfl, b1⟩
    have HB1 := Lib.hid b1
    clear b1
    rw [h']
    go_wp2
    go_ret
    exact ⟨rfl, HB1.out⟩
end Go.Proofs.Ythcaecinjmnlbaa

/- THE DOCUMENT's OWN ANSWER: impostref3's Row, before. -/
namespace Go.Proofs.Ythcaecinjmnlbaa
open Go.RowKit
open Vt (Rt)

set_option maxHeartbeats 1000000 in
theorem refRow_any (r : Rt) (w0 w : World) (hw : Below w0.heap.size w0 w) (hs : Short r) :
    Calls Try.prog 49 #[rowV r] w fun e w' => e = .returned (.int .i64 (Vt.rowE r)) ∧ Below w0.heap.size w0 w' := by
  have HW := Lib.hid hw
  have HS := Lib.hid hs
  clear hw hs
  obtain ⟨cat, y, m, d, bp⟩ := r
  unfold rowV Short at *
  dsimp only at *
  go_enter Try.func49, Try.ntmps49
  go_wp2_with fail
  refine (refName_any cat _ HS.out.1).mono ?_
  rintro e w1 ⟨rfl, b1⟩
  have hC := (rowC_box w ⟨cat, y, m, d, bp⟩).below b1
  have HC := Lib.hid hC
  unfold RowC at hC
  obtain ⟨c0, c1, c2, c3, c4⟩ := hC
  have HB1 := Lib.hid (bchain (below_box HW.out _) b1)
  clear b1
  cases hn : Rn.name (txt cat)
  · have HE := Lib.hid (Vt.rowE_name (r := ⟨cat, y, m, d, bp⟩) hn)
    go_wp2_with fail
    go_ret
    exact ⟨ret_int HE.out.symm, HB1.out⟩
  · have HN := Lib.hid hn
    go_wp2_with fail
    refine (refRight_any y m d _ _ (Below.refl _ _)).mono ?_
    rintro e w2 ⟨rfl, b2⟩
    have hC := HC.out.below b2
    unfold RowC at hC
    obtain ⟨c5, c6, c7, c8, c9⟩ := hC
    have HB2 := Lib.hid (bchain HB1.out b2)
    clear b2
    cases hr : Dt.rightB y m d
    · have HE := Lib.hid (Vt.rowE_day (r := ⟨cat, y, m, d, bp⟩) HN.out hr)
      go_wp2_with fail
      go_ret
      exact ⟨ret_int HE.out.symm, HB2.out⟩
    · have HR := Lib.hid hr
      by_cases h0 : bp < 0
      · have HE := Lib.hid (Vt.rowE_bp (r := ⟨cat, y, m, d, bp⟩) HN.out HR.out (.inl h0))
        go_wp2_with fail
        go_ret
        exact ⟨ret_int HE.out.symm, HB2.out⟩
      · by_cases h1 : 100000 < bp
        · have HE := Lib.hid (Vt.rowE_bp (r := ⟨cat, y, m, d, bp⟩) HN.out HR.out (.inr h1))
          go_wp2_with fail
          go_ret
          exact ⟨ret_int HE.out.symm, HB2.out⟩
        · have HE := Lib.hid (Vt.rowE_0 (r := ⟨cat, y, m, d, bp⟩) |>.2 ⟨HN.out, HR.out, Int.not_lt.1 h0, Int.not_lt.1 h1⟩)
          go_wp2_with fail
          go_ret
          exact ⟨ret_int HE.out.symm, HB2.out⟩
theorem refDays_agg (y m d : Int) (u : World) (i : Nat) (os : Array Obj) : Calls Try.prog 53 #[.agg #[.int .i64 y, .int .i64 m, .int .i64 d]] (Go.Sort.grow (redrawn u i) os) fun e w'' => e = .returned (.int .i64 (Dt.days y m d)) ∧ ∃ p : Regrown, w'' = Go.Sort.grow (redrawn u p.d) p.os :=
  Calls.regrown_of (refDays_any y m d _ _ (Below.refl _ _))
set_option maxHeartbeats 1000000 in
theorem refBefore_any (a b : Rt) (w0 w : World) (hw : Below w0.heap.size w0 w) :
    Calls Try.prog 50 #[rowV a, rowV b] w fun e w' => e = .returned (.bool (Vt.lt a b)) ∧ Below w0.heap.size w0 w' := by
  have HW := Lib.hid hw
  clear hw
  obtain ⟨W, hW, hbW, hA, hB⟩ := boxed2 w a b
  have HBW : Hid (Below w0.heap.size w0 W) := Lib.hid (bchain HW.out hbW)
  unfold RowC at hA hB
  obtain ⟨a0, a1, a2, a3, a4⟩ := hA
  obtain ⟨b0, b1, b2, b3, b4⟩ := hB
  by_cases hc : a.cat = b.cat
  · have HL := Lib.hid (Vt.lt_same hc)
    have k1 := cell_regrown a1
    have k2 := cell_regrown a2
    have k3 := cell_regrown a3
    have k4 := cell_regrown b1
    have k5 := cell_regrown b2
    have k6 := cell_regrown b3
    have hy : (a.cat.toList == b.cat.toList) = true := beq_iff_eq.2 (by rw [hc])
    have e1 : Hid (Vt.dy a = Dt.days a.y a.m a.d) := rfl
    have e2 : Hid (Vt.dy b = Dt.days b.y b.m b.d) := rfl
    clear hbW hc
    unfold rowV
    go_enter Try.func50, Try.ntmps50
    go_wp2
    refine wp_region_quiet_below (by kernel_rfl) (by kernel_rfl) ?_
    repeat (first | go_big_quiet_step (exact refDays_agg _ _ _ _ _ _) | quiet_step (exact refDays_agg _ _ _ _ _ _))
    refine wpQuiet_nil ?_
    intro _ hw'
    obtain ⟨⟨dq, osq⟩, hw''⟩ := hw'
    subst hw''
    have HBv := Lib.hid (bchain HBW.out (below_regrown W dq osq))
    go_wp2
    go_ret
    exact ⟨ret_bool (by rw [HL.out, e1.out, e2.out]), HBv.out⟩
  · have HL := Lib.hid (Vt.lt_other hc)
    have hy : (a.cat.toList == b.cat.toList) = false := beq_eq_false_iff_ne.2 fun k => hc (Vt.cat_ext k)
    clear hbW hc
    unfold rowV
    go_enter Try.func50, Try.ntmps50
    go_wp2
    go_ret
    exact ⟨ret_bool HL.out.symm, HBW.out⟩
end Go.Proofs.Ythcaecinjmnlbaa

/- THE DOCUMENT's OWN ANSWER: impostref3's Table. -/
namespace Go.Proofs.Ythcaecinjmnlbaa
open Go.RowKit
open Vt (Rt)
open Go.Sort (grow)

def Ans (f : FuncId) (args : Array Value) (u : World) (i : Nat) (os : Array Obj) (v : Value) : Prop :=
  Calls Try.prog f args (grow (redrawn u i) os) fun e w'' => e = .returned v ∧ ∃ p : Regrown, w'' = grow (redrawn u p.d) p.os
theorem refRow_agg (r : Rt) (hs : Short r) (u : World) (i : Nat) (os : Array Obj) : Ans 49 #[.agg #[.string r.cat, .int .i64 r.y, .int .i64 r.m, .int .i64 r.d, .int .i64 r.bp]] u i os (.int .i64 (Vt.rowE r)) :=
  Calls.regrown_of (refRow_any r _ _ (Below.refl _ _) hs)
theorem refBefore_agg (a b : Rt) (u : World) (i : Nat) (os : Array Obj) : Ans 50 #[.agg #[.string a.cat, .int .i64 a.y, .int .i64 a.m, .int .i64 a.d, .int .i64 a.bp], .agg #[.string b.cat, .int .i64 b.y, .int .i64 b.m, .int .i64 b.d, .int .i64 b.bp]] u i os (.bool (Vt.lt a b)) :=
  Calls.regrown_of (refBefore_any a b _ _ (Below.refl _ _))
set_option maxHeartbeats 2000000 in
theorem refTable_any (rs : List Rt) (ao : Option Addr) (n cap : Nat) (w0 w : World) (hw : Below w0.heap.size w0 w) (hR : Rts w ao n cap rs) :
    Calls Try.prog 28 #[.slice ao n cap] w fun e w' => e = .returned (.bool (Vt.tableB rs)) ∧ Below w0.heap.size w0 w' := by
  have HW := Lib.hid hw
  have HR := Lib.hid hR
  have hn := hR.len
  have hcap := hR.reach
  have hfit := hR.fits
  clear hw hR
  by_cases h24 : 24 < n
  · have HT := Lib.hid (Vt.table_long (l := rs) (by omega))
    go_enter Try.func28, Try.ntmps28
    go_wp2
    go_ret
    exact ⟨ret_bool HT.out.symm, HW.out⟩
  · have HT := Lib.hid (Vt.table_short (l := rs) (by omega))
    go_enter Try.func28, Try.ntmps28
    go_wp2
    go_loopw [3] (fun i wr => ∃ k : Nat, k ≤ n ∧ i = .int .i64 k ∧ Hid (Vt.okAll (Vt.prevAt rs k) (rs.drop k) = Vt.okAll none rs) ∧ Hid (Below w.heap.size w wr)) (fun i _ => n - (intOf i).toNat)
    case atStart => exact ⟨0, by omega, rfl, Lib.hid rfl, Lib.hid (Below.refl _ _)⟩
    case round =>
      obtain ⟨k, hk, rfl, HK, HB⟩ := hrel
      by_cases hlt : k < n
      · obtain ⟨b, off, rfl⟩ := HR.out.at (by omega)
        have hkr : k < rs.length := by omega
        obtain ⟨r, hr⟩ : ∃ r, rs[k] = r := ⟨_, rfl⟩
        have hrow := (HR.out.row k hkr).below HB.out
        have HSt := Lib.hid (Vt.okAll_at rs k hkr)
        rw [hr] at hrow HSt
        have hsh : Short r := HR.out.short r (hr ▸ List.getElem_mem hkr)
        obtain ⟨g0, g1, g2, g3, g4⟩ := hrow
        have k0 := cell_regrown g0
        have k1 := cell_regrown g1
        have k2 := cell_regrown g2
        have k3 := cell_regrown g3
        have k4 := cell_regrown g4
        have c1 := refRow_agg r hsh
        clear hr hsh
        by_cases he : Vt.rowE r = 0
        · have hne : (Vt.rowE r != 0) = false := by rw [he]; rfl
          by_cases hk0 : k = 0
          · subst hk0
            simp only [Nat.zero_mul, Nat.add_zero] at k0 k1 k2 k3 k4
            have HO : Hid (Vt.ok (Vt.prevAt rs 0) r = true) := by
              show _ = _
              unfold Vt.ok Vt.prevAt
              rw [decide_eq_true he]
              rfl
            clear he
            go_wp2
            refine wp_region_quiet_below (by kernel_rfl) (by kernel_rfl) ?_
            repeat (first | go_big_quiet_step (first | (go_at_call 49; exact c1 _ _ _)) | quiet_step (first | (go_at_call 49; exact c1 _ _ _)))
            refine wpQuiet_nil ?_
            intro _ hw'
            obtain ⟨⟨dq, osq⟩, hw''⟩ := hw'
            subst hw''
            have HBv := Lib.hid (bchain HB.out (below_regrown wr dq osq))
            go_wp2
            go_roundw
            case rel => exact ⟨1, by omega, rfl, Lib.hid (by rw [← HK.out, HSt.out, HO.out, Bool.true_and]), HBv⟩
            case measure => simp [intOf]; omega
          · obtain ⟨j, rfl⟩ : ∃ j, k = j + 1 := ⟨k - 1, by omega⟩
            have hjr : j < rs.length := by omega
            obtain ⟨q, hq⟩ : ∃ q, rs[j] = q := ⟨_, rfl⟩
            have hrow2 := (HR.out.row j hjr).below HB.out
            rw [hq] at hrow2
            obtain ⟨f0, f1, f2, f3, f4⟩ := hrow2
            have m0 := cell_regrown f0
            have m1 := cell_regrown f1
            have m2 := cell_regrown f2
            have m3 := cell_regrown f3
            have m4 := cell_regrown f4
            have c2 := refBefore_agg q r
            have HO : Hid (Vt.ok (Vt.prevAt rs (j + 1)) r = Vt.lt q r) := by
              show _ = _
              unfold Vt.ok Vt.prevAt
              rw [decide_eq_true he, if_neg (by omega), Nat.add_sub_cancel, List.getElem?_eq_getElem hjr, hq]
              rfl
            have hjs : ((j + 1 : Nat) : Int) - 1 = (j : Int) := by omega
            clear he hq hk0
            cases hlt2 : Vt.lt q r
            · rw [hlt2] at c2 HO
              go_wp2
              refine wp_region_quiet_below (by kernel_rfl) (by kernel_rfl) ?_
              repeat (first | go_big_quiet_step (first | (go_at_call 49; exact c1 _ _ _) | (go_at_call 50; exact c2 _ _ _)) | quiet_step (first | (go_at_call 49; exact c1 _ _ _) | (go_at_call 50; exact c2 _ _ _)))
              refine wpQuiet_nil ?_
              intro _ hw'
              obtain ⟨⟨dq, osq⟩, hw''⟩ := hw'
              subst hw''
              have HBv := Lib.hid (bchain HB.out (below_regrown wr dq osq))
              go_wp2
              go_ret
              exact ⟨ret_bool (by rw [HT.out, ← HK.out, HSt.out, HO.out, Bool.false_and]), bchain HW.out HBv.out⟩
            · rw [hlt2] at c2 HO
              go_wp2
              refine wp_region_quiet_below (by kernel_rfl) (by kernel_rfl) ?_
              repeat (first | go_big_quiet_step (first | (go_at_call 49; exact c1 _ _ _) | (go_at_call 50; exact c2 _ _ _)) | quiet_step (first | (go_at_call 49; exact c1 _ _ _) | (go_at_call 50; exact c2 _ _ _)))
              refine wpQuiet_nil ?_
              intro _ hw'
              obtain ⟨⟨dq, osq⟩, hw''⟩ := hw'
              subst hw''
              have HBv := Lib.hid (bchain HB.out (below_regrown wr dq osq))
              go_wp2
              go_roundw
              case rel => exact ⟨j + 1 + 1, by omega, by go_num, Lib.hid (by rw [← HK.out, HSt.out, HO.out, Bool.true_and]), HBv⟩
              case measure => simp [intOf]; omega
        · have hne : (Vt.rowE r != 0) = true := bne_iff_ne.2 he
          have HO : Hid (Vt.ok (Vt.prevAt rs k) r = false) := by
            show _ = _
            unfold Vt.ok
            rw [decide_eq_false he]
            rfl
          clear he
          go_wp2
          refine wp_region_quiet_below (by kernel_rfl) (by kernel_rfl) ?_
          repeat (first | go_big_quiet_step (first | (go_at_call 49; exact c1 _ _ _)) | quiet_step (first | (go_at_call 49; exact c1 _ _ _)))
          refine wpQuiet_nil ?_
          intro _ hw'
          obtain ⟨⟨dq, osq⟩, hw''⟩ := hw'
          subst hw''
          have HBv := Lib.hid (bchain HB.out (below_regrown wr dq osq))
          go_wp2
          go_ret
          exact ⟨ret_bool (by rw [HT.out, ← HK.out, HSt.out, HO.out, Bool.false_and]), bchain HW.out HBv.out⟩
      · obtain rfl : k = n := by omega
        go_wp2
        go_ret
        exact ⟨ret_bool (by rw [HT.out, ← HK.out, List.drop_eq_nil_of_le (by omega)]; rfl), bchain HW.out HB.out⟩
end Go.Proofs.Ythcaecinjmnlbaa

/- CONTRACTS OF PACKAGE vat: Right. -/
namespace Go.Proofs.Ythcaecinjmnlbaa
open Go.RowKit
open Vt (Rt)
open Go.Sort (grow)

theorem vatRow_agg (r : Rt) (hs : Short r) (u : World) (i : Nat) (os : Array Obj) : Ans 55 #[.agg #[.string r.cat, .int .i64 r.y, .int .i64 r.m, .int .i64 r.d, .int .i64 r.bp]] u i os (.int .i64 (Vt.rowE r)) :=
  Calls.regrown_of (vat_row r _ _ (Below.refl _ _) hs)
theorem vatAhead_agg (a b : Rt) (ha : Short a) (hb : Short b) (ra : Vt.rowE a = 0) (rb : Vt.rowE b = 0) (u : World) (i : Nat) (os : Array Obj) : Ans 59 #[.agg #[.string a.cat, .int .i64 a.y, .int .i64 a.m, .int .i64 a.d, .int .i64 a.bp], .agg #[.string b.cat, .int .i64 b.y, .int .i64 b.m, .int .i64 b.d, .int .i64 b.bp]] u i os (.bool (Vt.lt a b)) :=
  Calls.regrown_of (vat_ahead a b _ _ (Below.refl _ _) ha hb (Vt.rowE_0.1 ra).2.1 (Vt.rowE_0.1 rb).2.1)
set_option maxHeartbeats 2000000 in
theorem vat_right (rs : List Rt) (ao : Option Addr) (n cap : Nat) (w0 w : World) (hw : Below w0.heap.size w0 w) (hR : Rts w ao n cap rs) :
    Calls Try.prog 40 #[.slice ao n cap] w fun e w' => e = .returned (.bool (Vt.tableB rs)) ∧ Below w0.heap.size w0 w' := by
  have HW := Lib.hid hw
  have HR := Lib.hid hR
  have HN := Lib.hid hR.len
  have hcap := hR.reach
  have hfit := hR.fits
  clear hw hR
  by_cases h24 : 24 < n
  · have HT := Lib.hid (Vt.table_long (l := rs) (HN.out ▸ h24))
    go_enter Try.func40, Try.ntmps40
    go_wp2
    go_ret
    exact ⟨ret_bool HT.out.symm, HW.out⟩
  · have HT := Lib.hid (Vt.table_short (l := rs) (by have := HN.out; omega))
    go_enter Try.func40, Try.ntmps40
    go_wp2
    go_loopw [3, 4, 10] (fun _ _ i wr => ∃ k : Nat, k ≤ n ∧ i = .int .i64 k ∧ Hid (Vt.okAll (Vt.prevAt rs k) (rs.drop k) = Vt.okAll none rs) ∧ Hid (∀ q, Vt.prevAt rs k = some q → Vt.rowE q = 0) ∧ Hid (Below w.heap.size w wr)) (fun _ _ i _ => n - (intOf i).toNat)
    case atStart => exact ⟨0, by omega, rfl, Lib.hid rfl, Lib.hid (fun q h => by unfold Vt.prevAt at h; rw [if_pos rfl] at h; cases h), Lib.hid (Below.refl _ _)⟩
    case round =>
      obtain ⟨k, hk, rfl, HK, HQ, HB⟩ := hrel
      by_cases hlt : k < n
      · obtain ⟨b, off, rfl⟩ := HR.out.at (by omega)
        have hkr : k < rs.length := HN.out ▸ hlt
        obtain ⟨r, hr⟩ : ∃ r, rs[k] = r := ⟨_, rfl⟩
        have hrow := (HR.out.row k hkr).below HB.out
        have HSt := Lib.hid (Vt.okAll_at rs k hkr)
        have HPr : Hid (Vt.prevAt rs (k + 1) = some r) := Lib.hid (by unfold Vt.prevAt; rw [if_neg (by omega), Nat.add_sub_cancel, List.getElem?_eq_getElem hkr, hr])
        rw [hr] at hrow HSt
        have hsh : Short r := HR.out.short r (hr ▸ List.getElem_mem hkr)
        obtain ⟨g0, g1, g2, g3, g4⟩ := hrow
        obtain ⟨W, hW, hbW, hA⟩ := boxed1 wr r
        have HBW := Lib.hid (bchain HB.out hbW)
        clear hbW
        unfold RowC at hA
        obtain ⟨a0, a1, a2, a3, a4⟩ := hA
        have k0 := cell_regrown a0
        have k1 := cell_regrown a1
        have k2 := cell_regrown a2
        have k3 := cell_regrown a3
        have k4 := cell_regrown a4
        have c1 := vatRow_agg r hsh
        by_cases he : Vt.rowE r = 0
        · have hne : (Vt.rowE r != 0) = false := by rw [he]; rfl
          by_cases hk0 : k = 0
          · subst hk0
            simp only [Nat.zero_mul, Nat.add_zero] at g0 g1 g2 g3 g4
            have HO : Hid (Vt.ok (Vt.prevAt rs 0) r = true) := by
              show _ = _
              unfold Vt.ok Vt.prevAt
              rw [decide_eq_true he]
              rfl
            have HE := Lib.hid he
            clear he hr hsh
            go_wp2
            refine wp_region_quiet_below (by kernel_rfl) (by kernel_rfl) ?_
            repeat (first | go_big_quiet_step (first | (go_at_call 55; exact c1 _ _ _)) | quiet_step (first | (go_at_call 55; exact c1 _ _ _)))
            refine wpQuiet_nil ?_
            intro _ hw'
            obtain ⟨⟨dq, osq⟩, hw''⟩ := hw'
            subst hw''
            have HBv := Lib.hid (bchain HBW.out (below_regrown W dq osq))
            go_wp2
            go_roundw
            case rel => exact ⟨1, by omega, rfl, Lib.hid (by rw [← HK.out, HSt.out, HO.out, Bool.true_and]), Lib.hid (fun q h => by rw [HPr.out] at h; cases h; exact HE.out), HBv⟩
            case measure => simp [intOf]; omega
          · obtain ⟨j, rfl⟩ : ∃ j, k = j + 1 := ⟨k - 1, by omega⟩
            have hjr : j < rs.length := by omega
            obtain ⟨q, hq⟩ : ∃ q, rs[j] = q := ⟨_, rfl⟩
            have hrow2 := (HR.out.row j hjr).below HBW.out
            have hqs : Short q := HR.out.short q (hq ▸ List.getElem_mem hjr)
            rw [hq] at hrow2
            obtain ⟨f0, f1, f2, f3, f4⟩ := hrow2
            have m0 := cell_regrown f0
            have m1 := cell_regrown f1
            have m2 := cell_regrown f2
            have m3 := cell_regrown f3
            have m4 := cell_regrown f4
            have hpj : Vt.prevAt rs (j + 1) = some q := by unfold Vt.prevAt; rw [if_neg (by omega), Nat.add_sub_cancel, List.getElem?_eq_getElem hjr, hq]
            have c2 := vatAhead_agg q r hqs hsh (HQ.out q hpj) he
            have HO : Hid (Vt.ok (Vt.prevAt rs (j + 1)) r = Vt.lt q r) := by
              show _ = _
              unfold Vt.ok
              rw [decide_eq_true he, hpj]
              rfl
            have hjs : ((j + 1 : Nat) : Int) - 1 = (j : Int) := by omega
            have HE := Lib.hid he
            clear he hq hk0 hpj hr hsh hqs
            cases hlt2 : Vt.lt q r
            · rw [hlt2] at c2 HO
              go_wp2
              refine wp_region_quiet_below (by kernel_rfl) (by kernel_rfl) ?_
              repeat (first | go_big_quiet_step (first | (go_at_call 55; exact c1 _ _ _) | (go_at_call 59; exact c2 _ _ _)) | quiet_step (first | (go_at_call 55; exact c1 _ _ _) | (go_at_call 59; exact c2 _ _ _)))
              refine wpQuiet_nil ?_
              intro _ hw'
              obtain ⟨⟨dq, osq⟩, hw''⟩ := hw'
              subst hw''
              have HBv := Lib.hid (bchain HBW.out (below_regrown W dq osq))
              go_wp2
              go_ret
              exact ⟨ret_bool (by rw [HT.out, ← HK.out, HSt.out, HO.out, Bool.false_and]), bchain HW.out HBv.out⟩
            · rw [hlt2] at c2 HO
              go_wp2
              refine wp_region_quiet_below (by kernel_rfl) (by kernel_rfl) ?_
              repeat (first | go_big_quiet_step (first | (go_at_call 55; exact c1 _ _ _) | (go_at_call 59; exact c2 _ _ _)) | quiet_step (first | (go_at_call 55; exact c1 _ _ _) | (go_at_call 59; exact c2 _ _ _)))
              refine wpQuiet_nil ?_
              intro _ hw'
              obtain ⟨⟨dq, osq⟩, hw''⟩ := hw'
              subst hw''
              have HBv := Lib.hid (bchain HBW.out (below_regrown W dq osq))
              go_wp2
              go_roundw
              case rel => exact ⟨j + 1 + 1, by omega, by go_num, Lib.hid (by rw [← HK.out, HSt.out, HO.out, Bool.true_and]), Lib.hid (fun q h => by rw [HPr.out] at h; cases h; exact HE.out), HBv⟩
              case measure => simp [intOf]; omega
        · have hne : (Vt.rowE r != 0) = true := bne_iff_ne.2 he
          have HO : Hid (Vt.ok (Vt.prevAt rs k) r = false) := by
            show _ = _
            unfold Vt.ok
            rw [decide_eq_false he]
            rfl
          clear he hr hsh
          go_wp2
          refine wp_region_quiet_below (by kernel_rfl) (by kernel_rfl) ?_
          repeat (first | go_big_quiet_step (first | (go_at_call 55; exact c1 _ _ _)) | quiet_step (first | (go_at_call 55; exact c1 _ _ _)))
          refine wpQuiet_nil ?_
          intro _ hw'
          obtain ⟨⟨dq, osq⟩, hw''⟩ := hw'
          subst hw''
          have HBv := Lib.hid (bchain HBW.out (below_regrown W dq osq))
          go_wp2
          go_ret
          exact ⟨ret_bool (by rw [HT.out, ← HK.out, HSt.out, HO.out, Bool.false_and]), bchain HW.out HBv.out⟩
      · obtain rfl : k = n := by omega
        go_wp2
        go_ret
        exact ⟨ret_bool (by rw [HT.out, ← HK.out, List.drop_eq_nil_of_le (Nat.le_of_eq HN.out.symm)]; rfl), bchain HW.out HB.out⟩
end Go.Proofs.Ythcaecinjmnlbaa

/- THE DOCUMENT's OWN ANSWER: impostref3's Find. -/
namespace Go.Proofs.Ythcaecinjmnlbaa
open Go.RowKit
open Vt (Rt)
open Go.Sort (grow)

/-- what Find answers -/
def foundE (p : Int × Bool) : Ending := .returned (.tuple #[.int .i64 p.1, .bool p.2])
theorem last_at (c : ByteArray) (n : Int) (acc : Int × Bool) (rs : List Rt) (k : Nat) (h : k < rs.length) : Vt.last c n acc (rs.drop k) = Vt.last c n (if Vt.hit c n rs[k] = true then (rs[k].bp, true) else acc) (rs.drop (k + 1)) := by
  rw [List.drop_eq_getElem_cons h]
  rfl
theorem hit_yes {c : ByteArray} {n : Int} {r : Rt} (h : r.cat = c) (k : Vt.dy r ≤ n) : Vt.hit c n r = true := by
  unfold Vt.hit
  rw [decide_eq_true h, decide_eq_true k]
  rfl
theorem hit_no {c : ByteArray} {n : Int} {r : Rt} (h : r.cat ≠ c ∨ ¬ Vt.dy r ≤ n) : Vt.hit c n r = false := by
  unfold Vt.hit
  rcases h with h | h
  · rw [decide_eq_false h]; rfl
  · rw [decide_eq_false h, Bool.and_false]
set_option maxHeartbeats 2000000 in
theorem refFind_any (rs : List Rt) (ao : Option Addr) (n cap : Nat) (c : ByteArray) (y m d : Int) (w0 w : World) (hw : Below w0.heap.size w0 w) (hR : Rts w ao n cap rs) :
    Calls Try.prog 31 #[.slice ao n cap, .string c, dayV y m d] w fun e w' => e = foundE (Vt.find rs c y m d) ∧ Below w0.heap.size w0 w' := by
  have HW := Lib.hid hw
  have HR := Lib.hid hR
  have HN := Lib.hid hR.len
  have hcap := hR.reach
  have hfit := hR.fits
  clear hw hR
  unfold dayV
  go_enter Try.func31, Try.ntmps31
  go_wp2_with fail
  refine (refTable_any rs ao n cap (w.alloc (.cells #[.int .i64 y, .int .i64 m, .int .i64 d] 23)) _ (Below.refl _ _) (HR.out.below ((Below.refl _ _).alloc (Nat.le_refl _) _))).mono ?_
  rintro e w1 ⟨rfl, b1⟩
  cases hT : Vt.tableB rs
  · have HF := Lib.hid (Vt.find_not (c := c) (y := y) (m := m) (d := d) (.inl hT))
    have HB1 := Lib.hid (bchain (below_box HW.out _) b1)
    clear b1
    go_wp2_with fail
    go_ret2
    exact ⟨by rw [HF.out]; rfl, HB1.out⟩
  · have HTT := Lib.hid hT
    obtain ⟨hc, hf⟩ := bcell b1
    have HB1 := Lib.hid b1
    clear b1
    go_wp2_with fail
    refine (refRight_any y m d _ _ HB1.out).mono ?_
    rintro e w2 ⟨rfl, b2⟩
    clear hc hf
    have HB2 := Lib.hid b2
    cases hd : Dt.rightB y m d
    · have HF := Lib.hid (Vt.find_not (l := rs) (c := c) (.inr hd))
      have HB3 := Lib.hid (bchain (below_box HW.out _) b2)
      clear b2
      go_wp2_with fail
      go_ret2
      exact ⟨by rw [HF.out]; rfl, HB3.out⟩
    · have HF := Lib.hid (Vt.find_right (c := c) HTT.out hd)
      clear b2
      go_wp2_with fail
      go_loopw [8, 9, 10] (fun t o i wr => ∃ (k : Nat) (x : Int) (f : Bool), k ≤ n ∧ i = .int .i64 k ∧ t = .int .i64 x ∧ o = .bool f ∧ Hid (Vt.last c (Dt.days y m d) (x, f) (rs.drop k) = Vt.last c (Dt.days y m d) (0, false) rs) ∧ Hid (Below (w.alloc (.cells #[.int .i64 y, .int .i64 m, .int .i64 d] 23)).heap.size (w.alloc (.cells #[.int .i64 y, .int .i64 m, .int .i64 d] 23)) wr)) (fun _ _ i _ => n - (intOf i).toNat)
      case atStart => exact ⟨0, 0, false, by omega, rfl, rfl, rfl, Lib.hid rfl, HB2⟩
      case round =>
        rename World => wz
        obtain ⟨k, x, f, hk, rfl, rfl, rfl, HK, HB⟩ := hrel
        by_cases hlt : k < n
        · obtain ⟨b, off, rfl⟩ := HR.out.at (by omega)
          have hkr : k < rs.length := HN.out ▸ hlt
          obtain ⟨r, hr⟩ : ∃ r, rs[k] = r := ⟨_, rfl⟩
          have hrow := (HR.out.row k hkr).below (bchain ((Below.refl _ _).alloc (Nat.le_refl _) _) HB.out)
          have HSt := Lib.hid (last_at c (Dt.days y m d) (x, f) rs k hkr)
          rw [hr] at hrow HSt
          clear hr
          obtain ⟨g0, g1, g2, g3, g4⟩ := hrow
          obtain ⟨hc, hf⟩ := bcell HB.out
          have e0 : wz.cell? ⟨w.heap.size, 0, none⟩ = some (.int .i64 y) := by rw [hc _ _ (by simp)]; simp
          have e1 : wz.cell? ⟨w.heap.size, 1, none⟩ = some (.int .i64 m) := by rw [hc _ _ (by simp)]; simp
          have e2 : wz.cell? ⟨w.heap.size, 2, none⟩ = some (.int .i64 d) := by rw [hc _ _ (by simp)]; simp
          clear hc hf
          have k0 := cell_regrown g0
          have k1 := cell_regrown g1
          have k2 := cell_regrown g2
          have k3 := cell_regrown g3
          have k4 := cell_regrown g4
          have l0 := cell_regrown e0
          have l1 := cell_regrown e1
          have l2 := cell_regrown e2
          have c1 := refDays_agg r.y r.m r.d
          have c2 := refDays_agg y m d
          by_cases hcat : r.cat = c
          · have hq : (r.cat.toList == c.toList) = true := beq_iff_eq.2 (by rw [hcat])
            by_cases hdy : Vt.dy r ≤ Dt.days y m d
            · have HH := Lib.hid (hit_yes hcat hdy)
              have hdy' : Dt.days r.y r.m r.d ≤ Dt.days y m d := hdy
              clear hcat hdy
              go_wp2
              refine wp_region_quiet_below (by kernel_rfl) (by kernel_rfl) ?_
              repeat (first | go_big_quiet_step (first | (go_at_call_of 53 (Value.int .i64 r.y); exact c1 _ _ _) | (go_at_call_of 53 (Value.int .i64 y); exact c2 _ _ _)) | quiet_step (first | (go_at_call_of 53 (Value.int .i64 r.y); exact c1 _ _ _) | (go_at_call_of 53 (Value.int .i64 y); exact c2 _ _ _)))
              refine wpQuiet_nil ?_
              intro _ hw'
              obtain ⟨⟨dq, osq⟩, hw''⟩ := hw'
              subst hw''
              have HBv := Lib.hid (bchain HB.out (below_regrown wz dq osq))
              go_wp2
              go_roundw
              case rel => exact ⟨k + 1, r.bp, true, by omega, by go_num, rfl, rfl, Lib.hid (by rw [← HK.out, HSt.out, HH.out]; rfl), HBv⟩
              case measure => simp [intOf]; omega
            · have HH := Lib.hid (hit_no (c := c) (.inr hdy))
              have hdy' : ¬ Dt.days r.y r.m r.d ≤ Dt.days y m d := hdy
              clear hcat hdy
              go_wp2
              refine wp_region_quiet_below (by kernel_rfl) (by kernel_rfl) ?_
              repeat (first | go_big_quiet_step (first | (go_at_call_of 53 (Value.int .i64 r.y); exact c1 _ _ _) | (go_at_call_of 53 (Value.int .i64 y); exact c2 _ _ _)) | quiet_step (first | (go_at_call_of 53 (Value.int .i64 r.y); exact c1 _ _ _) | (go_at_call_of 53 (Value.int .i64 y); exact c2 _ _ _)))
              refine wpQuiet_nil ?_
              intro _ hw'
              obtain ⟨⟨dq, osq⟩, hw''⟩ := hw'
              subst hw''
              have HBv := Lib.hid (bchain HB.out (below_regrown wz dq osq))
              go_wp2
              go_roundw
              case rel => exact ⟨k + 1, x, f, by omega, by go_num, rfl, rfl, Lib.hid (by rw [← HK.out, HSt.out, HH.out]; rfl), HBv⟩
              case measure => simp [intOf]; omega
          · have hq : (r.cat.toList == c.toList) = false := beq_eq_false_iff_ne.2 fun e => hcat (Vt.cat_ext e)
            have HH := Lib.hid (hit_no (n := Dt.days y m d) (.inl hcat))
            clear hcat
            go_wp2
            refine wp_region_quiet_below (by kernel_rfl) (by kernel_rfl) ?_
            repeat (first | go_big_quiet_step (first | (go_at_call_of 53 (Value.int .i64 r.y); exact c1 _ _ _) | (go_at_call_of 53 (Value.int .i64 y); exact c2 _ _ _)) | quiet_step (first | (go_at_call_of 53 (Value.int .i64 r.y); exact c1 _ _ _) | (go_at_call_of 53 (Value.int .i64 y); exact c2 _ _ _)))
            refine wpQuiet_nil ?_
            intro _ hw'
            obtain ⟨⟨dq, osq⟩, hw''⟩ := hw'
            subst hw''
            have HBv := Lib.hid (bchain HB.out (below_regrown wz dq osq))
            go_wp2
            go_roundw
            case rel => exact ⟨k + 1, x, f, by omega, by go_num, rfl, rfl, Lib.hid (by rw [← HK.out, HSt.out, HH.out]; rfl), HBv⟩
            case measure => simp [intOf]; omega
        · obtain rfl : k = n := by omega
          go_wp2
          go_ret2
          refine ⟨?_, bchain (below_box HW.out _) HB.out⟩
          rw [HF.out, ← HK.out, List.drop_eq_nil_of_le (Nat.le_of_eq HN.out.symm)]
          rfl
end Go.Proofs.Ythcaecinjmnlbaa

/- CONTRACTS OF PACKAGE vat: Find. -/
namespace Go.Proofs.Ythcaecinjmnlbaa
open Go.RowKit
open Vt (Rt)
open Go.Sort (grow)

set_option maxHeartbeats 2000000 in
theorem vat_find (rs : List Rt) (ao : Option Addr) (n cap : Nat) (c : ByteArray) (y m d : Int) (w0 w : World) (hw : Below w0.heap.size w0 w) (hR : Rts w ao n cap rs) (hy : Fit y) (hm : Fit m) (hd : Fit d) :
    Calls Try.prog 43 #[.slice ao n cap, .string c, dayV y m d] w fun e w' => e = foundE (Vt.find rs c y m d) ∧ Below w0.heap.size w0 w' := by
  have HW := Lib.hid hw
  have HR := Lib.hid hR
  have HN := Lib.hid hR.len
  have HFt := Lib.hid (And.intro hy (And.intro hm hd))
  have hcap := hR.reach
  have hfit := hR.fits
  clear hw hR hy hm hd
  unfold dayV
  go_enter Try.func43, Try.ntmps43
  go_wp2_with fail
  refine (vat_right rs ao n cap (w.alloc (.cells #[.int .i64 y, .int .i64 m, .int .i64 d] 23)) _ (Below.refl _ _) (HR.out.below ((Below.refl _ _).alloc (Nat.le_refl _) _))).mono ?_
  rintro e w1 ⟨rfl, b1⟩
  cases hT : Vt.tableB rs
  · have HF := Lib.hid (Vt.find_not (c := c) (y := y) (m := m) (d := d) (.inl hT))
    have HB1 := Lib.hid (bchain (below_box HW.out _) b1)
    clear b1
    go_wp2_with fail
    go_ret2
    exact ⟨by rw [HF.out]; rfl, HB1.out⟩
  · have HTT := Lib.hid hT
    obtain ⟨hc, hf⟩ := bcell b1
    have HB1 := Lib.hid b1
    clear b1
    go_wp2_with fail
    refine (right_date y m d _ _ HB1.out HFt.out.1 HFt.out.2.1 HFt.out.2.2).mono ?_
    rintro e w2 ⟨rfl, b2⟩
    clear hc hf
    have HB2 := Lib.hid b2
    cases hd : Dt.rightB y m d
    · have HF := Lib.hid (Vt.find_not (l := rs) (c := c) (.inr hd))
      have HB3 := Lib.hid (bchain (below_box HW.out _) b2)
      clear b2
      go_wp2_with fail
      go_ret2
      exact ⟨by rw [HF.out]; rfl, HB3.out⟩
    · have HF := Lib.hid (Vt.find_right (c := c) HTT.out hd)
      have HD := Lib.hid hd
      clear b2
      go_wp2_with fail
      go_loopw [8, 9, 11, 22] (fun t o _ i wr => ∃ (k : Nat) (x : Int) (f : Bool), k ≤ n ∧ i = .int .i64 k ∧ t = .int .i64 x ∧ o = .bool f ∧ Hid (Vt.last c (Dt.days y m d) (x, f) (rs.drop k) = Vt.last c (Dt.days y m d) (0, false) rs) ∧ Hid (Below (w.alloc (.cells #[.int .i64 y, .int .i64 m, .int .i64 d] 23)).heap.size (w.alloc (.cells #[.int .i64 y, .int .i64 m, .int .i64 d] 23)) wr)) (fun _ _ _ i _ => n - (intOf i).toNat)
      case atStart => exact ⟨0, 0, false, by omega, rfl, rfl, rfl, Lib.hid rfl, HB2⟩
      case round =>
        rename World => wz
        obtain ⟨k, x, f, hk, rfl, rfl, rfl, HK, HB⟩ := hrel
        by_cases hlt : k < n
        · obtain ⟨b, off, rfl⟩ := HR.out.at (by omega)
          have hkr : k < rs.length := HN.out ▸ hlt
          obtain ⟨r, hr⟩ : ∃ r, rs[k] = r := ⟨_, rfl⟩
          have hrow := (HR.out.row k hkr).below (bchain ((Below.refl _ _).alloc (Nat.le_refl _) _) HB.out)
          have HSt := Lib.hid (last_at c (Dt.days y m d) (x, f) rs k hkr)
          rw [hr] at hrow HSt
          have hmem : r ∈ rs := hr ▸ List.getElem_mem hkr
          have HSh := Lib.hid (HR.out.short r hmem)
          have HRr := Lib.hid (ahead_both HD.out (Vt.rowE_0.1 (((Vt.table_iff rs).1 HTT.out).2.1 r hmem)).2.1)
          clear hr hmem
          obtain ⟨g0, g1, g2, g3, g4⟩ := hrow
          obtain ⟨W, hW, hbW, hA⟩ := boxed1 wz r
          have HBW := Lib.hid (bchain HB.out hbW)
          have HA := Lib.hid hA
          clear hbW
          unfold RowC at hA
          obtain ⟨a0, a1, a2, a3, a4⟩ := hA
          obtain ⟨hc, hf⟩ := bcell HBW.out
          have e0 : W.cell? ⟨w.heap.size, 0, none⟩ = some (.int .i64 y) := by rw [hc _ _ (by simp)]; simp
          have e1 : W.cell? ⟨w.heap.size, 1, none⟩ = some (.int .i64 m) := by rw [hc _ _ (by simp)]; simp
          have e2 : W.cell? ⟨w.heap.size, 2, none⟩ = some (.int .i64 d) := by rw [hc _ _ (by simp)]; simp
          clear hc hf
          by_cases hcat : r.cat = c
          · have hq : (r.cat.toList == c.toList) = true := beq_iff_eq.2 (by rw [hcat])
            by_cases hdy : Vt.dy r ≤ Dt.days y m d
            · have HH := Lib.hid (hit_yes hcat hdy)
              have HL : Hid (aheadB y m d r.y r.m r.d = false) := Lib.hid (by rw [HRr.out]; exact decide_eq_false (by have h : Dt.days r.y r.m r.d ≤ Dt.days y m d := hdy; omega))
              clear hcat hdy
              go_wp2_with fail
              refine (before_date y m d r.y r.m r.d W _ (Below.refl _ _) HFt.out.1 HFt.out.2.1 HFt.out.2.2 HSh.out.2.1 HSh.out.2.2.1 HSh.out.2.2.2.1).mono ?_
              rintro e w3 ⟨rfl, b3⟩
              rw [HL.out]
              have HBv := Lib.hid (bchain HBW.out b3)
              have hA := HA.out.below b3
              unfold RowC at hA
              obtain ⟨d0, d1, d2, d3, d4⟩ := hA
              clear b3
              go_wp2_with fail
              go_roundw
              case rel => exact ⟨k + 1, r.bp, true, by omega, by go_num, rfl, rfl, Lib.hid (by rw [← HK.out, HSt.out, HH.out]; rfl), HBv⟩
              case measure => simp [intOf]; omega
            · have HH := Lib.hid (hit_no (c := c) (.inr hdy))
              have HL : Hid (aheadB y m d r.y r.m r.d = true) := Lib.hid (by rw [HRr.out]; exact decide_eq_true (by have h : ¬ Dt.days r.y r.m r.d ≤ Dt.days y m d := hdy; omega))
              clear hcat hdy
              go_wp2_with fail
              refine (before_date y m d r.y r.m r.d W _ (Below.refl _ _) HFt.out.1 HFt.out.2.1 HFt.out.2.2 HSh.out.2.1 HSh.out.2.2.1 HSh.out.2.2.2.1).mono ?_
              rintro e w3 ⟨rfl, b3⟩
              rw [HL.out]
              have HBv := Lib.hid (bchain HBW.out b3)
              clear b3
              go_wp2_with fail
              go_roundw
              case rel => exact ⟨k + 1, x, f, by omega, by go_num, rfl, rfl, Lib.hid (by rw [← HK.out, HSt.out, HH.out]; rfl), HBv⟩
              case measure => simp [intOf]; omega
          · have hq : (r.cat.toList == c.toList) = false := beq_eq_false_iff_ne.2 fun e => hcat (Vt.cat_ext e)
            have HH := Lib.hid (hit_no (n := Dt.days y m d) (.inl hcat))
            clear hcat
            go_wp2_with fail
            go_roundw
            case rel => exact ⟨k + 1, x, f, by omega, by go_num, rfl, rfl, Lib.hid (by rw [← HK.out, HSt.out, HH.out]; rfl), HBW⟩
            case measure => simp [intOf]; omega
        · obtain rfl : k = n := by omega
          go_wp2
          go_ret2
          refine ⟨?_, bchain (below_box HW.out _) HB.out⟩
          rw [HF.out, ← HK.out, List.drop_eq_nil_of_le (Nat.le_of_eq HN.out.symm)]
          rfl
end Go.Proofs.Ythcaecinjmnlbaa
