/- THE DOCUMENT's OWN ANSWER: impostref3's Of. -/
import Derived.Test.YtekegbnmmjhfiaaRefDate
namespace Go.Proofs.Ytekegbnmmjhfiaa
open Go.RowKit

theorem guess (n : Int) (h : 0 ≤ n) : Dt.yd (1 + n / 366) ≤ n := by
  unfold Dt.yd
  omega
set_option maxHeartbeats 1000000 in
theorem refOf_no (n : Int) (w0 w : World) (hw : Below w0.heap.size w0 w) (h : n < 0 ∨ 3652058 < n) :
    Calls Try.prog 19 #[.int .i64 n] w fun e w' => e = dayB 0 0 0 false ∧ Below w0.heap.size w0 w' := by
  have HW := Lib.hid hw
  clear hw
  rcases h with h | h
  · go_enter Try.func19, Try.ntmps19
    go_wp2
    exact bodyPost_ret (v := .tuple #[dayV 0 0 0, .bool false]) (by simp [results, dayV, Try.results19, go_sem]) rfl ⟨rfl, below_box HW.out _⟩
  · have h' : ¬ n < 0 := by omega
    go_enter Try.func19, Try.ntmps19
    go_wp2
    exact bodyPost_ret (v := .tuple #[dayV 0 0 0, .bool false]) (by simp [results, dayV, Try.results19, go_sem]) rfl ⟨rfl, below_box HW.out _⟩
set_option maxHeartbeats 2000000 in
theorem refOf_yes (n : Int) (w0 w : World) (hw : Below w0.heap.size w0 w) (h0 : 0 ≤ n) (h1 : n ≤ 3652058) :
    Calls Try.prog 19 #[.int .i64 n] w fun e w' => (∃ y m d, e = dayB y m d true ∧ Dt.rightB y m d = true ∧ Dt.num y m d = n) ∧ Below w0.heap.size w0 w' := by
  have HW := Lib.hid hw
  have HG := Lib.hid (guess n h0)
  clear hw
  go_enter Try.func19, Try.ntmps19
  go_wp2
  go_loopw [4] (fun t wr => ∃ y : Int, 1 ≤ y ∧ y ≤ 9999 ∧ Dt.yd y ≤ n ∧ t = .int .i64 y ∧ Hid (Below (boxW w).heap.size (boxW w) wr)) (fun t _ => (9999 - intOf t).toNat)
  case atStart => exact ⟨1 + n / 366, by omega, by omega, HG.out, rfl, Below.refl _ _⟩
  case round =>
    obtain ⟨y, hy1, hy2, hy3, rfl, HB⟩ := hrel
    clear HG
    by_cases hc : y < 9999 ∧ Dt.yd (y + 1) ≤ n
    · obtain ⟨hlt, hd⟩ := hc
      have e1 : Dt.days (y + 1) 1 1 = Dt.yd (y + 1) := by
        rw [days_first (by omega) (by omega) (by omega) (by omega), Dt.cum_1, Int.add_zero]
      go_wp2_with fail
      refine (refDays_any (y + 1) 1 1 _ _ HB.out).mono ?_
      rintro e w1 ⟨rfl, b1⟩
      have HB1 := Lib.hid b1
      clear b1
      rw [e1]
      go_wp2_with fail
      go_roundw
      case rel => exact ⟨y + 1, by omega, by omega, hd, rfl, HB1.out⟩
      case measure => simp [intOf]; omega
    · have hz : n < Dt.yd (y + 1) := by
        by_cases e : y = 9999
        · subst e
          have := Dt.yd_last
          show n < Dt.yd 10000
          omega
        · omega
      clear hc
      by_cases hlt : y < 9999
      · have e1 : Dt.days (y + 1) 1 1 = Dt.yd (y + 1) := by
          rw [days_first (by omega) (by omega) (by omega) (by omega), Dt.cum_1, Int.add_zero]
        go_wp2_with fail
        refine (refDays_any (y + 1) 1 1 _ _ HB.out).mono ?_
        rintro e w1 ⟨rfl, b1⟩
        have HB1 := Lib.hid b1
        clear b1
        rw [e1]
        go_wp2_with fail
        have HBX := HB1
        clear HB1 HB
        go_loopw [5] (fun t wr => ∃ m : Int, 1 ≤ m ∧ m ≤ 12 ∧ Dt.yd y + Dt.cum y m ≤ n ∧ t = .int .i64 m ∧ Hid (Below (boxW w).heap.size (boxW w) wr)) (fun t _ => (12 - intOf t).toNat)
        case atStart => exact ⟨1, by omega, by omega, by rw [Dt.cum_1]; omega, rfl, HBX.out⟩
        case round =>
          rename World => wz
          obtain ⟨m, hm1, hm2, hm3, rfl, HB⟩ := hrel
          have HD := Lib.hid (days_first hy1 hy2 hm1 hm2)
          by_cases hc : m < 12 ∧ Dt.yd y + Dt.cum y (m + 1) ≤ n
          · obtain ⟨hlt, hd⟩ := hc
            have HD2 := Lib.hid (days_first hy1 hy2 (show 1 ≤ m + 1 by omega) (show m + 1 ≤ 12 by omega))
            go_wp2_with fail
            refine (refDays_any y (m + 1) 1 _ _ HB.out).mono ?_
            rintro e w2 ⟨rfl, b2⟩
            have HB2 := Lib.hid b2
            clear b2
            rw [HD2.out]
            go_wp2_with fail
            go_roundw
            case rel => exact ⟨m + 1, by omega, by omega, hd, rfl, HB2.out⟩
            case measure => simp [intOf]; omega
          · have hq : n < Dt.yd y + Dt.cum y (m + 1) := by
              by_cases e : m = 12
              · subst e
                have h2 := Dt.cum_13 y
                have h3 := Dt.yd_succ y
                show n < Dt.yd y + Dt.cum y 13
                omega
              · omega
            have HL := Lib.hid (last_of hy1 hy2 hm1 hm2 hm3 hq)
            have hyb := Dt.yd_bd hy1 (show y ≤ 10000 by omega)
            have hcb := Dt.cum_bd (y := y) hm1 (show m ≤ 13 by omega)
            clear hc
            by_cases hlt : m < 12
            · have HD2 := Lib.hid (days_first hy1 hy2 (show 1 ≤ m + 1 by omega) (show m + 1 ≤ 12 by omega))
              go_wp2_with fail
              refine (refDays_any y (m + 1) 1 _ _ HB.out).mono ?_
              rintro e w2 ⟨rfl, b2⟩
              have HB2 := Lib.hid b2
              clear b2
              rw [HD2.out]
              go_wp2_with fail
              refine (refDays_any y m 1 _ _ HB2.out).mono ?_
              rintro e w3 ⟨rfl, b3⟩
              have HB3 := Lib.hid b3
              obtain ⟨hc, hf⟩ := bcell b3
              have hz3 : w.heap.size < w3.heap.size := by have := b3.size; unfold boxW at this; simp at this; omega
              unfold boxW at hc hf
              clear b3
              rw [HD.out]
              go_wp2_with fail
              refine bodyPost_ret (v := .tuple #[dayV y m (1 + n - (Dt.yd y + Dt.cum y m)), .bool true]) (by simp [results, dayV, Try.results19, go_sem, hc]) rfl ⟨⟨y, m, _, rfl, HL.out.1, HL.out.2⟩, ?_⟩
              exact below_set3 HW.out HB3.out _ _ _
            · go_wp2_with fail
              refine (refDays_any y m 1 _ _ HB.out).mono ?_
              rintro e w3 ⟨rfl, b3⟩
              have HB3 := Lib.hid b3
              obtain ⟨hc, hf⟩ := bcell b3
              have hz3 : w.heap.size < w3.heap.size := by have := b3.size; unfold boxW at this; simp at this; omega
              unfold boxW at hc hf
              clear b3
              rw [HD.out]
              go_wp2_with fail
              refine bodyPost_ret (v := .tuple #[dayV y m (1 + n - (Dt.yd y + Dt.cum y m)), .bool true]) (by simp [results, dayV, Try.results19, go_sem, hc]) rfl ⟨⟨y, m, _, rfl, HL.out.1, HL.out.2⟩, ?_⟩
              exact below_set3 HW.out HB3.out _ _ _
      · go_wp2_with fail
        have HBX := HB
        clear HB
        go_loopw [5] (fun t wr => ∃ m : Int, 1 ≤ m ∧ m ≤ 12 ∧ Dt.yd y + Dt.cum y m ≤ n ∧ t = .int .i64 m ∧ Hid (Below (boxW w).heap.size (boxW w) wr)) (fun t _ => (12 - intOf t).toNat)
        case atStart => exact ⟨1, by omega, by omega, by rw [Dt.cum_1]; omega, rfl, HBX.out⟩
        case round =>
          rename World => wz
          obtain ⟨m, hm1, hm2, hm3, rfl, HB⟩ := hrel
          have HD := Lib.hid (days_first hy1 hy2 hm1 hm2)
          by_cases hc : m < 12 ∧ Dt.yd y + Dt.cum y (m + 1) ≤ n
          · obtain ⟨hlt, hd⟩ := hc
            have HD2 := Lib.hid (days_first hy1 hy2 (show 1 ≤ m + 1 by omega) (show m + 1 ≤ 12 by omega))
            go_wp2_with fail
            refine (refDays_any y (m + 1) 1 _ _ HB.out).mono ?_
            rintro e w2 ⟨rfl, b2⟩
            have HB2 := Lib.hid b2
            clear b2
            rw [HD2.out]
            go_wp2_with fail
            go_roundw
            case rel => exact ⟨m + 1, by omega, by omega, hd, rfl, HB2.out⟩
            case measure => simp [intOf]; omega
          · have hq : n < Dt.yd y + Dt.cum y (m + 1) := by
              by_cases e : m = 12
              · subst e
                have h2 := Dt.cum_13 y
                have h3 := Dt.yd_succ y
                show n < Dt.yd y + Dt.cum y 13
                omega
              · omega
            have HL := Lib.hid (last_of hy1 hy2 hm1 hm2 hm3 hq)
            have hyb := Dt.yd_bd hy1 (show y ≤ 10000 by omega)
            have hcb := Dt.cum_bd (y := y) hm1 (show m ≤ 13 by omega)
            clear hc
            by_cases hlt : m < 12
            · have HD2 := Lib.hid (days_first hy1 hy2 (show 1 ≤ m + 1 by omega) (show m + 1 ≤ 12 by omega))
              go_wp2_with fail
              refine (refDays_any y (m + 1) 1 _ _ HB.out).mono ?_
              rintro e w2 ⟨rfl, b2⟩
              have HB2 := Lib.hid b2
              clear b2
              rw [HD2.out]
              go_wp2_with fail
              refine (refDays_any y m 1 _ _ HB2.out).mono ?_
              rintro e w3 ⟨rfl, b3⟩
              have HB3 := Lib.hid b3
              obtain ⟨hc, hf⟩ := bcell b3
              have hz3 : w.heap.size < w3.heap.size := by have := b3.size; unfold boxW at this; simp at this; omega
              unfold boxW at hc hf
              clear b3
              rw [HD.out]
              go_wp2_with fail
              refine bodyPost_ret (v := .tuple #[dayV y m (1 + n - (Dt.yd y + Dt.cum y m)), .bool true]) (by simp [results, dayV, Try.results19, go_sem, hc]) rfl ⟨⟨y, m, _, rfl, HL.out.1, HL.out.2⟩, ?_⟩
              exact below_set3 HW.out HB3.out _ _ _
            · go_wp2_with fail
              refine (refDays_any y m 1 _ _ HB.out).mono ?_
              rintro e w3 ⟨rfl, b3⟩
              have HB3 := Lib.hid b3
              obtain ⟨hc, hf⟩ := bcell b3
              have hz3 : w.heap.size < w3.heap.size := by have := b3.size; unfold boxW at this; simp at this; omega
              unfold boxW at hc hf
              clear b3
              rw [HD.out]
              go_wp2_with fail
              refine bodyPost_ret (v := .tuple #[dayV y m (1 + n - (Dt.yd y + Dt.cum y m)), .bool true]) (by simp [results, dayV, Try.results19, go_sem, hc]) rfl ⟨⟨y, m, _, rfl, HL.out.1, HL.out.2⟩, ?_⟩
              exact below_set3 HW.out HB3.out _ _ _
end Go.Proofs.Ytekegbnmmjhfiaa
