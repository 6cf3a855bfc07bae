/- CONTRACTS OF PACKAGE date: year, Of. -/
import Derived.Test.YtekegbnmmjhfiabDateR
namespace Go.Proofs.Ytekegbnmmjhfiab
open Go.RowKit

/-- a day's year, and the days of that year ahead of it -/
def InYear (n y r : Int) : Prop := 1 ≤ y ∧ y ≤ 9999 ∧ Dt.yd y + r = n ∧ 0 ≤ r ∧ r < 365 + Dt.lp y
theorem inYear {n c s e t f u a r : Int} (h1 : n ≤ 3652058) (hn : n = 146097 * c + s) (hc : 0 ≤ c) (hs : 0 ≤ s) (hs1 : s < 146097)
    (ht : s = 36524 * e + t) (he : 0 ≤ e) (he3 : e ≤ 3) (ht0 : 0 ≤ t) (ht1 : t < 36524 ∨ e = 3) (hu : t = 1461 * f + u) (hf : 0 ≤ f) (hu0 : 0 ≤ u) (hu1 : u < 1461)
    (hr : u = 365 * a + r) (ha : 0 ≤ a) (ha3 : a ≤ 3) (hr0 : 0 ≤ r) (hr1 : r < 365 ∨ a = 3) : InYear n (400 * c + 100 * e + 4 * f + a + 1) r := by
  have hf24 : f ≤ 24 := by omega
  have q4 : (400 * c + 100 * e + 4 * f + a + 1 - 1) / 4 = 100 * c + 25 * e + f := by omega
  have q100 : (400 * c + 100 * e + 4 * f + a + 1 - 1) / 100 = 4 * c + e := by omega
  have q400 : (400 * c + 100 * e + 4 * f + a + 1 - 1) / 400 = c := by omega
  have hy : Dt.yd (400 * c + 100 * e + 4 * f + a + 1) + r = n := by
    unfold Dt.yd
    rw [q4, q100, q400]
    omega
  have hl := Dt.lp_01 (400 * c + 100 * e + 4 * f + a + 1)
  have hb : 400 * c + 100 * e + 4 * f + a + 1 ≤ 9999 := by
    by_cases k : 400 * c + 100 * e + 4 * f + a + 1 ≤ 9999
    · exact k
    · have := Dt.yd_le (y := 10000) (z := 400 * c + 100 * e + 4 * f + a + 1) (by omega)
      rw [Dt.yd_last] at this
      omega
  refine ⟨by omega, hb, hy, hr0, ?_⟩
  by_cases k : r < 365
  · omega
  · have ha' : a = 3 := by omega
    have hr' : r = 365 := by omega
    rw [Dt.lp_true]
    · omega
    · rw [Dt.leap_iff]
      subst ha' hr'
      omega
theorem inYear_eq {n y r y' r' : Int} (h : InYear n y r) (hy : y' = y) (hr : r' = r) : InYear n y' r' := by
  rw [hy, hr]
  exact h
set_option maxHeartbeats 2000000 in
theorem year_date (n : Int) (w : World) (h0 : 0 ≤ n) (h1 : n ≤ 3652058) :
    Calls Try.prog 14 #[.int .i64 n] w fun e w' => (∃ y r, e = .returned (.tuple #[.int .i64 y, .int .i64 r]) ∧ InYear n y r) ∧ w' = w := by
  obtain ⟨c, hc⟩ : ∃ c, n / 146097 = c := ⟨_, rfl⟩
  obtain ⟨s, hs⟩ : ∃ s, n % 146097 = s := ⟨_, rfl⟩
  have hn : n = 146097 * c + s := by omega
  have hc0 : 0 ≤ c := by omega
  have hc1 : c ≤ 24 := by omega
  have hs0 : 0 ≤ s := by omega
  have hs1 : s < 146097 := by omega
  obtain ⟨q, hq⟩ : ∃ q, s / 36524 = q := ⟨_, rfl⟩
  have hq0 : 0 ≤ q := by omega
  have hq1 : q ≤ 4 := by omega
  rcases Int.lt_trichotomy q 3 with k | k | k
  · obtain ⟨t, ht⟩ : ∃ t, s - q * 36524 = t := ⟨_, rfl⟩
    have ht0 : 0 ≤ t := by omega
    have ht1 : t ≤ 36525 := by omega
    obtain ⟨f, hf⟩ : ∃ f, t / 1461 = f := ⟨_, rfl⟩
    obtain ⟨u, hu⟩ : ∃ u, t % 1461 = u := ⟨_, rfl⟩
    have hf0 : 0 ≤ f := by omega
    have hf1 : f ≤ 25 := by omega
    have hu0 : 0 ≤ u := by omega
    have hu1 : u < 1461 := by omega
    obtain ⟨p, hp⟩ : ∃ p, u / 365 = p := ⟨_, rfl⟩
    have hp0 : 0 ≤ p := by omega
    have hp1 : p ≤ 4 := by omega
    rcases Int.lt_trichotomy p 3 with l | l | l
    · have HY := Lib.hid (inYear (n := n) (c := c) (s := s) (e := q) (t := t) (f := f) (u := u) (a := p) (r := u - p * 365) h1 hn hc0 hs0 hs1 (by omega) (by omega) (by omega) (by omega) (by omega) (by omega) (by omega) (by omega) (by omega) (by omega) (by omega) (by omega) (by omega) (by omega))
      clear hn h1 hs1
      go_enter Try.func14, Try.ntmps14
      go_wp2
      go_ret2
      exact ⟨⟨_, _, rfl, inYear_eq HY.out (by omega) (by omega)⟩, rfl⟩
    · subst l
      have HY := Lib.hid (inYear (n := n) (c := c) (s := s) (e := q) (t := t) (f := f) (u := u) (a := 3) (r := u - 3 * 365) h1 hn hc0 hs0 hs1 (by omega) (by omega) (by omega) (by omega) (by omega) (by omega) (by omega) (by omega) (by omega) (by omega) (by omega) (by omega) (by omega) (by omega))
      clear hn h1 hs1
      go_enter Try.func14, Try.ntmps14
      go_wp2
      go_ret2
      exact ⟨⟨_, _, rfl, inYear_eq HY.out (by omega) (by omega)⟩, rfl⟩
    · have l2 : ¬ p < 3 := by omega
      have HY := Lib.hid (inYear (n := n) (c := c) (s := s) (e := q) (t := t) (f := f) (u := u) (a := 3) (r := u - 3 * 365) h1 hn hc0 hs0 hs1 (by omega) (by omega) (by omega) (by omega) (by omega) (by omega) (by omega) (by omega) (by omega) (by omega) (by omega) (by omega) (by omega) (by omega))
      clear hn h1 hs1
      go_enter Try.func14, Try.ntmps14
      go_wp2
      go_ret2
      exact ⟨⟨_, _, rfl, inYear_eq HY.out (by omega) (by omega)⟩, rfl⟩
  · subst k
    obtain ⟨t, ht⟩ : ∃ t, s - 109572 = t := ⟨_, rfl⟩
    have ht0 : 0 ≤ t := by omega
    have ht1 : t ≤ 36525 := by omega
    obtain ⟨f, hf⟩ : ∃ f, t / 1461 = f := ⟨_, rfl⟩
    obtain ⟨u, hu⟩ : ∃ u, t % 1461 = u := ⟨_, rfl⟩
    have hf0 : 0 ≤ f := by omega
    have hf1 : f ≤ 25 := by omega
    have hu0 : 0 ≤ u := by omega
    have hu1 : u < 1461 := by omega
    obtain ⟨p, hp⟩ : ∃ p, u / 365 = p := ⟨_, rfl⟩
    have hp0 : 0 ≤ p := by omega
    have hp1 : p ≤ 4 := by omega
    rcases Int.lt_trichotomy p 3 with l | l | l
    · have HY := Lib.hid (inYear (n := n) (c := c) (s := s) (e := 3) (t := t) (f := f) (u := u) (a := p) (r := u - p * 365) h1 hn hc0 hs0 hs1 (by omega) (by omega) (by omega) (by omega) (by omega) (by omega) (by omega) (by omega) (by omega) (by omega) (by omega) (by omega) (by omega) (by omega))
      clear hn h1 hs1
      go_enter Try.func14, Try.ntmps14
      go_wp2
      go_ret2
      exact ⟨⟨_, _, rfl, inYear_eq HY.out (by omega) (by omega)⟩, rfl⟩
    · subst l
      have HY := Lib.hid (inYear (n := n) (c := c) (s := s) (e := 3) (t := t) (f := f) (u := u) (a := 3) (r := u - 3 * 365) h1 hn hc0 hs0 hs1 (by omega) (by omega) (by omega) (by omega) (by omega) (by omega) (by omega) (by omega) (by omega) (by omega) (by omega) (by omega) (by omega) (by omega))
      clear hn h1 hs1
      go_enter Try.func14, Try.ntmps14
      go_wp2
      go_ret2
      exact ⟨⟨_, _, rfl, inYear_eq HY.out (by omega) (by omega)⟩, rfl⟩
    · have l2 : ¬ p < 3 := by omega
      have HY := Lib.hid (inYear (n := n) (c := c) (s := s) (e := 3) (t := t) (f := f) (u := u) (a := 3) (r := u - 3 * 365) h1 hn hc0 hs0 hs1 (by omega) (by omega) (by omega) (by omega) (by omega) (by omega) (by omega) (by omega) (by omega) (by omega) (by omega) (by omega) (by omega) (by omega))
      clear hn h1 hs1
      go_enter Try.func14, Try.ntmps14
      go_wp2
      go_ret2
      exact ⟨⟨_, _, rfl, inYear_eq HY.out (by omega) (by omega)⟩, rfl⟩
  · have k2 : ¬ q < 3 := by omega
    obtain ⟨t, ht⟩ : ∃ t, s - 109572 = t := ⟨_, rfl⟩
    have ht0 : 0 ≤ t := by omega
    have ht1 : t ≤ 36525 := by omega
    obtain ⟨f, hf⟩ : ∃ f, t / 1461 = f := ⟨_, rfl⟩
    obtain ⟨u, hu⟩ : ∃ u, t % 1461 = u := ⟨_, rfl⟩
    have hf0 : 0 ≤ f := by omega
    have hf1 : f ≤ 25 := by omega
    have hu0 : 0 ≤ u := by omega
    have hu1 : u < 1461 := by omega
    obtain ⟨p, hp⟩ : ∃ p, u / 365 = p := ⟨_, rfl⟩
    have hp0 : 0 ≤ p := by omega
    have hp1 : p ≤ 4 := by omega
    rcases Int.lt_trichotomy p 3 with l | l | l
    · have HY := Lib.hid (inYear (n := n) (c := c) (s := s) (e := 3) (t := t) (f := f) (u := u) (a := p) (r := u - p * 365) h1 hn hc0 hs0 hs1 (by omega) (by omega) (by omega) (by omega) (by omega) (by omega) (by omega) (by omega) (by omega) (by omega) (by omega) (by omega) (by omega) (by omega))
      clear hn h1 hs1
      go_enter Try.func14, Try.ntmps14
      go_wp2
      go_ret2
      exact ⟨⟨_, _, rfl, inYear_eq HY.out (by omega) (by omega)⟩, rfl⟩
    · subst l
      have HY := Lib.hid (inYear (n := n) (c := c) (s := s) (e := 3) (t := t) (f := f) (u := u) (a := 3) (r := u - 3 * 365) h1 hn hc0 hs0 hs1 (by omega) (by omega) (by omega) (by omega) (by omega) (by omega) (by omega) (by omega) (by omega) (by omega) (by omega) (by omega) (by omega) (by omega))
      clear hn h1 hs1
      go_enter Try.func14, Try.ntmps14
      go_wp2
      go_ret2
      exact ⟨⟨_, _, rfl, inYear_eq HY.out (by omega) (by omega)⟩, rfl⟩
    · have l2 : ¬ p < 3 := by omega
      have HY := Lib.hid (inYear (n := n) (c := c) (s := s) (e := 3) (t := t) (f := f) (u := u) (a := 3) (r := u - 3 * 365) h1 hn hc0 hs0 hs1 (by omega) (by omega) (by omega) (by omega) (by omega) (by omega) (by omega) (by omega) (by omega) (by omega) (by omega) (by omega) (by omega) (by omega))
      clear hn h1 hs1
      go_enter Try.func14, Try.ntmps14
      go_wp2
      go_ret2
      exact ⟨⟨_, _, rfl, inYear_eq HY.out (by omega) (by omega)⟩, rfl⟩

theorem below_set {w0 w w1 : World} (h0 : Below w0.heap.size w0 w) (h1 : Below (boxW w).heap.size (boxW w) w1) (a b c : Value) :
    Below w0.heap.size w0 (((w1.setCell ⟨w.heap.size, 0, none⟩ a).setCell ⟨w.heap.size, 1, none⟩ b).setCell ⟨w.heap.size, 2, none⟩ c) := below_set3 h0 h1 a b c
set_option maxHeartbeats 1000000 in
theorem of_no (n : Int) (w0 w : World) (hw : Below w0.heap.size w0 w) (_hn : Fit n) (h : n < 0 ∨ 3652058 < n) :
    Calls Try.prog 5 #[.int .i64 n] w fun e w' => e = dayB 0 0 0 false ∧ Below w0.heap.size w0 w' := by
  have HW := Lib.hid hw
  clear hw
  have hd : decide (0 ≤ n ∧ n ≤ 3652058) = false := decide_eq_false (by omega)
  go_enter Try.func5, Try.ntmps5
  go_wp2_with fail
  refine (within_date n 0 3652058 _).mono ?_
  rintro e w1 ⟨rfl, hw1⟩
  subst hw1
  rw [hd]
  go_wp2
  refine bodyPost_ret (v := .tuple #[dayV 0 0 0, .bool false]) (by simp [results, dayV, Try.results5, go_sem]) rfl ⟨rfl, ?_⟩
  exact below_box HW.out _
set_option maxHeartbeats 1000000 in
theorem of_yes (n : Int) (w0 w : World) (hw : Below w0.heap.size w0 w) (h0 : 0 ≤ n) (h1 : n ≤ 3652058) :
    Calls Try.prog 5 #[.int .i64 n] w fun e w' => (∃ y m d, e = dayB y m d true ∧ Dt.rightB y m d = true ∧ Dt.num y m d = n) ∧ Below w0.heap.size w0 w' := by
  have HW := Lib.hid hw
  clear hw
  have hd : decide (0 ≤ n ∧ n ≤ 3652058) = true := decide_eq_true ⟨h0, h1⟩
  go_enter Try.func5, Try.ntmps5
  go_wp2_with fail
  refine (within_date n 0 3652058 _).mono ?_
  rintro e w1 ⟨rfl, hw1⟩
  subst hw1
  rw [hd]
  go_wp2_with fail
  refine (year_date n _ h0 h1).mono ?_
  rintro e w1 ⟨⟨y, r, rfl, hy1, hy2, hyn, hr0, hr1⟩, hw1⟩
  subst hw1
  have hlp := Dt.lp_01 y
  go_wp2_with fail
  go_loop [5, 6] (fun t i => ∃ k q : Int, 1 ≤ k ∧ k ≤ 12 ∧ 0 ≤ q ∧ q ≤ 365 ∧ Hid (q + Dt.cum y k = r) ∧ i = .int .i64 k ∧ t = .int .i64 q) (fun _ i => (12 - intOf i).toNat)
  case atStart => exact ⟨1, r, by omega, by omega, hr0, by omega, Lib.hid (by rw [Dt.cum_1, Int.add_zero]), rfl, rfl⟩
  case round =>
    obtain ⟨k, q, hk0, hk1, hq0, hq1, HQ, rfl, rfl⟩ := hrel
    have hlb := Dt.len_bd y k
    have HS := Lib.hid (Dt.cum_succ y k hk0 hk1)
    by_cases hlt : k < 12
    · by_cases hle : Dt.len y k ≤ q
      · go_wp2_with fail
        refine (length_date y k _ (by omega) (by omega)).mono ?_
        rintro e w2 ⟨rfl, hw2⟩
        subst hw2
        go_wp2_with fail
        refine (length_date y k _ (by omega) (by omega)).mono ?_
        rintro e w2 ⟨rfl, hw2⟩
        subst hw2
        go_wp2_with fail
        go_round
        case rel => exact ⟨k + 1, q - Dt.len y k, by omega, by omega, by omega, by omega, Lib.hid (by rw [HS.out, ← HQ.out]; omega), rfl, rfl⟩
        case measure => simp [intOf]; omega
      · have HL := Lib.hid (last_of (n := n) hy1 hy2 hk0 hk1 (by rw [← hyn, ← HQ.out]; omega) (by rw [HS.out, ← hyn, ← HQ.out]; omega))
        have HE : Hid (1 + n - (Dt.yd y + Dt.cum y k) = q + 1) := Lib.hid (by rw [← hyn, ← HQ.out]; omega)
        clear hyn
        go_wp2_with fail
        refine (length_date y k _ (by omega) (by omega)).mono ?_
        rintro e w2 ⟨rfl, hw2⟩
        subst hw2
        go_wp2_with fail
        refine bodyPost_ret (v := .tuple #[dayV y k (q + 1), .bool true]) (by simp [results, dayV, Try.results5, go_sem]) rfl ⟨⟨y, k, q + 1, rfl, by rw [← HE.out]; exact HL.out.1, by rw [← HE.out]; exact HL.out.2⟩, ?_⟩
        exact below_box HW.out _
    · obtain rfl : k = 12 := by omega
      have h13 := Dt.cum_13 y
      have HL := Lib.hid (last_of (n := n) hy1 hy2 hk0 hk1 (by rw [← hyn, ← HQ.out]; omega) (by show n < Dt.yd y + Dt.cum y 13; omega))
      have HE : Hid (1 + n - (Dt.yd y + Dt.cum y 12) = q + 1) := Lib.hid (by rw [← hyn, ← HQ.out]; omega)
      clear hyn h13
      go_wp2_with fail
      refine bodyPost_ret (v := .tuple #[dayV y 12 (q + 1), .bool true]) (by simp [results, dayV, Try.results5, go_sem]) rfl ⟨⟨y, 12, q + 1, rfl, by rw [← HE.out]; exact HL.out.1, by rw [← HE.out]; exact HL.out.2⟩, ?_⟩
      exact below_box HW.out _
end Go.Proofs.Ytekegbnmmjhfiab
