/- PLAIN LEAN: the days of the years 1 to 9999, their numbers, their order; no Go here. -/
import Derived.WalkKit
namespace Go.Proofs.Ytegniklofhopeaa.Dt

/-! ### years and months -/
def leapB (y : Int) : Bool := decide (y % 4 = 0 ∧ (y % 100 ≠ 0 ∨ y % 400 = 0))
def lp (y : Int) : Int := if leapB y = true then 1 else 0
theorem lp_01 (y : Int) : 0 ≤ lp y ∧ lp y ≤ 1 := by
  unfold lp
  split <;> omega
theorem lp_true {y : Int} (h : leapB y = true) : lp y = 1 := if_pos h
theorem lp_false {y : Int} (h : leapB y = false) : lp y = 0 := if_neg (by rw [h]; simp)
theorem leap_iff (y : Int) : leapB y = true ↔ y % 4 = 0 ∧ (y % 100 ≠ 0 ∨ y % 400 = 0) := decide_eq_true_iff
/-- a month's length -/
def len (y m : Int) : Int := if m = 2 then 28 + lp y else if m = 4 ∨ m = 6 ∨ m = 9 ∨ m = 11 then 30 else if 1 ≤ m ∧ m ≤ 12 then 31 else 0
theorem len_2 (y : Int) : len y 2 = 28 + lp y := if_pos rfl
theorem len_30 {y m : Int} (h : m = 4 ∨ m = 6 ∨ m = 9 ∨ m = 11) : len y m = 30 := by
  unfold len
  rw [if_neg (by omega), if_pos h]
theorem len_31 {y m : Int} (h : m = 1 ∨ m = 3 ∨ m = 5 ∨ m = 7 ∨ m = 8 ∨ m = 10 ∨ m = 12) : len y m = 31 := by
  unfold len
  rw [if_neg (by omega), if_neg (by omega), if_pos (by omega)]
theorem len_0 {y m : Int} (h : m < 1 ∨ 12 < m) : len y m = 0 := by
  unfold len
  rw [if_neg (by omega), if_neg (by omega), if_neg (by omega)]
theorem len_bd (y m : Int) : 0 ≤ len y m ∧ len y m ≤ 31 := by
  have := lp_01 y
  unfold len
  split
  · omega
  · split
    · omega
    · split <;> omega
theorem len_lo {y m : Int} (h0 : 1 ≤ m) (h1 : m ≤ 12) : 28 ≤ len y m := by
  have := lp_01 y
  unfold len
  split
  · omega
  · split
    · omega
    · rw [if_pos ⟨h0, h1⟩]; omega
theorem len_month {y m : Int} (h : 1 ≤ len y m) : 1 ≤ m ∧ m ≤ 12 := by
  by_cases h1 : m < 1 ∨ 12 < m
  · rw [len_0 h1] at h; omega
  · omega
/-- the days ahead of a month -/
def cum (y m : Int) : Int :=
  (if m ≤ 1 then 0 else if m = 2 then 31 else if m = 3 then 59 else if m = 4 then 90 else if m = 5 then 120 else if m = 6 then 151 else if m = 7 then 181 else if m = 8 then 212 else if m = 9 then 243 else if m = 10 then 273 else if m = 11 then 304 else if m = 12 then 334 else 365)
    + (if m ≤ 2 then 0 else lp y)
theorem cum_1 (y : Int) : cum y 1 = 0 := rfl
theorem cum_13 (y : Int) : cum y 13 = 365 + lp y := rfl
theorem cum_succ (y m : Int) (h0 : 1 ≤ m) (h1 : m ≤ 12) : cum y (m + 1) = cum y m + len y m := by
  have h : m = 1 ∨ m = 2 ∨ m = 3 ∨ m = 4 ∨ m = 5 ∨ m = 6 ∨ m = 7 ∨ m = 8 ∨ m = 9 ∨ m = 10 ∨ m = 11 ∨ m = 12 := by omega
  rcases h with rfl | rfl | rfl | rfl | rfl | rfl | rfl | rfl | rfl | rfl | rfl | rfl <;> simp [cum, len] <;> omega
theorem cum_mono (y m : Int) : ∀ (k : Nat), 1 ≤ m → m + k ≤ 13 → cum y m + 28 * k ≤ cum y (m + k)
  | 0, _, _ => by simp
  | k + 1, h0, h1 => by
    have h := cum_mono y m k h0 (by omega)
    have h2 := cum_succ y (m + k) (by omega) (by omega)
    have h3 := len_lo (y := y) (show 1 ≤ m + (k : Int) by omega) (show m + (k : Int) ≤ 12 by omega)
    have e : m + ((k + 1 : Nat) : Int) = m + k + 1 := by omega
    rw [e, h2]
    omega
theorem cum_le {y m n : Int} (h0 : 1 ≤ m) (h1 : m ≤ n) (h2 : n ≤ 13) : cum y m ≤ cum y n := by
  have h := cum_mono y m (n - m).toNat h0 (by omega)
  rw [show m + ((n - m).toNat : Int) = n by omega] at h
  omega
theorem cum_bd {y m : Int} (h0 : 1 ≤ m) (h1 : m ≤ 13) : 0 ≤ cum y m ∧ cum y m ≤ 366 := by
  have h := cum_le (y := y) (show (1 : Int) ≤ 1 by omega) h0 h1
  have h2 := cum_le (y := y) h0 h1 (show (13 : Int) ≤ 13 by omega)
  rw [cum_1] at h
  rw [cum_13] at h2
  have := lp_01 y
  omega
/-- the days ahead of a year -/
def yd (y : Int) : Int := 365 * (y - 1) + (y - 1) / 4 - (y - 1) / 100 + (y - 1) / 400
theorem yd_1 : yd 1 = 0 := rfl
theorem yd_last : yd 10000 = 3652059 := rfl
theorem yd_succ (y : Int) : yd (y + 1) = yd y + 365 + lp y := by
  unfold yd lp
  split
  · rename_i h
    rw [leap_iff] at h
    omega
  · rename_i h
    rw [leap_iff] at h
    omega
theorem yd_mono (y : Int) : ∀ (k : Nat), yd y + 365 * k ≤ yd (y + k)
  | 0 => by simp
  | k + 1 => by
    have h := yd_mono y k
    have h2 := yd_succ (y + k)
    have := lp_01 (y + k)
    have e : y + ((k + 1 : Nat) : Int) = y + k + 1 := by omega
    rw [e, h2]
    omega
theorem yd_le {y z : Int} (h : y ≤ z) : yd y + 365 * (z - y) ≤ yd z := by
  have h1 := yd_mono y (z - y).toNat
  rw [show y + ((z - y).toNat : Int) = z by omega] at h1
  omega
theorem yd_bd {y : Int} (h0 : 1 ≤ y) (h1 : y ≤ 10000) : 0 ≤ yd y ∧ yd y ≤ 3652059 := by
  have h2 := yd_le h0
  have h3 := yd_le h1
  rw [yd_1] at h2
  rw [yd_last] at h3
  omega

/-! ### days -/
def rightB (y m d : Int) : Bool := decide (1 ≤ y ∧ y ≤ 9999 ∧ 1 ≤ d ∧ d ≤ len y m)
theorem right_iff (y m d : Int) : rightB y m d = true ↔ 1 ≤ y ∧ y ≤ 9999 ∧ 1 ≤ d ∧ d ≤ len y m := decide_eq_true_iff
theorem right_mk {y m d : Int} (h : 1 ≤ y ∧ y ≤ 9999 ∧ 1 ≤ d ∧ d ≤ len y m) : rightB y m d = true := decide_eq_true h
theorem right_bd {y m d : Int} (h : rightB y m d = true) : 1 ≤ y ∧ y ≤ 9999 ∧ 1 ≤ m ∧ m ≤ 12 ∧ 1 ≤ d ∧ d ≤ 31 := by
  obtain ⟨h1, h2, h3, h4⟩ := (right_iff y m d).1 h
  have h5 := len_month (y := y) (m := m) (by omega)
  have h6 := len_bd y m
  omega
/-- how many days lie ahead -/
def num (y m d : Int) : Int := yd y + cum y m + d - 1
def days (y m d : Int) : Int := if rightB y m d = true then num y m d else -1
theorem days_right {y m d : Int} (h : rightB y m d = true) : days y m d = num y m d := if_pos h
theorem days_not {y m d : Int} (h : rightB y m d = false) : days y m d = -1 := if_neg (by rw [h]; simp)
theorem num_hi {y m d : Int} (h : rightB y m d = true) : yd y + cum y m ≤ num y m d ∧ num y m d < yd y + cum y (m + 1) ∧ num y m d < yd (y + 1) := by
  obtain ⟨h1, h2, h3, h4⟩ := (right_iff y m d).1 h
  obtain ⟨_, _, h5, h6, _, _⟩ := right_bd h
  have h7 := cum_succ y m h5 h6
  have h8 := cum_le (y := y) (show 1 ≤ m + 1 by omega) (show m + 1 ≤ 13 by omega) (show (13 : Int) ≤ 13 by omega)
  rw [cum_13] at h8
  have h9 := yd_succ y
  unfold num
  omega
theorem num_bd {y m d : Int} (h : rightB y m d = true) : 0 ≤ num y m d ∧ num y m d ≤ 3652058 := by
  obtain ⟨h1, h2, h3, h4, _, _⟩ := right_bd h
  have h5 := yd_bd h1 (show y ≤ 10000 by omega)
  have h6 := cum_bd (y := y) h3 (show m ≤ 13 by omega)
  have h7 := num_hi h
  have h8 := yd_bd (show 1 ≤ y + 1 by omega) (show y + 1 ≤ 10000 by omega)
  omega
theorem days_bd (y m d : Int) : -1 ≤ days y m d ∧ days y m d ≤ 3652058 := by
  by_cases h : rightB y m d = true
  · rw [days_right h]
    have := num_bd h
    omega
  · rw [days_not (by simpa using h)]
    omega
/-- one day ahead of another, by year, month and day -/
def Lex (y m d z n e : Int) : Prop := y < z ∨ (y = z ∧ (m < n ∨ (m = n ∧ d < e)))
theorem lex_lt {y m d z n e : Int} (ha : rightB y m d = true) (hb : rightB z n e = true) (h : Lex y m d z n e) : num y m d < num z n e := by
  have h1 := num_hi ha
  have h2 := num_hi hb
  obtain ⟨_, _, a3, a4, _, _⟩ := right_bd ha
  obtain ⟨_, _, b3, b4, _, _⟩ := right_bd hb
  rcases h with h | ⟨rfl, h | ⟨rfl, h⟩⟩
  · have h3 := yd_le (show y + 1 ≤ z by omega)
    have h4 := cum_bd (y := z) b3 (show n ≤ 13 by omega)
    omega
  · have h3 := cum_le (y := y) (show 1 ≤ m + 1 by omega) (show m + 1 ≤ n by omega) (show n ≤ 13 by omega)
    omega
  · unfold num
    omega
theorem lex_three (y m d z n e : Int) : Lex y m d z n e ∨ (y = z ∧ m = n ∧ d = e) ∨ Lex z n e y m d := by
  unfold Lex
  omega
theorem lt_lex {y m d z n e : Int} (ha : rightB y m d = true) (hb : rightB z n e = true) : num y m d < num z n e ↔ Lex y m d z n e := by
  refine ⟨fun h => ?_, lex_lt ha hb⟩
  rcases lex_three y m d z n e with h1 | ⟨rfl, rfl, rfl⟩ | h1
  · exact h1
  · omega
  · have := lex_lt hb ha h1
    omega
theorem num_inj {y m d z n e : Int} (ha : rightB y m d = true) (hb : rightB z n e = true) (h : num y m d = num z n e) : y = z ∧ m = n ∧ d = e := by
  rcases lex_three y m d z n e with h1 | h1 | h1
  · have := lex_lt ha hb h1
    omega
  · exact h1
  · have := lex_lt hb ha h1
    omega
/-- the day behind a day -/
theorem next {y m d : Int} (h : rightB y m d = true) (hn : num y m d < 3652058) :
    (d < len y m ∧ rightB y m (d + 1) = true ∧ num y m (d + 1) = num y m d + 1)
    ∨ (d = len y m ∧ m < 12 ∧ rightB y (m + 1) 1 = true ∧ num y (m + 1) 1 = num y m d + 1)
    ∨ (d = len y m ∧ m = 12 ∧ rightB (y + 1) 1 1 = true ∧ num (y + 1) 1 1 = num y m d + 1) := by
  obtain ⟨h1, h2, h3, h4⟩ := (right_iff y m d).1 h
  obtain ⟨_, _, h5, h6, _, _⟩ := right_bd h
  by_cases hd : d < len y m
  · exact .inl ⟨hd, right_mk ⟨h1, h2, by omega, by omega⟩, by unfold num; omega⟩
  · have hd' : d = len y m := by omega
    by_cases hm : m < 12
    · have h7 := len_lo (y := y) (show 1 ≤ m + 1 by omega) (show m + 1 ≤ 12 by omega)
      have h8 := cum_succ y m h5 h6
      exact .inr (.inl ⟨hd', hm, right_mk ⟨h1, h2, by omega, by omega⟩, by unfold num; omega⟩)
    · have hm' : m = 12 := by omega
      subst hm'
      have h8 := cum_succ y 12 h5 h6
      rw [show (12 : Int) + 1 = 13 from rfl, cum_13] at h8
      have h9 := yd_succ y
      have h10 : num (y + 1) 1 1 = num y 12 d + 1 := by
        unfold num
        rw [cum_1]
        omega
      have h11 : y < 9999 := by
        by_cases h : y < 9999
        · exact h
        · have : y = 9999 := by omega
          subst this
          unfold num at h10 hn
          rw [cum_1, show (9999 : Int) + 1 = 10000 from rfl, yd_last] at h10
          omega
      have h12 := len_lo (y := y + 1) (show (1 : Int) ≤ 1 by omega) (show (1 : Int) ≤ 12 by omega)
      exact .inr (.inr ⟨hd', rfl, right_mk ⟨by omega, by omega, by omega, by omega⟩, h10⟩)
/-- each number's day -/
theorem exists_day : ∀ (n : Nat), n ≤ 3652058 → ∃ y m d : Int, rightB y m d = true ∧ num y m d = n
  | 0, _ => ⟨1, 1, 1, by decide, by decide⟩
  | n + 1, h => by
    obtain ⟨y, m, d, h1, h2⟩ := exists_day n (by omega)
    rcases next h1 (by omega) with ⟨_, h3, h4⟩ | ⟨_, _, h3, h4⟩ | ⟨_, _, h3, h4⟩
    · exact ⟨_, _, _, h3, by omega⟩
    · exact ⟨_, _, _, h3, by omega⟩
    · exact ⟨_, _, _, h3, by omega⟩
end Go.Proofs.Ytegniklofhopeaa.Dt
