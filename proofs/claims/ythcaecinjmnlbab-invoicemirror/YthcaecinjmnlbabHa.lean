/- MERGED: Plain, ArgsN, Dt, DtTxt, TxtN, Rune, Vt, MemK. (By mg11.py.) -/
import Derived.Test.YthcaecinjmnlbabRows
import Derived.WalkKit
import Derived.WalkLawsBesides
import Derived.Laws.BitsAllLaws
import Derived.Deep.QuietTactic
import Derived.BigQuiet
import Derived.WalkSmall
import Derived.WalkSpells
import Derived.Lib.Hide
import Derived.ProofKit
import Derived.OpenShut
import Derived.ShutString
import Derived.ChangeOld
import Derived.SizedLaws
import Derived.Lib.OthersKept
import Derived.Laws.Strings3
import Derived.Laws.Runes
import Derived.Laws.Concat
import Derived.Deep.RegionHeld3
import Derived.Lib.MapLaws
/- WHAT A WALK OVER NUMBERS ALONE NEEDS. -/
namespace Go.Proofs.Ythcaecinjmnlbab
open Go.RowKit

theorem ret_bool {a b : Bool} (h : a = b) : Ending.returned (.bool a) = .returned (.bool b) := by rw [h]
theorem ret_int {a b : Int} (h : a = b) : Ending.returned (.int .i64 a) = .returned (.int .i64 b) := by rw [h]
theorem ret_u64 {a b : Int} (h : a = b) : Ending.returned (.int .u64 a) = .returned (.int .u64 b) := by rw [h]
/-- two numbers answered -/
def both (v e : Int) : Ending := .returned (.tuple #[.int .i64 v, .int .i64 e])
theorem both_eq {a b c d : Int} (h : a = b) (k : c = d) : both a c = both b d := by rw [h, k]
def Fit (x : Int) : Prop := -9223372036854775808 ≤ x ∧ x ≤ 9223372036854775807
theorem fit_in {a : Int} (h : (Lit.int .i64 a).wf = true) : Fit a := by
  simpa [Lit.wf, IntKind.min, IntKind.max, IntKind.signed, IntKind.bits, Fit] using h
end Go.Proofs.Ythcaecinjmnlbab

/- WHAT THE FRAME OF A LAW OVER NUMBERS ALONE NEEDS. -/
namespace Go.Proofs.Ythcaecinjmnlbab
open Go.ChangeShapes Go.WideShapes Go.ChangeAt Go.RowKit

theorem own : ownKnob Try.prog.godebug = none := by kernel_rfl
theorem laidOut : laidOutB Try.prog = true := by kernel_rfl
end Go.Proofs.Ythcaecinjmnlbab

/- PLAIN LEAN: the days of the years 1 to 9999, their numbers, their order; no Go here. -/
namespace Go.Proofs.Ythcaecinjmnlbab.Dt

/-! ### years and months -/
def leapB (y : Int) : Bool := decide (y % 4 = 0 ∧ (y % 100 ≠ 0 ∨ y % 400 = 0))
def lp (y : Int) : Int := if leapB y = true then 1 else 0
theorem lp_01 (y : Int) : 0 ≤ lp y ∧ lp y ≤ 1 := by
  unfold lp
  split <;> omega
theorem lp_true {y : Int} (h : leapB y = true) : lp y = 1 := if_pos h
theorem lp_false {y : Int} (h : leapB y = false) : lp y = 0 := if_neg (by rw [h]; simp)
theorem leap_iff (y : Int) : leapB y = true ↔ y % 4 = 0 ∧ (y % 100 ≠ 0 ∨ y % 400 = 0) := decide_eq_true_iff
/-- a month's length -/
def len (y m : Int) : Int := if m = 2 then 28 + lp y else if m = 4 ∨ m = 6 ∨ m = 9 ∨ m = 11 then 30 else if 1 ≤ m ∧ m ≤ 12 then 31 else 0
theorem len_2 (y : Int) : len y 2 = 28 + lp y := if_pos rfl
theorem len_30 {y m : Int} (h : m = 4 ∨ m = 6 ∨ m = 9 ∨ m = 11) : len y m = 30 := by
  unfold len
  rw [if_neg (by omega), if_pos h]
theorem len_31 {y m : Int} (h : m = 1 ∨ m = 3 ∨ m = 5 ∨ m = 7 ∨ m = 8 ∨ m = 10 ∨ m = 12) : len y m = 31 := by
  unfold len
  rw [if_neg (by omega), if_neg (by omega), if_pos (by omega)]
theorem len_0 {y m : Int} (h : m < 1 ∨ 12 < m) : len y m = 0 := by
  unfold len
  rw [if_neg (by omega), if_neg (by omega), if_neg (by omega)]
theorem len_bd (y m : Int) : 0 ≤ len y m ∧ len y m ≤ 31 := by
  have := lp_01 y
  unfold len
  split
  · omega
  · split
    · omega
    · split <;> omega
theorem len_lo {y m : Int} (h0 : 1 ≤ m) (h1 : m ≤ 12) : 28 ≤ len y m := by
  have := lp_01 y
  unfold len
  split
  · omega
  · split
    · omega
    · rw [if_pos ⟨h0, h1⟩]; omega
theorem len_month {y m : Int} (h : 1 ≤ len y m) : 1 ≤ m ∧ m ≤ 12 := by
  by_cases h1 : m < 1 ∨ 12 < m
  · rw [len_0 h1] at h; omega
  · omega
/-- the days ahead of a month -/
def cum (y m : Int) : Int :=
  (if m ≤ 1 then 0 else if m = 2 then 31 else if m = 3 then 59 else if m = 4 then 90 else if m = 5 then 120 else if m = 6 then 151 else if m = 7 then 181 else if m = 8 then 212 else if m = 9 then 243 else if m = 10 then 273 else if m = 11 then 304 else if m = 12 then 334 else 365)
    + (if m ≤ 2 then 0 else lp y)
theorem cum_1 (y : Int) : cum y 1 = 0 := rfl
theorem cum_13 (y : Int) : cum y 13 = 365 + lp y := rfl
theorem cum_succ (y m : Int) (h0 : 1 ≤ m) (h1 : m ≤ 12) : cum y (m + 1) = cum y m + len y m := by
  have h : m = 1 ∨ m = 2 ∨ m = 3 ∨ m = 4 ∨ m = 5 ∨ m = 6 ∨ m = 7 ∨ m = 8 ∨ m = 9 ∨ m = 10 ∨ m = 11 ∨ m = 12 := by omega
  rcases h with rfl | rfl | rfl | rfl | rfl | rfl | rfl | rfl | rfl | rfl | rfl | rfl <;> simp [cum, len] <;> omega
theorem cum_mono (y m : Int) : ∀ (k : Nat), 1 ≤ m → m + k ≤ 13 → cum y m + 28 * k ≤ cum y (m + k)
  | 0, _, _ => by simp
  | k + 1, h0, h1 => by
    have h := cum_mono y m k h0 (by omega)
    have h2 := cum_succ y (m + k) (by omega) (by omega)
    have h3 := len_lo (y := y) (show 1 ≤ m + (k : Int) by omega) (show m + (k : Int) ≤ 12 by omega)
    have e : m + ((k + 1 : Nat) : Int) = m + k + 1 := by omega
    rw [e, h2]
    omega
theorem cum_le {y m n : Int} (h0 : 1 ≤ m) (h1 : m ≤ n) (h2 : n ≤ 13) : cum y m ≤ cum y n := by
  have h := cum_mono y m (n - m).toNat h0 (by omega)
  rw [show m + ((n - m).toNat : Int) = n by omega] at h
  omega
theorem cum_bd {y m : Int} (h0 : 1 ≤ m) (h1 : m ≤ 13) : 0 ≤ cum y m ∧ cum y m ≤ 366 := by
  have h := cum_le (y := y) (show (1 : Int) ≤ 1 by omega) h0 h1
  have h2 := cum_le (y := y) h0 h1 (show (13 : Int) ≤ 13 by omega)
  rw [cum_1] at h
  rw [cum_13] at h2
  have := lp_01 y
  omega
/-- the days ahead of a year -/
def yd (y : Int) : Int := 365 * (y - 1) + (y - 1) / 4 - (y - 1) / 100 + (y - 1) / 400
theorem yd_1 : yd 1 = 0 := rfl
theorem yd_last : yd 10000 = 3652059 := rfl
theorem yd_succ (y : Int) : yd (y + 1) = yd y + 365 + lp y := by
  unfold yd lp
  split
  · rename_i h
    rw [leap_iff] at h
    omega
  · rename_i h
    rw [leap_iff] at h
    omega
theorem yd_mono (y : Int) : ∀ (k : Nat), yd y + 365 * k ≤ yd (y + k)
  | 0 => by simp
  | k + 1 => by
    have h := yd_mono y k
    have h2 := yd_succ (y + k)
    have := lp_01 (y + k)
    have e : y + ((k + 1 : Nat) : Int) = y + k + 1 := by omega
    rw [e, h2]
    omega
theorem yd_le {y z : Int} (h : y ≤ z) : yd y + 365 * (z - y) ≤ yd z := by
  have h1 := yd_mono y (z - y).toNat
  rw [show y + ((z - y).toNat : Int) = z by omega] at h1
  omega
theorem yd_bd {y : Int} (h0 : 1 ≤ y) (h1 : y ≤ 10000) : 0 ≤ yd y ∧ yd y ≤ 3652059 := by
  have h2 := yd_le h0
  have h3 := yd_le h1
  rw [yd_1] at h2
  rw [yd_last] at h3
  omega

/-! ### days -/
def rightB (y m d : Int) : Bool := decide (1 ≤ y ∧ y ≤ 9999 ∧ 1 ≤ d ∧ d ≤ len y m)
theorem right_iff (y m d : Int) : rightB y m d = true ↔ 1 ≤ y ∧ y ≤ 9999 ∧ 1 ≤ d ∧ d ≤ len y m := decide_eq_true_iff
theorem right_mk {y m d : Int} (h : 1 ≤ y ∧ y ≤ 9999 ∧ 1 ≤ d ∧ d ≤ len y m) : rightB y m d = true := decide_eq_true h
theorem right_bd {y m d : Int} (h : rightB y m d = true) : 1 ≤ y ∧ y ≤ 9999 ∧ 1 ≤ m ∧ m ≤ 12 ∧ 1 ≤ d ∧ d ≤ 31 := by
  obtain ⟨h1, h2, h3, h4⟩ := (right_iff y m d).1 h
  have h5 := len_month (y := y) (m := m) (by omega)
  have h6 := len_bd y m
  omega
/-- how many days lie ahead -/
def num (y m d : Int) : Int := yd y + cum y m + d - 1
def days (y m d : Int) : Int := if rightB y m d = true then num y m d else -1
theorem days_right {y m d : Int} (h : rightB y m d = true) : days y m d = num y m d := if_pos h
theorem days_not {y m d : Int} (h : rightB y m d = false) : days y m d = -1 := if_neg (by rw [h]; simp)
theorem num_hi {y m d : Int} (h : rightB y m d = true) : yd y + cum y m ≤ num y m d ∧ num y m d < yd y + cum y (m + 1) ∧ num y m d < yd (y + 1) := by
  obtain ⟨h1, h2, h3, h4⟩ := (right_iff y m d).1 h
  obtain ⟨_, _, h5, h6, _, _⟩ := right_bd h
  have h7 := cum_succ y m h5 h6
  have h8 := cum_le (y := y) (show 1 ≤ m + 1 by omega) (show m + 1 ≤ 13 by omega) (show (13 : Int) ≤ 13 by omega)
  rw [cum_13] at h8
  have h9 := yd_succ y
  unfold num
  omega
theorem num_bd {y m d : Int} (h : rightB y m d = true) : 0 ≤ num y m d ∧ num y m d ≤ 3652058 := by
  obtain ⟨h1, h2, h3, h4, _, _⟩ := right_bd h
  have h5 := yd_bd h1 (show y ≤ 10000 by omega)
  have h6 := cum_bd (y := y) h3 (show m ≤ 13 by omega)
  have h7 := num_hi h
  have h8 := yd_bd (show 1 ≤ y + 1 by omega) (show y + 1 ≤ 10000 by omega)
  omega
theorem days_bd (y m d : Int) : -1 ≤ days y m d ∧ days y m d ≤ 3652058 := by
  by_cases h : rightB y m d = true
  · rw [days_right h]
    have := num_bd h
    omega
  · rw [days_not (by simpa using h)]
    omega
/-- one day ahead of another, by year, month and day -/
def Lex (y m d z n e : Int) : Prop := y < z ∨ (y = z ∧ (m < n ∨ (m = n ∧ d < e)))
theorem lex_lt {y m d z n e : Int} (ha : rightB y m d = true) (hb : rightB z n e = true) (h : Lex y m d z n e) : num y m d < num z n e := by
  have h1 := num_hi ha
  have h2 := num_hi hb
  obtain ⟨_, _, a3, a4, _, _⟩ := right_bd ha
  obtain ⟨_, _, b3, b4, _, _⟩ := right_bd hb
  rcases h with h | ⟨rfl, h | ⟨rfl, h⟩⟩
  · have h3 := yd_le (show y + 1 ≤ z by omega)
    have h4 := cum_bd (y := z) b3 (show n ≤ 13 by omega)
    omega
  · have h3 := cum_le (y := y) (show 1 ≤ m + 1 by omega) (show m + 1 ≤ n by omega) (show n ≤ 13 by omega)
    omega
  · unfold num
    omega
theorem lex_three (y m d z n e : Int) : Lex y m d z n e ∨ (y = z ∧ m = n ∧ d = e) ∨ Lex z n e y m d := by
  unfold Lex
  omega
theorem lt_lex {y m d z n e : Int} (ha : rightB y m d = true) (hb : rightB z n e = true) : num y m d < num z n e ↔ Lex y m d z n e := by
  refine ⟨fun h => ?_, lex_lt ha hb⟩
  rcases lex_three y m d z n e with h1 | ⟨rfl, rfl, rfl⟩ | h1
  · exact h1
  · omega
  · have := lex_lt hb ha h1
    omega
theorem num_inj {y m d z n e : Int} (ha : rightB y m d = true) (hb : rightB z n e = true) (h : num y m d = num z n e) : y = z ∧ m = n ∧ d = e := by
  rcases lex_three y m d z n e with h1 | h1 | h1
  · have := lex_lt ha hb h1
    omega
  · exact h1
  · have := lex_lt hb ha h1
    omega
/-- the day behind a day -/
theorem next {y m d : Int} (h : rightB y m d = true) (hn : num y m d < 3652058) :
    (d < len y m ∧ rightB y m (d + 1) = true ∧ num y m (d + 1) = num y m d + 1)
    ∨ (d = len y m ∧ m < 12 ∧ rightB y (m + 1) 1 = true ∧ num y (m + 1) 1 = num y m d + 1)
    ∨ (d = len y m ∧ m = 12 ∧ rightB (y + 1) 1 1 = true ∧ num (y + 1) 1 1 = num y m d + 1) := by
  obtain ⟨h1, h2, h3, h4⟩ := (right_iff y m d).1 h
  obtain ⟨_, _, h5, h6, _, _⟩ := right_bd h
  by_cases hd : d < len y m
  · exact .inl ⟨hd, right_mk ⟨h1, h2, by omega, by omega⟩, by unfold num; omega⟩
  · have hd' : d = len y m := by omega
    by_cases hm : m < 12
    · have h7 := len_lo (y := y) (show 1 ≤ m + 1 by omega) (show m + 1 ≤ 12 by omega)
      have h8 := cum_succ y m h5 h6
      exact .inr (.inl ⟨hd', hm, right_mk ⟨h1, h2, by omega, by omega⟩, by unfold num; omega⟩)
    · have hm' : m = 12 := by omega
      subst hm'
      have h8 := cum_succ y 12 h5 h6
      rw [show (12 : Int) + 1 = 13 from rfl, cum_13] at h8
      have h9 := yd_succ y
      have h10 : num (y + 1) 1 1 = num y 12 d + 1 := by
        unfold num
        rw [cum_1]
        omega
      have h11 : y < 9999 := by
        by_cases h : y < 9999
        · exact h
        · have : y = 9999 := by omega
          subst this
          unfold num at h10 hn
          rw [cum_1, show (9999 : Int) + 1 = 10000 from rfl, yd_last] at h10
          omega
      have h12 := len_lo (y := y + 1) (show (1 : Int) ≤ 1 by omega) (show (1 : Int) ≤ 12 by omega)
      exact .inr (.inr ⟨hd', rfl, right_mk ⟨by omega, by omega, by omega, by omega⟩, h10⟩)
/-- each number's day -/
theorem exists_day : ∀ (n : Nat), n ≤ 3652058 → ∃ y m d : Int, rightB y m d = true ∧ num y m d = n
  | 0, _ => ⟨1, 1, 1, by decide, by decide⟩
  | n + 1, h => by
    obtain ⟨y, m, d, h1, h2⟩ := exists_day n (by omega)
    rcases next h1 (by omega) with ⟨_, h3, h4⟩ | ⟨_, _, h3, h4⟩ | ⟨_, _, h3, h4⟩
    · exact ⟨_, _, _, h3, by omega⟩
    · exact ⟨_, _, _, h3, by omega⟩
    · exact ⟨_, _, _, h3, by omega⟩
end Go.Proofs.Ythcaecinjmnlbab.Dt

/- PLAIN LEAN: days' texts, what a text tells, the texts' order; no Go walked here. -/
namespace Go.Proofs.Ythcaecinjmnlbab.Dt

/-! ### digits -/
def dig (u : Nat) : UInt8 := UInt8.ofNat (48 + u % 10)
theorem dig_nat (u : Nat) : (dig u).toNat = 48 + u % 10 := by
  unfold dig
  rw [UInt8.toNat_ofNat']
  omega
theorem dig_lt (u v : Nat) : dig u < dig v ↔ u % 10 < v % 10 := by
  rw [UInt8.lt_iff_toNat_lt, dig_nat, dig_nat]
  omega
theorem dig_eq (u v : Nat) : dig u = dig v ↔ u % 10 = v % 10 := by
  rw [← UInt8.toNat_inj, dig_nat, dig_nat]
  omega
def isDig (b : UInt8) : Bool := decide (48 ≤ b.toNat ∧ b.toNat ≤ 57)
theorem isDig_dig (u : Nat) : isDig (dig u) = true := by
  unfold isDig
  rw [dig_nat]
  exact decide_eq_true (by omega)
def worth (b : UInt8) : Nat := b.toNat - 48
theorem worth_dig (u : Nat) : worth (dig u) = u % 10 := by
  unfold worth
  rw [dig_nat]
  omega

/-! ### a day's text -/
def bare (y m d : Nat) : List UInt8 := [dig (y / 1000), dig (y / 100), dig (y / 10), dig y, 45, dig (m / 10), dig m, 45, dig (d / 10), dig d]
def shown (y m d : Int) : List UInt8 := if rightB y m d = true then bare y.toNat m.toNat d.toNat else []
theorem shown_right {y m d : Int} (h : rightB y m d = true) : shown y m d = bare y.toNat m.toNat d.toNat := if_pos h
theorem shown_not {y m d : Int} (h : rightB y m d = false) : shown y m d = [] := if_neg (by rw [h]; simp)
theorem bare_len (y m d : Nat) : (bare y m d).length = 10 := rfl

/-! ### what a text tells -/
def parse : List UInt8 → Option (Nat × Nat × Nat)
  | [a, b, c, d, e, f, g, h, i, j] =>
    if isDig a && isDig b && isDig c && isDig d && (e == 45) && isDig f && isDig g && (h == 45) && isDig i && isDig j then
      some (1000 * worth a + 100 * worth b + 10 * worth c + worth d, 10 * worth f + worth g, 10 * worth i + worth j)
    else none
  | _ => none
theorem parse_ten (a b c d e f g h i j : UInt8) : parse [a, b, c, d, e, f, g, h, i, j] = if isDig a && isDig b && isDig c && isDig d && (e == 45) && isDig f && isDig g && (h == 45) && isDig i && isDig j then
      some (1000 * worth a + 100 * worth b + 10 * worth c + worth d, 10 * worth f + worth g, 10 * worth i + worth j)
    else none := rfl
theorem parse_len {l : List UInt8} (h : l.length ≠ 10) : parse l = none := by
  unfold parse
  split
  · exact absurd rfl h
  · rfl
theorem ten {l : List UInt8} (h : l.length = 10) : ∃ a b c d e f g h i j, l = [a, b, c, d, e, f, g, h, i, j] := by
  match l, h with
  | [a, b, c, d, e, f, g, h, i, j], _ => exact ⟨a, b, c, d, e, f, g, h, i, j, rfl⟩
theorem parse_bare (y m d : Nat) : parse (bare y m d) = some (y % 10000, m % 100, d % 100) := by
  unfold parse bare
  simp only [isDig_dig, worth_dig, beq_self_eq_true, Bool.and_true, if_true, Option.some.injEq, Prod.mk.injEq]
  refine ⟨?_, ?_, ?_⟩ <;> omega
/-- the day and the error that a text tells -/
def told (l : List UInt8) : Int × Int × Int × Int :=
  match parse l with
  | none => (0, 0, 0, 4)
  | some (y, m, d) => if rightB y m d = true then ((y : Int), (m : Int), (d : Int), 0) else (0, 0, 0, 9)
theorem told_none {l : List UInt8} (h : parse l = none) : told l = (0, 0, 0, 4) := by
  unfold told
  rw [h]
theorem told_some {l : List UInt8} {y m d : Nat} (h : parse l = some (y, m, d)) (hr : rightB y m d = true) : told l = ((y : Int), (m : Int), (d : Int), 0) := by
  unfold told
  rw [h]
  exact if_pos hr
theorem told_date {l : List UInt8} {y m d : Nat} (h : parse l = some (y, m, d)) (hr : rightB y m d = false) : told l = (0, 0, 0, 9) := by
  unfold told
  rw [h]
  exact if_neg (by rw [hr]; simp)
theorem told_shown {y m d : Int} (h : rightB y m d = true) : told (shown y m d) = (y, m, d, 0) := by
  obtain ⟨h1, h2, h3, h4, h5, h6⟩ := right_bd h
  have e1 : ((y.toNat % 10000 : Nat) : Int) = y := by omega
  have e2 : ((m.toNat % 100 : Nat) : Int) = m := by omega
  have e3 : ((d.toNat % 100 : Nat) : Int) = d := by omega
  have hp := parse_bare y.toNat m.toNat d.toNat
  rw [shown_right h]
  rw [told_some hp (by rw [e1, e2, e3]; exact h), e1, e2, e3]

/-! ### the texts' order -/
theorem less_cons (a b : UInt8) (x y : List UInt8) : Op.bytesLess (a :: x) (b :: y) = true ↔ a < b ∨ (a = b ∧ Op.bytesLess x y = true) := by
  simp [Op.bytesLess]
theorem less_same (a : UInt8) (x y : List UInt8) : Op.bytesLess (a :: x) (a :: y) = true ↔ Op.bytesLess x y = true := by
  simp [Op.bytesLess]
theorem less_nil (x : List UInt8) : Op.bytesLess x [] = false := by
  cases x <;> rfl
theorem split2 (u : Nat) (h : u ≤ 99) : ∃ c d, u = 10 * c + d ∧ c ≤ 9 ∧ d ≤ 9 := ⟨u / 10, u % 10, by omega, by omega, by omega⟩
theorem split4 (u : Nat) (h : u ≤ 9999) : ∃ a b c d, u = 1000 * a + 100 * b + 10 * c + d ∧ a ≤ 9 ∧ b ≤ 9 ∧ c ≤ 9 ∧ d ≤ 9 :=
  ⟨u / 1000, u / 100 % 10, u / 10 % 10, u % 10, by omega, by omega, by omega, by omega, by omega⟩
theorem less_two (u v : Nat) (hu : u ≤ 99) (hv : v ≤ 99) (x y : List UInt8) : Op.bytesLess (dig (u / 10) :: dig u :: x) (dig (v / 10) :: dig v :: y) = true ↔ u < v ∨ (u = v ∧ Op.bytesLess x y = true) := by
  rw [less_cons, less_cons, dig_lt, dig_lt, dig_eq, dig_eq]
  obtain ⟨a, b, rfl, ha, hb⟩ := split2 u hu
  obtain ⟨c, d, rfl, hc, hd⟩ := split2 v hv
  rw [show (10 * a + b) / 10 % 10 = a by omega, show (10 * a + b) % 10 = b by omega, show (10 * c + d) / 10 % 10 = c by omega, show (10 * c + d) % 10 = d by omega]
  by_cases h : Op.bytesLess x y = true
  · simp only [h, eq_self, and_true]
    omega
  · have h' : Op.bytesLess x y = false := by simpa using h
    simp only [h', Bool.false_eq_true, and_false, or_false]
    omega
theorem less_four (u v : Nat) (hu : u ≤ 9999) (hv : v ≤ 9999) (x y : List UInt8) : Op.bytesLess (dig (u / 1000) :: dig (u / 100) :: dig (u / 10) :: dig u :: x) (dig (v / 1000) :: dig (v / 100) :: dig (v / 10) :: dig v :: y) = true ↔ u < v ∨ (u = v ∧ Op.bytesLess x y = true) := by
  rw [less_cons, less_cons, less_cons, less_cons, dig_lt, dig_lt, dig_lt, dig_lt, dig_eq, dig_eq, dig_eq, dig_eq]
  obtain ⟨a, b, c, d, rfl, ha, hb, hc, hd⟩ := split4 u hu
  obtain ⟨e, f, g, i, rfl, he, hf, hg, hi⟩ := split4 v hv
  rw [show (1000 * a + 100 * b + 10 * c + d) / 1000 % 10 = a by omega, show (1000 * a + 100 * b + 10 * c + d) / 100 % 10 = b by omega, show (1000 * a + 100 * b + 10 * c + d) / 10 % 10 = c by omega, show (1000 * a + 100 * b + 10 * c + d) % 10 = d by omega]
  rw [show (1000 * e + 100 * f + 10 * g + i) / 1000 % 10 = e by omega, show (1000 * e + 100 * f + 10 * g + i) / 100 % 10 = f by omega, show (1000 * e + 100 * f + 10 * g + i) / 10 % 10 = g by omega, show (1000 * e + 100 * f + 10 * g + i) % 10 = i by omega]
  by_cases h : Op.bytesLess x y = true
  · simp only [h, eq_self, and_true]
    omega
  · have h' : Op.bytesLess x y = false := by simpa using h
    simp only [h', Bool.false_eq_true, and_false, or_false]
    omega
theorem less_bare (y m d z n e : Nat) (h1 : y ≤ 9999) (h2 : m ≤ 99) (h3 : d ≤ 99) (k1 : z ≤ 9999) (k2 : n ≤ 99) (k3 : e ≤ 99) :
    Op.bytesLess (bare y m d) (bare z n e) = true ↔ y < z ∨ (y = z ∧ (m < n ∨ (m = n ∧ d < e))) := by
  unfold bare
  rw [less_four y z h1 k1, less_same, less_two m n h2 k2, less_same, less_two d e h3 k3, less_nil]
  simp
theorem less_shown {y m d z n e : Int} (ha : rightB y m d = true) (hb : rightB z n e = true) : Op.bytesLess (shown y m d) (shown z n e) = decide (num y m d < num z n e) := by
  obtain ⟨a1, a2, a3, a4, a5, a6⟩ := right_bd ha
  obtain ⟨b1, b2, b3, b4, b5, b6⟩ := right_bd hb
  rw [Bool.eq_iff_iff, shown_right ha, shown_right hb, less_bare _ _ _ _ _ _ (by omega) (by omega) (by omega) (by omega) (by omega) (by omega), decide_eq_true_iff, lt_lex ha hb]
  unfold Lex
  omega
end Go.Proofs.Ythcaecinjmnlbab.Dt

/- TEXTS, as the contracts speak of them (no table of the library beside). -/
namespace Go.Proofs.Ythcaecinjmnlbab
open Go.RowKit

def txt (s : ByteArray) : List UInt8 := s.data.toList
theorem txt_len (s : ByteArray) : (txt s).length = s.size := Array.length_toList
theorem txt_ext {s t : ByteArray} (h : txt s = txt t) : s = t := by
  cases s; cases t
  simp only [txt] at h
  exact congrArg ByteArray.mk (Array.toList_inj.1 h)
theorem ret_str {a b : ByteArray} (h : a = b) : Ending.returned (.string a) = .returned (.string b) := by rw [h]
theorem tl (s : ByteArray) : s.toList = txt s := ByteArray.toList_eq s
theorem size_mk (l : List UInt8) : (ByteArray.mk l.toArray).size = l.length := rfl
theorem txt_mk (l : List UInt8) : txt (ByteArray.mk l.toArray) = l := rfl
theorem mk_txt (s : ByteArray) : s = ⟨(txt s).toArray⟩ := rfl
theorem fits {s : ByteArray} (h : s.data.toList.length ≤ reachBytes) : s.size ≤ 140737488355328 := by
  have h1 := txt_len s
  unfold txt at h1
  unfold reachBytes at h
  omega
theorem txt_app (a b : ByteArray) : txt (a ++ b) = txt a ++ txt b := by simp [txt, ByteArray.data_append]
theorem add_run (a b : ByteArray) (h : a.size + b.size ≤ 9223372036854775807) : ∃ t, a ++ b = t ∧ txt t = txt a ++ txt b ∧ t.size = a.size + b.size ∧ ∀ u, (Op.stringOp .add a b).run Try.prog u = .ok (.string t) u :=
  ⟨_, rfl, txt_app a b, by simp, fun u => run_string_add_sum u a b h⟩
theorem add_lists (a b : List UInt8) (h : a.length + b.length ≤ 100) : ∀ u, (Op.stringOp .add ⟨a.toArray⟩ ⟨b.toArray⟩).run Try.prog u = .ok (.string ⟨(a ++ b).toArray⟩) u := by
  intro u
  rw [run_string_add_sum u _ _ (by rw [size_mk, size_mk]; omega), ByteArray.mk_append_mk]
end Go.Proofs.Ythcaecinjmnlbab

/- PLAIN LEAN: a text by its runes, as the model's own decoder tells them; names, folding, cutting, reading; no Go here. -/
namespace Go.Proofs.Ythcaecinjmnlbab.Rn
open Go.Lib

/-! ### the decoder -/
theorem dw (l : List UInt8) : 1 ≤ (decodeL l).2 := decodeL_width l
theorem dle (l : List UInt8) (h : l ≠ []) : (decodeL l).2 ≤ l.length := decodeL_le l h
set_option maxHeartbeats 2000000 in
theorem decodeN_cut (n n' b0 b1 b2 b3 c1 c2 c3 : Nat) (hn : n' ≤ n) (hw : (decodeN n b0 b1 b2 b3).2 ≤ n') (h1 : 1 < n' → c1 = b1) (h2 : 2 < n' → c2 = b2) (h3 : 3 < n' → c3 = b3) :
    decodeN n' b0 c1 c2 c3 = decodeN n b0 b1 b2 b3 := by
  rcases decodeN_shape n b0 b1 b2 b3 with ⟨c, e⟩ | ⟨d1, d2, d3, dv, e⟩ | ⟨d1, d2, d3, d4, dv, ds, e⟩ | ⟨d1, d2, d3, d4, d5, dv, dx, e⟩ | e
  · rw [e]; simp [decodeN, c]
  · rw [e] at hw ⊢
    dsimp only at hw
    rw [h1 (by omega)]
    unfold decodeN
    rw [if_neg (by omega), if_pos ⟨d1, by omega, d3⟩, if_pos (by omega)]
  · rw [e] at hw ⊢
    dsimp only at hw
    rw [h1 (by omega), h2 (by omega)]
    unfold decodeN
    rw [if_neg (by omega), if_neg (by omega), if_pos ⟨d1, ⟨by omega, d3⟩, by omega, d4⟩, if_pos ⟨by omega, by omega⟩]
  · rw [e] at hw ⊢
    dsimp only at hw
    rw [h1 (by omega), h2 (by omega), h3 (by omega)]
    unfold decodeN
    rw [if_neg (by omega), if_neg (by omega), if_neg (by omega), if_pos ⟨d1, ⟨by omega, d3⟩, ⟨by omega, d4⟩, by omega, d5⟩, if_pos ⟨by omega, by omega⟩]
  · rw [e] at hw ⊢
    unfold decodeN at e ⊢
    repeat' split
    all_goals first
      | rfl
      | (exfalso
         have E1 := h1 (by omega)
         subst E1
         first
           | (have E2 := h2 (by omega)
              subst E2
              first
                | (have E3 := h3 (by omega)
                   subst E3
                   simp_all
                   done)
                | (simp_all; done)
                | skip)
           | (simp_all; done)
           | skip
         repeat' split at e
         all_goals first
           | omega
           | (simp only [Prod.mk.injEq] at e; omega))
      | (exfalso
         repeat' split at e
         all_goals first
           | omega
           | (simp only [Prod.mk.injEq] at e; omega))

theorem decodeL_take (l : List UInt8) (k : Nat) (hk : (decodeL l).2 ≤ k) (hl : k ≤ l.length) : decodeL (l.take k) = decodeL l := by
  have h0 := dw l
  rw [decodeL_N, decodeL_N, List.length_take, Nat.min_eq_left hl, getD_takeU l k 0 (by omega)]
  rw [decodeL_N] at hk
  exact decodeN_cut _ _ _ _ _ _ _ _ _ hl hk (fun h => by rw [getD_takeU l k 1 h]) (fun h => by rw [getD_takeU l k 2 h]) (fun h => by rw [getD_takeU l k 3 h])
theorem decodeN_grow (n n' b0 b1 b2 b3 c1 c2 c3 : Nat) (hn : n ≤ n') (hv : (decodeN n b0 b1 b2 b3).1 ≠ 65533) (h1 : 1 < n → c1 = b1) (h2 : 2 < n → c2 = b2) (h3 : 3 < n → c3 = b3) :
    decodeN n' b0 c1 c2 c3 = decodeN n b0 b1 b2 b3 := by
  rcases decodeN_shape n b0 b1 b2 b3 with ⟨c, e⟩ | ⟨d1, d2, d3, dv, e⟩ | ⟨d1, d2, d3, d4, dv, ds, e⟩ | ⟨d1, d2, d3, d4, d5, dv, dx, e⟩ | e
  · rw [e]; simp [decodeN, c]
  · rw [e, h1 (by omega)]
    unfold decodeN
    rw [if_neg (by omega), if_pos ⟨d1, by omega, d3⟩, if_pos (by omega)]
  · rw [e, h1 (by omega), h2 (by omega)]
    unfold decodeN
    rw [if_neg (by omega), if_neg (by omega), if_pos ⟨d1, ⟨by omega, d3⟩, by omega, d4⟩, if_pos ⟨by omega, by omega⟩]
  · rw [e, h1 (by omega), h2 (by omega), h3 (by omega)]
    unfold decodeN
    rw [if_neg (by omega), if_neg (by omega), if_neg (by omega), if_pos ⟨d1, ⟨by omega, d3⟩, ⟨by omega, d4⟩, by omega, d5⟩, if_pos ⟨by omega, by omega⟩]
  · rw [e] at hv
    exact absurd rfl hv
theorem getD_app (a b : List UInt8) (k : Nat) (h : k < a.length) : (a ++ b).getD k 0 = a.getD k 0 := by
  simp [List.getD, List.getElem?_append_left h]
theorem decodeL_app (a b : List UInt8) (h : a ≠ []) (hv : (decodeL a).1 ≠ 65533) : decodeL (a ++ b) = decodeL a := by
  have hl : 0 < a.length := List.length_pos_iff.2 h
  rw [decodeL_N, decodeL_N, getD_app a b 0 hl]
  rw [decodeL_N] at hv
  exact decodeN_grow _ _ _ _ _ _ _ _ _ (by simp) hv (fun h => by rw [getD_app a b 1 h]) (fun h => by rw [getD_app a b 2 h]) (fun h => by rw [getD_app a b 3 h])
theorem valid_of (l : List UInt8) : validRune ((decodeL l).1 : Int) = true := by
  have k0 := (l.getD 0 0).toNat_lt
  rw [decodeL_N]
  simp only [validRune, decide_eq_true_eq]
  rcases decodeN_shape l.length (l.getD 0 0).toNat (l.getD 1 0).toNat (l.getD 2 0).toNat (l.getD 3 0).toNat with ⟨c, e⟩ | ⟨c1, c2, c3, cv, e⟩ | ⟨c1, c2, c3, c4, cv, cs, e⟩ | ⟨c1, c2, c3, c4, c5, cv, cw, e⟩ | e
  all_goals (rw [e]; dsimp only; omega)
theorem low_one (l : List UInt8) (h : (decodeL l).1 < 128) : (decodeL l) = ((l.getD 0 0).toNat, 1) := by
  rw [decodeL_N] at h ⊢
  rcases decodeN_shape l.length (l.getD 0 0).toNat (l.getD 1 0).toNat (l.getD 2 0).toNat (l.getD 3 0).toNat with ⟨c, e⟩ | ⟨c1, c2, c3, cv, e⟩ | ⟨c1, c2, c3, c4, cv, cs, e⟩ | ⟨c1, c2, c3, c4, c5, cv, cw, e⟩ | e
  all_goals (rw [e] at h ⊢; try (dsimp only at h; omega))
theorem low_head (b : UInt8) (l : List UInt8) (h : b.toNat < 128) : decodeL (b :: l) = (b.toNat, 1) := by
  rw [decodeL_N]
  exact decodeN_ascii _ _ _ _ _ (by simpa using h)
/-- What takes more than one byte has no byte below 128. -/
theorem high_all (l : List UInt8) (h : 1 < (decodeL l).2) : ∀ b ∈ l.take (decodeL l).2, 128 ≤ b.toNat := by
  rw [decodeL_N] at h ⊢
  rcases decodeN_shape l.length (l.getD 0 0).toNat (l.getD 1 0).toNat (l.getD 2 0).toNat (l.getD 3 0).toNat with ⟨c, e⟩ | ⟨c1, c2, c3, cv, e⟩ | ⟨c1, c2, c3, c4, cv, cs, e⟩ | ⟨c1, c2, c3, c4, c5, cv, cw, e⟩ | e
  · rw [e] at h; simp at h
  · rw [e]; dsimp only; rw [takeB l c2]; intro b hb; simp only [List.mem_cons, List.not_mem_nil, or_false] at hb; rcases hb with rfl | rfl <;> omega
  · rw [e]; dsimp only; rw [takeC l c2]; intro b hb; simp only [List.mem_cons, List.not_mem_nil, or_false] at hb; rcases hb with rfl | rfl | rfl <;> omega
  · rw [e]; dsimp only; rw [takeD l c2]; intro b hb; simp only [List.mem_cons, List.not_mem_nil, or_false] at hb; rcases hb with rfl | rfl | rfl | rfl <;> omega
  · rw [e] at h; simp at h

/-! ### the encoder -/
theorem u8z (z : Int) (_ : 0 ≤ z) (h1 : z < 256) : (z.toNat.toUInt8).toNat = z.toNat := by
  simp; omega
theorem encode_eq (r : Int) : Utf8.encode r = ⟨(encodeRune r).toArray⟩ := by
  unfold Utf8.encode encodeRune
  have hv : Utf8.valid r = validRune r := validRune_eq r
  by_cases hb : r < 0 ∨ (55296 ≤ r ∧ r ≤ 57343) ∨ 1114111 < r
  · have : Utf8.valid r = false := by rw [hv]; simp only [validRune, decide_eq_false_iff_not]; omega
    rw [encodeRuneZ_bad hb]
    simp [this, Utf8.runeError]
  · have : Utf8.valid r = true := by rw [hv]; simp only [validRune, decide_eq_true_eq]; omega
    simp only [this, if_true]
    by_cases h1 : r ≤ 127
    · rw [encodeRuneZ_one (by omega) h1, if_pos (by omega)]
      rfl
    · rw [if_neg (by omega)]
      by_cases h2 : r ≤ 2047
      · rw [encodeRuneZ_two (by omega) h2, if_pos (by omega)]
        simp only [List.map_cons, List.map_nil]
        rw [show (192 + r / 64).toNat = 192 + r.toNat / 64 from by omega, show (128 + r % 64).toNat = 128 + r.toNat % 64 from by omega]
      · rw [if_neg (by omega)]
        by_cases h3 : r ≤ 65535
        · rw [encodeRuneZ_three (by omega), if_pos (by omega)]
          simp only [List.map_cons, List.map_nil]
          rw [show (224 + r / 4096).toNat = 224 + r.toNat / 4096 from by omega, show (128 + r / 64 % 64).toNat = 128 + r.toNat / 64 % 64 from by omega, show (128 + r % 64).toNat = 128 + r.toNat % 64 from by omega]
        · rw [encodeRuneZ_four (by omega) (by omega), if_neg (by omega)]
          simp only [List.map_cons, List.map_nil]
          rw [show (240 + r / 262144).toNat = 240 + r.toNat / 262144 from by omega, show (128 + r / 4096 % 64).toNat = 128 + r.toNat / 4096 % 64 from by omega, show (128 + r / 64 % 64).toNat = 128 + r.toNat / 64 % 64 from by omega, show (128 + r % 64).toNat = 128 + r.toNat % 64 from by omega]
theorem enc_len (r : Int) : 1 ≤ (encodeRune r).length ∧ (encodeRune r).length ≤ 4 := by
  have := encodeRuneZ_length r
  simpa [encodeRune] using this
theorem enc_size (r : Int) : (Utf8.encode r).size = (encodeRune r).length := by rw [encode_eq]; rfl
theorem enc_list (r : Int) : (Utf8.encode r).data.toList = encodeRune r := by rw [encode_eq]
theorem enc_ne (r : Int) : encodeRune r ≠ [] := fun h => by have := enc_len r; rw [h] at this; simp at this
/-- A rune that can be written is read again as it was, whatever follows. -/
theorem decode_enc (r : Nat) (hv : validRune (r : Int) = true) (l : List UInt8) : decodeL (encodeRune (r : Int) ++ l) = (r, (encodeRune (r : Int)).length) := by
  simp only [validRune, decide_eq_true_eq] at hv
  unfold encodeRune
  by_cases h1 : r ≤ 127
  · rw [encodeRuneZ_one (by omega) (by omega), decodeL_N]
    simp only [List.map_cons, List.map_nil, List.cons_append, List.nil_append, List.getD_cons_zero, List.length_cons, List.length_nil]
    rw [u8z _ (by omega) (by omega), decodeN_ascii _ _ _ _ _ (by omega)]
    simp
  · by_cases h2 : r ≤ 2047
    · rw [encodeRuneZ_two (by omega) (by omega), decodeL_N]
      simp only [List.map_cons, List.map_nil, List.cons_append, List.nil_append, List.getD_cons_zero, List.getD_cons_succ, List.length_cons, List.length_nil]
      rw [u8z _ (by omega) (by omega), u8z _ (by omega) (by omega)]
      unfold decodeN
      rw [if_neg (by omega), if_pos ⟨by omega, by omega, by omega⟩, if_pos (by omega)]
      exact Prod.ext (by dsimp only; omega) rfl
    · by_cases h3 : r ≤ 65535
      · rw [encodeRuneZ_three (by omega), decodeL_N]
        simp only [List.map_cons, List.map_nil, List.cons_append, List.nil_append, List.getD_cons_zero, List.getD_cons_succ, List.length_cons, List.length_nil]
        rw [u8z _ (by omega) (by omega), u8z _ (by omega) (by omega), u8z _ (by omega) (by omega)]
        unfold decodeN
        rw [if_neg (by omega), if_neg (by omega), if_pos ⟨by omega, ⟨by omega, by omega⟩, by omega, by omega⟩, if_pos ⟨by omega, by omega⟩]
        exact Prod.ext (by dsimp only; omega) rfl
      · rw [encodeRuneZ_four (by omega) (by omega), decodeL_N]
        simp only [List.map_cons, List.map_nil, List.cons_append, List.nil_append, List.getD_cons_zero, List.getD_cons_succ, List.length_cons, List.length_nil]
        rw [u8z _ (by omega) (by omega), u8z _ (by omega) (by omega), u8z _ (by omega) (by omega), u8z _ (by omega) (by omega)]
        unfold decodeN
        rw [if_neg (by omega), if_neg (by omega), if_neg (by omega), if_pos ⟨by omega, ⟨by omega, by omega⟩, ⟨by omega, by omega⟩, by omega, by omega⟩, if_pos ⟨by omega, by omega⟩]
        exact Prod.ext (by dsimp only; omega) rfl
/-- A rune that was told by bytes that are UTF-8 is as wide as it is written. -/
theorem width_enc (l : List UInt8) (hne : l ≠ []) (hv : (decodeL l).1 ≠ 65533) : (encodeRune ((decodeL l).1 : Int)).length = (decodeL l).2 := by
  rw [encode_decode l hne (fun h => hv h.1), List.length_take, Nat.min_eq_left (dle l hne)]

/-! ### a text's runes -/
def runesF : Nat → List UInt8 → List Nat
  | 0, _ => []
  | f + 1, l => if l = [] then [] else (decodeL l).1 :: runesF f (l.drop (decodeL l).2)
def runes (l : List UInt8) : List Nat := runesF l.length l
theorem runesF_fuel : ∀ (n m : Nat) (l : List UInt8), l.length ≤ n → l.length ≤ m → runesF n l = runesF m l
  | 0, 0, _, _, _ => rfl
  | 0, m + 1, l, hn, _ => by
    have : l = [] := List.eq_nil_of_length_eq_zero (by omega)
    simp [runesF, this]
  | n + 1, 0, l, _, hm => by
    have : l = [] := List.eq_nil_of_length_eq_zero (by omega)
    simp [runesF, this]
  | n + 1, m + 1, l, hn, hm => by
    by_cases hne : l = []
    · simp [runesF, hne]
    · have hw := dw l
      have hl : 0 < l.length := List.length_pos_iff.2 hne
      simp only [runesF, if_neg hne]
      rw [runesF_fuel n m _ (by rw [List.length_drop]; omega) (by rw [List.length_drop]; omega)]
theorem runes_nil : runes [] = [] := rfl
theorem runes_step (l : List UInt8) (hne : l ≠ []) : runes l = (decodeL l).1 :: runes (l.drop (decodeL l).2) := by
  have hw := dw l
  have hl : 0 < l.length := List.length_pos_iff.2 hne
  unfold runes
  obtain ⟨n, hn⟩ : ∃ n, l.length = n + 1 := ⟨l.length - 1, by omega⟩
  rw [hn]
  simp only [runesF, if_neg hne]
  rw [runesF_fuel n _ _ (by rw [List.length_drop]; omega) (Nat.le_refl _)]
/-- Induction over a text, rune by rune. -/
theorem byRunes {motive : List UInt8 → Prop} (hnil : motive []) (hstep : ∀ l, l ≠ [] → motive (l.drop (decodeL l).2) → motive l) (l : List UInt8) : motive l := by
  have H : ∀ (n : Nat) (l : List UInt8), l.length ≤ n → motive l := by
    intro n
    induction n with
    | zero => intro l h; rw [List.eq_nil_of_length_eq_zero (Nat.le_zero.1 h)]; exact hnil
    | succ n ih =>
      intro l h
      by_cases hne : l = []
      · rw [hne]; exact hnil
      · have hw := dw l
        have hl : 0 < l.length := List.length_pos_iff.2 hne
        exact hstep l hne (ih _ (by rw [List.length_drop]; omega))
  exact H _ l (Nat.le_refl _)
theorem runes_len (l : List UInt8) : (runes l).length ≤ l.length := by
  induction l using byRunes with
  | hnil => simp [runes_nil]
  | hstep l hne ih =>
    have hw := dw l
    have hl : 0 < l.length := List.length_pos_iff.2 hne
    rw [runes_step l hne, List.length_cons]
    rw [List.length_drop] at ih
    omega
theorem runes_valid (l : List UInt8) : ∀ r ∈ runes l, validRune (r : Int) = true := by
  induction l using byRunes with
  | hnil => simp [runes_nil]
  | hstep l hne ih =>
    rw [runes_step l hne]
    intro r hr
    rcases List.mem_cons.1 hr with rfl | hr
    · exact valid_of l
    · exact ih r hr
theorem runes_enc (r : Nat) (hv : validRune (r : Int) = true) (l : List UInt8) : runes (encodeRune (r : Int) ++ l) = r :: runes l := by
  rw [runes_step _ (by simp [enc_ne]), decode_enc r hv l]
  simp
theorem runes_flat : ∀ (rs : List Nat), (∀ r ∈ rs, validRune (r : Int) = true) → runes (rs.flatMap fun (r : Nat) => encodeRune (r : Int)) = rs
  | [], _ => rfl
  | r :: rs, h => by
    rw [List.flatMap_cons, runes_enc r (h r (by simp)), runes_flat rs (fun x hx => h x (by simp [hx]))]
theorem runes_app (a b : List UInt8) (h : ∀ r ∈ runes a, r ≠ 65533) : runes (a ++ b) = runes a ++ runes b := by
  induction a using byRunes with
  | hnil => simp [runes_nil]
  | hstep a hne ih =>
    rw [runes_step a hne] at h ⊢
    have h1 := decodeL_app a b hne (h _ (by simp))
    rw [runes_step (a ++ b) (by simp [hne]), h1, List.drop_append_of_le_length (dle a hne), ih (fun r hr => h r (by simp [hr]))]
    rfl
/-- A byte below 128 is a rune by itself, wherever it stands. -/
theorem mem_runes (l : List UInt8) (b : UInt8) (hb : b.toNat < 128) (hm : b ∈ l) : b.toNat ∈ runes l := by
  induction l using byRunes with
  | hnil => simp at hm
  | hstep l hne ih =>
    rw [runes_step l hne]
    rw [← List.take_append_drop (decodeL l).2 l, List.mem_append] at hm
    rcases hm with hm | hm
    · by_cases h1 : 1 < (decodeL l).2
      · have := high_all l h1 b hm
        omega
      · have hw := dw l
        have e1 : (decodeL l).2 = 1 := by omega
        cases l with
        | nil => exact absurd rfl hne
        | cons c l =>
          rw [e1] at hm
          simp only [List.take_succ_cons, List.take_zero, List.mem_singleton] at hm
          subst hm
          rw [low_head b l hb]
          simp
    · exact List.mem_cons_of_mem _ (ih hm)
/-- Bytes below 128 are their own runes. -/
theorem runes_low : ∀ (l : List UInt8), (∀ b ∈ l, b.toNat < 128) → runes l = l.map (·.toNat)
  | [], _ => rfl
  | b :: l, h => by
    rw [runes_step _ (by simp), low_head b l (h b (by simp))]
    simp only [List.drop_succ_cons, List.drop_zero, List.map_cons]
    rw [runes_low l (fun c hc => h c (by simp [hc]))]
theorem runes_ne (l : List UInt8) (h : l ≠ []) : runes l ≠ [] := by rw [runes_step l h]; simp

/-! ### letters, names, folding -/
def letter (r : Int) : Bool := (decide (97 ≤ r ∧ r ≤ 122) || decide (65 ≤ r ∧ r ≤ 90)) || decide (192 ≤ r ∧ r ≤ 591 ∧ r ≠ 215 ∧ r ≠ 247)
def digit (r : Int) : Bool := decide (48 ≤ r ∧ r ≤ 57)
def inner (r : Int) : Bool := digit r || decide (r = 45 ∨ r = 95 ∨ r = 46)
def small (r : Int) : Int := if (65 ≤ r ∧ r ≤ 90) ∨ (192 ≤ r ∧ r ≤ 222 ∧ r ≠ 215) then r + 32 else r
def smallN (r : Nat) : Nat := (small r).toNat
theorem small_nat (r : Nat) : small (r : Int) = (smallN r : Int) := by
  unfold smallN small
  split <;> omega
def nameOk : Bool → List Nat → Bool
  | _, [] => true
  | first, r :: rs => (letter r || (!first && inner r)) && nameOk false rs
def name (l : List UInt8) : Bool := (!l.isEmpty && decide (l.length ≤ 24)) && nameOk true (runes l)
def fold (l : List UInt8) : List UInt8 := (runes l).flatMap fun (r : Nat) => encodeRune (small (r : Int))
theorem fold_nil : fold [] = [] := rfl
theorem fold_step (l : List UInt8) (h : l ≠ []) : fold l = encodeRune (small ((decodeL l).1 : Int)) ++ fold (l.drop (decodeL l).2) := by
  unfold fold
  rw [runes_step l h, List.flatMap_cons]
theorem small_valid (r : Nat) (h : validRune (r : Int) = true) : validRune (smallN r : Int) = true := by
  rw [← small_nat]
  simp only [validRune, decide_eq_true_eq] at h ⊢
  unfold small
  split <;> omega
theorem fold_eq (l : List UInt8) : fold l = ((runes l).map smallN).flatMap fun (r : Nat) => encodeRune (r : Int) := by
  unfold fold
  rw [List.flatMap_map]
  simp only [small_nat]
theorem runes_fold (l : List UInt8) : runes (fold l) = (runes l).map smallN := by
  rw [fold_eq]
  apply runes_flat
  intro r hr
  obtain ⟨x, hx, rfl⟩ := List.mem_map.1 hr
  exact small_valid x (runes_valid l x hx)
theorem smallN_smallN (r : Nat) : smallN (smallN r) = smallN r := by
  unfold smallN small
  split <;> split <;> omega
theorem fold_fold (l : List UInt8) : fold (fold l) = fold l := by
  rw [fold_eq (fold l), runes_fold, List.map_map, fold_eq l]
  congr 1
  apply List.map_congr_left
  intro r _
  exact smallN_smallN r
theorem width_fold (l : List UInt8) : (runes (fold l)).length = (runes l).length := by rw [runes_fold, List.length_map]
theorem fold_small (l : List UInt8) : ∀ r ∈ runes (fold l), ¬ (65 ≤ r ∧ r ≤ 90) := by
  rw [runes_fold]
  intro r hr
  obtain ⟨x, _, rfl⟩ := List.mem_map.1 hr
  unfold smallN small
  split <;> omega
theorem letter_small (r : Nat) (h : letter (r : Int) = true) : letter (smallN r : Int) = true := by
  rw [← small_nat]
  simp only [letter, Bool.or_eq_true, decide_eq_true_eq] at h ⊢
  unfold small
  split <;> omega
theorem inner_small (r : Nat) (h : inner (r : Int) = true) : inner (smallN r : Int) = true := by
  rw [← small_nat]
  simp only [inner, digit, Bool.or_eq_true, decide_eq_true_eq] at h ⊢
  unfold small
  split <;> omega
theorem nameOk_small : ∀ (rs : List Nat) (f : Bool), nameOk f rs = true → nameOk f (rs.map smallN) = true
  | [], _, _ => rfl
  | r :: rs, f, h => by
    simp only [nameOk, List.map_cons, Bool.and_eq_true, Bool.or_eq_true] at h ⊢
    refine ⟨?_, nameOk_small rs false h.2⟩
    rcases h.1 with h1 | h1
    · exact .inl (letter_small r h1)
    · exact .inr ⟨h1.1, inner_small r h1.2⟩
theorem nameOk_any : ∀ (rs : List Nat) (f : Bool), nameOk f rs = true → ∀ r ∈ rs, letter (r : Int) = true ∨ inner (r : Int) = true
  | [], _, _ => by simp
  | r :: rs, f, h => by
    simp only [nameOk, Bool.and_eq_true, Bool.or_eq_true] at h
    intro x hx
    rcases List.mem_cons.1 hx with rfl | hx
    · exact h.1.imp id (·.2)
    · exact nameOk_any rs false h.2 x hx
theorem nameOk_weak : ∀ (rs : List Nat), nameOk true rs = true → nameOk false rs = true
  | [], _ => rfl
  | r :: rs, h => by
    simp only [nameOk, Bool.and_eq_true, Bool.or_eq_true] at h ⊢
    refine ⟨?_, h.2⟩
    rcases h.1 with h1 | h1
    · exact .inl h1
    · simp at h1
theorem nameOk_app : ∀ (a b : List Nat) (f : Bool), a ≠ [] → nameOk f a = true → nameOk false b = true → nameOk f (a ++ b) = true
  | [], _, _, h, _, _ => absurd rfl h
  | [r], b, f, _, h, hb => by
    simp only [nameOk, Bool.and_eq_true, List.cons_append, List.nil_append] at h ⊢
    exact ⟨h.1, hb⟩
  | r :: x :: a, b, f, _, h, hb => by
    simp only [List.cons_append]
    rw [nameOk, Bool.and_eq_true] at h ⊢
    exact ⟨h.1, nameOk_app (x :: a) b false (by simp) h.2 hb⟩
theorem not_err (r : Nat) (h : letter (r : Int) = true ∨ inner (r : Int) = true) : r ≠ 65533 := by
  simp only [letter, inner, digit, Bool.or_eq_true, decide_eq_true_eq] at h
  omega
theorem small_len (r : Nat) : (encodeRune (small (r : Int))).length = (encodeRune (r : Int)).length := by
  unfold small
  split
  · rename_i h
    rcases h with h | h
    · simp only [encodeRune, List.length_map]
      rw [encodeRuneZ_one (by omega) (by omega), encodeRuneZ_one (by omega) (by omega)]
      rfl
    · simp only [encodeRune, List.length_map]
      rw [encodeRuneZ_two (by omega) (by omega), encodeRuneZ_two (by omega) (by omega)]
      rfl
  · rfl
theorem fold_len (l : List UInt8) (h : ∀ r ∈ runes l, r ≠ 65533) : (fold l).length = l.length := by
  induction l using byRunes with
  | hnil => rfl
  | hstep l hne ih =>
    rw [runes_step l hne] at h
    have hd := dle l hne
    rw [fold_step l hne, List.length_append, ih (fun r hr => h r (by simp [hr])), small_len, width_enc l hne (h _ (by simp)), List.length_drop]
    omega
theorem fold_len3 (l : List UInt8) : (fold l).length ≤ 3 * l.length := by
  induction l using byRunes with
  | hnil => simp [fold_nil]
  | hstep l hne ih =>
    have hd := dle l hne
    have hw := dw l
    rw [fold_step l hne, List.length_append, small_len]
    rw [List.length_drop] at ih
    by_cases hv : (decodeL l).1 = 65533
    · have : (encodeRune (((decodeL l).1 : Nat) : Int)).length = 3 := by rw [hv]; decide
      omega
    · rw [width_enc l hne hv]
      omega
theorem name_fold (l : List UInt8) (h : name l = true) : name (fold l) = true := by
  unfold name at h ⊢
  rw [Bool.and_eq_true, Bool.and_eq_true] at h ⊢
  obtain ⟨⟨h1, h2⟩, h3⟩ := h
  have hl := fold_len l (fun r hr => not_err r (nameOk_any _ _ h3 r hr))
  refine ⟨⟨?_, by rw [hl]; exact h2⟩, by rw [runes_fold]; exact nameOk_small _ _ h3⟩
  have : l ≠ [] := by intro e; rw [e] at h1; simp at h1
  have h0 : 0 < l.length := List.length_pos_iff.2 this
  cases hf : fold l with
  | nil => rw [hf] at hl; simp at hl; omega
  | cons _ _ => rfl
theorem name_not (l : List UInt8) (b : UInt8) (hb : b.toNat < 128) (hm : b ∈ l) (h1 : letter (b.toNat : Int) = false) (h2 : inner (b.toNat : Int) = false) : name l = false := by
  cases h : name l with
  | false => rfl
  | true =>
    unfold name at h
    rw [Bool.and_eq_true] at h
    rcases nameOk_any _ _ h.2 _ (mem_runes l b hb hm) with e | e
    · rw [e] at h1; cases h1
    · rw [e] at h2; cases h2
theorem name_app (a b : List UInt8) (ha : name a = true) (hb : nameOk false (runes b) = true) (hl : a.length + b.length ≤ 24) : name (a ++ b) = true := by
  unfold name at ha ⊢
  rw [Bool.and_eq_true, Bool.and_eq_true] at ha ⊢
  obtain ⟨⟨h1, h2⟩, h3⟩ := ha
  have hne : a ≠ [] := by intro e; rw [e] at h1; simp at h1
  refine ⟨⟨by cases a with | nil => exact absurd rfl hne | cons _ _ => rfl, by rw [decide_eq_true_eq, List.length_append]; exact hl⟩, ?_⟩
  rw [runes_app a b (fun r hr => not_err r (nameOk_any _ _ h3 r hr))]
  exact nameOk_app _ _ _ (runes_ne a hne) h3 hb
theorem name_ok (a : List UInt8) (h : name a = true) : nameOk true (runes a) = true := by
  unfold name at h
  rw [Bool.and_eq_true] at h
  exact h.2
theorem nameOk_cons_low (c : UInt8) (b : List UInt8) (hc : c.toNat < 128) (hi : inner (c.toNat : Int) = true) (hb : nameOk false (runes b) = true) : nameOk false (runes (c :: b)) = true := by
  rw [runes_step _ (by simp), low_head c b hc]
  simp only [List.drop_succ_cons, List.drop_zero, nameOk, hi, hb, Bool.not_false, Bool.and_true, Bool.or_true]

/-! ### cutting -/
def cutF : Nat → List UInt8 → Int → Nat
  | 0, _, _ => 0
  | f + 1, l, n => if l = [] then 0 else if n < 1 then 0 else (decodeL l).2 + cutF f (l.drop (decodeL l).2) (n - 1)
def cut (l : List UInt8) (n : Int) : Nat := cutF l.length l n
theorem cutF_fuel : ∀ (n m : Nat) (l : List UInt8) (k : Int), l.length ≤ n → l.length ≤ m → cutF n l k = cutF m l k
  | 0, 0, _, _, _, _ => rfl
  | 0, m + 1, l, k, hn, _ => by
    have : l = [] := List.eq_nil_of_length_eq_zero (by omega)
    simp [cutF, this]
  | n + 1, 0, l, k, _, hm => by
    have : l = [] := List.eq_nil_of_length_eq_zero (by omega)
    simp [cutF, this]
  | n + 1, m + 1, l, k, hn, hm => by
    by_cases hne : l = []
    · simp [cutF, hne]
    · have hw := dw l
      have hl : 0 < l.length := List.length_pos_iff.2 hne
      simp only [cutF, if_neg hne]
      rw [cutF_fuel n m _ _ (by rw [List.length_drop]; omega) (by rw [List.length_drop]; omega)]
theorem cut_nil (n : Int) : cut [] n = 0 := rfl
theorem cut_low (l : List UInt8) (n : Int) (h : n < 1) : cut l n = 0 := by
  unfold cut
  cases l.length with
  | zero => rfl
  | succ f => simp [cutF, h]
theorem cut_step (l : List UInt8) (n : Int) (hne : l ≠ []) (h : 1 ≤ n) : cut l n = (decodeL l).2 + cut (l.drop (decodeL l).2) (n - 1) := by
  have hw := dw l
  have hl : 0 < l.length := List.length_pos_iff.2 hne
  unfold cut
  obtain ⟨m, hm⟩ : ∃ m, l.length = m + 1 := ⟨l.length - 1, by omega⟩
  rw [hm]
  simp only [cutF, if_neg hne]
  rw [if_neg (by omega), cutF_fuel m _ _ _ (by rw [List.length_drop]; omega) (Nat.le_refl _)]
theorem cut_le (l : List UInt8) : ∀ n, cut l n ≤ l.length := by
  induction l using byRunes with
  | hnil => intro n; simp [cut_nil]
  | hstep l hne ih =>
    intro n
    by_cases h : n < 1
    · rw [cut_low l n h]; omega
    · rw [cut_step l n hne (by omega)]
      have := ih (n - 1)
      have hd := dle l hne
      rw [List.length_drop] at this
      omega
theorem cut_runes (l : List UInt8) : ∀ n, runes l = runes (l.take (cut l n)) ++ runes (l.drop (cut l n)) := by
  induction l using byRunes with
  | hnil => intro n; simp [cut_nil, runes_nil]
  | hstep l hne ih =>
    intro n
    by_cases h : n < 1
    · rw [cut_low l n h]; simp [runes_nil]
    · have hk := cut_le l n
      have hs := cut_step l n hne (by omega)
      have hd := dle l hne
      have hw := dw l
      have hl : 0 < l.length := List.length_pos_iff.2 hne
      have e := decodeL_take l (cut l n) (by omega) hk
      have hne2 : l.take (cut l n) ≠ [] := by
        intro e2
        have := congrArg List.length e2
        rw [List.length_take, List.length_nil, Nat.min_eq_left hk] at this
        omega
      rw [runes_step l hne, runes_step _ hne2, e, ih (n - 1), hs, List.drop_take, List.drop_drop, Nat.add_sub_cancel_left]
      rfl
theorem cut_width (l : List UInt8) : ∀ n : Int, ((runes (l.take (cut l n))).length : Int) = min (max n 0) ((runes l).length : Int) := by
  induction l using byRunes with
  | hnil => intro n; simp only [cut_nil, List.take_zero, runes_nil, List.length_nil]; omega
  | hstep l hne ih =>
    intro n
    by_cases h : n < 1
    · rw [cut_low l n h]; simp only [List.take_zero, runes_nil, List.length_nil]; omega
    · have hk := cut_le l n
      have hs := cut_step l n hne (by omega)
      have hd := dle l hne
      have hw := dw l
      have hl : 0 < l.length := List.length_pos_iff.2 hne
      have e := decodeL_take l (cut l n) (by omega) hk
      have hne2 : l.take (cut l n) ≠ [] := by
        intro e2
        have := congrArg List.length e2
        rw [List.length_take, List.length_nil, Nat.min_eq_left hk] at this
        omega
      have i := ih (n - 1)
      rw [runes_step l hne, runes_step _ hne2, e, hs, List.drop_take, Nat.add_sub_cancel_left, List.length_cons, List.length_cons]
      omega
theorem cut_all (l : List UInt8) : ∀ n : Int, ((runes l).length : Int) ≤ n → cut l n = l.length := by
  induction l using byRunes with
  | hnil => intro n _; rfl
  | hstep l hne ih =>
    intro n h
    rw [runes_step l hne, List.length_cons] at h
    have hd := dle l hne
    rw [cut_step l n hne (by omega), ih (n - 1) (by omega), List.length_drop]
    omega

/-! ### digits -/
def digGo : Nat → List Nat → Option Nat
  | a, [] => some a
  | a, r :: rs => if 48 ≤ r ∧ r ≤ 57 then digGo (10 * a + (r - 48)) rs else none
def digits (l : List UInt8) : Option Nat := if l = [] ∨ 18 < l.length ∨ (l.head? = some 48 ∧ l ≠ [48]) then none else digGo 0 (runes l)
theorem digGo_bad : ∀ (rs : List Nat) (a : Nat) (r : Nat), r ∈ rs → ¬ (48 ≤ r ∧ r ≤ 57) → digGo a rs = none
  | [], _, _, h, _ => by simp at h
  | x :: rs, a, r, h, hr => by
    unfold digGo
    split
    · rename_i hx
      rcases List.mem_cons.1 h with rfl | h
      · exact absurd hx hr
      · exact digGo_bad rs _ r h hr
    · rfl
theorem digGo_high (l : List UInt8) (b : UInt8) (hm : b ∈ l) (hb : ¬ (48 ≤ b.toNat ∧ b.toNat ≤ 57)) : ∀ a, digGo a (runes l) = none := by
  induction l using byRunes with
  | hnil => simp at hm
  | hstep l hne ih =>
    intro a
    rw [runes_step l hne]
    unfold digGo
    split
    · rename_i hx
      have e := low_one l (by omega)
      rw [e] at hx ih ⊢
      dsimp only at hx ih ⊢
      cases l with
      | nil => exact absurd rfl hne
      | cons c l =>
        rcases List.mem_cons.1 hm with rfl | hm
        · exact absurd (by simpa using hx) hb
        · exact ih (by simpa using hm) _
    · rfl
theorem digits_bad (l : List UInt8) (b : UInt8) (hm : b ∈ l) (hb : ¬ (48 ≤ b.toNat ∧ b.toNat ≤ 57)) : digits l = none := by
  unfold digits
  split
  · rfl
  · exact digGo_high l b hm hb 0
def val (a : Nat) (l : List UInt8) : Nat := l.foldl (fun x b => 10 * x + (b.toNat - 48)) a
theorem digGo_cons (a r : Nat) (rs) (h : 48 ≤ r ∧ r ≤ 57) : digGo a (r :: rs) = digGo (10 * a + (r - 48)) rs := by
  rw [digGo, if_pos h]
theorem val_cons (a : Nat) (b : UInt8) (l : List UInt8) : val a (b :: l) = val (10 * a + (b.toNat - 48)) l := by
  unfold val
  rw [List.foldl_cons]
theorem digGo_val (l : List UInt8) : ∀ (a : Nat), (∀ b ∈ l, 48 ≤ b.toNat ∧ b.toNat ≤ 57) → digGo a (l.map (·.toNat)) = some (val a l) := by
  induction l with
  | nil => intro a _; rfl
  | cons b l ih =>
    intro a h
    have hb : 48 ≤ b.toNat ∧ b.toNat ≤ 57 := h b (List.mem_cons_self ..)
    have e := ih (10 * a + (b.toNat - 48)) (fun c hc => h c (List.mem_cons_of_mem _ hc))
    rw [List.map_cons, digGo_cons _ _ _ hb, val_cons]
    exact e
theorem digits_val (l : List UInt8) (h : ∀ b ∈ l, 48 ≤ b.toNat ∧ b.toNat ≤ 57) (hn : l ≠ []) (hl : l.length ≤ 18) (h0 : l.head? ≠ some 48 ∨ l = [48]) : digits l = some (val 0 l) := by
  unfold digits
  rw [if_neg, runes_low l (fun b hb => by have := h b hb; omega), digGo_val l 0 h]
  rintro (e | e | e)
  · exact hn e
  · omega
  · rcases h0 with h0 | h0
    · exact h0 e.1
    · exact e.2 h0
theorem val_lin : ∀ (l : List UInt8) (a : Nat), val a l = a * 10 ^ l.length + val 0 l
  | [], a => by simp [val]
  | b :: l, a => by
    rw [val_cons, val_cons, List.length_cons]
    rw [val_lin l (10 * a + (b.toNat - 48)), val_lin l (10 * 0 + (b.toNat - 48)), Nat.pow_succ, Nat.add_mul, ← Nat.add_assoc]
    congr 1
    rw [Nat.mul_zero, Nat.zero_add]
    congr 1
    rw [Nat.mul_comm 10 a, Nat.mul_assoc, Nat.mul_comm 10]
theorem digGo_lt : ∀ (rs : List Nat) (a v : Nat), digGo a rs = some v → v < (a + 1) * 10 ^ rs.length
  | [], a, v, h => by simp [digGo] at h; simp; omega
  | r :: rs, a, v, h => by
    unfold digGo at h
    split at h
    · have := digGo_lt rs _ v h
      have h2 : (10 * a + (r - 48) + 1) * 10 ^ rs.length ≤ (a + 1) * 10 ^ (rs.length + 1) := by
        rw [Nat.pow_succ, Nat.mul_comm (10 ^ rs.length) 10, ← Nat.mul_assoc]
        exact Nat.mul_le_mul_right _ (by omega)
      rw [List.length_cons]
      omega
    · cases h
end Go.Proofs.Ythcaecinjmnlbab.Rn

/- PLAIN LEAN: rows of rates, their order, tables, what is put into one and found in it; no Go walked here. -/
namespace Go.Proofs.Ythcaecinjmnlbab.Vt

/-! ### texts byte by byte -/
theorem less_irrefl : ∀ l : List UInt8, Op.bytesLess l l = false
  | [] => rfl
  | a :: l => by
    have h := less_irrefl l
    rw [Bool.eq_false_iff]
    intro k
    rw [Dt.less_same, h] at k
    cases k
theorem less_trans : ∀ a b c : List UInt8, Op.bytesLess a b = true → Op.bytesLess b c = true → Op.bytesLess a c = true
  | _, _, [], _, h => by rw [Dt.less_nil] at h; cases h
  | _, [], _ :: _, h, _ => by rw [Dt.less_nil] at h; cases h
  | [], _ :: _, _ :: _, _, _ => rfl
  | x :: a, y :: b, z :: c, h, k => by
    rw [Dt.less_cons] at h k ⊢
    rcases h with h | ⟨rfl, h⟩
    · rcases k with k | ⟨rfl, k⟩
      · exact .inl (UInt8.lt_trans h k)
      · exact .inl h
    · rcases k with k | ⟨rfl, k⟩
      · exact .inl k
      · exact .inr ⟨rfl, less_trans a b c h k⟩
theorem less_tri : ∀ a b : List UInt8, Op.bytesLess a b = true ∨ a = b ∨ Op.bytesLess b a = true
  | [], [] => .inr (.inl rfl)
  | [], _ :: _ => .inl rfl
  | _ :: _, [] => .inr (.inr rfl)
  | x :: a, y :: b => by
    rw [Dt.less_cons, Dt.less_cons]
    have h3 : x.toNat < y.toNat ∨ x.toNat = y.toNat ∨ y.toNat < x.toNat := by omega
    rcases h3 with h | h | h
    · exact .inl (.inl (UInt8.lt_iff_toNat_lt.2 h))
    · obtain rfl : x = y := UInt8.toNat_inj.1 h
      rcases less_tri a b with k | rfl | k
      · exact .inl (.inr ⟨rfl, k⟩)
      · exact .inr (.inl rfl)
      · exact .inr (.inr (.inr ⟨rfl, k⟩))
    · exact .inr (.inr (.inl (UInt8.lt_iff_toNat_lt.2 h)))

/-! ### rows -/
structure Rt where
  cat : ByteArray
  y : Int
  m : Int
  d : Int
  bp : Int
def dy (r : Rt) : Int := Dt.days r.y r.m r.d
def lt (a b : Rt) : Bool := if a.cat = b.cat then decide (dy a < dy b) else Op.bytesLess a.cat.toList b.cat.toList
theorem lt_same {a b : Rt} (h : a.cat = b.cat) : lt a b = decide (dy a < dy b) := if_pos h
theorem lt_other {a b : Rt} (h : a.cat ≠ b.cat) : lt a b = Op.bytesLess a.cat.toList b.cat.toList := if_neg h
theorem cat_ext {a b : ByteArray} (h : a.toList = b.toList) : a = b := txt_ext (by rw [← tl, ← tl]; exact h)
theorem lt_trans {a b c : Rt} (h : lt a b = true) (k : lt b c = true) : lt a c = true := by
  by_cases e : a.cat = b.cat
  · rw [lt_same e, decide_eq_true_iff] at h
    by_cases f : b.cat = c.cat
    · rw [lt_same f, decide_eq_true_iff] at k
      rw [lt_same (e.trans f), decide_eq_true_iff]
      omega
    · rw [lt_other f] at k
      rw [lt_other (by rw [e]; exact f), e]
      exact k
  · rw [lt_other e] at h
    by_cases f : b.cat = c.cat
    · rw [lt_other (by rw [← f]; exact e), ← f]
      exact h
    · rw [lt_other f] at k
      have t := less_trans _ _ _ h k
      rw [lt_other]
      · exact t
      · intro g
        rw [g] at h
        have := less_trans _ _ _ h k
        rw [less_irrefl] at this
        cases this
theorem lt_irrefl (a : Rt) : lt a a = false := by
  rw [lt_same rfl]
  exact decide_eq_false (by omega)
theorem lt_asymm {a b : Rt} (h : lt a b = true) : lt b a = false := by
  rw [Bool.eq_false_iff]
  intro k
  have := lt_trans h k
  rw [lt_irrefl] at this
  cases this
theorem lt_tri (a b : Rt) : lt a b = true ∨ (a.cat = b.cat ∧ dy a = dy b) ∨ lt b a = true := by
  by_cases e : a.cat = b.cat
  · rw [lt_same e, lt_same e.symm, decide_eq_true_iff, decide_eq_true_iff]
    have : dy a < dy b ∨ dy a = dy b ∨ dy b < dy a := by omega
    rcases this with h | h | h
    · exact .inl h
    · exact .inr (.inl ⟨e, h⟩)
    · exact .inr (.inr h)
  · rw [lt_other e, lt_other fun k => e k.symm]
    rcases less_tri a.cat.toList b.cat.toList with h | h | h
    · exact .inl h
    · exact absurd (cat_ext h) e
    · exact .inr (.inr h)
/-- what a row is refused for -/
def rowE (r : Rt) : Int := if Rn.name (txt r.cat) = false then 8 else if Dt.rightB r.y r.m r.d = false then 9 else if r.bp < 0 ∨ 100000 < r.bp then 10 else 0
theorem rowE_0 {r : Rt} : rowE r = 0 ↔ Rn.name (txt r.cat) = true ∧ Dt.rightB r.y r.m r.d = true ∧ 0 ≤ r.bp ∧ r.bp ≤ 100000 := by
  unfold rowE
  cases Rn.name (txt r.cat)
  · simp
  · cases Dt.rightB r.y r.m r.d
    · simp
    · simp
theorem rowE_name {r : Rt} (h : Rn.name (txt r.cat) = false) : rowE r = 8 := if_pos h
theorem rowE_day {r : Rt} (h : Rn.name (txt r.cat) = true) (k : Dt.rightB r.y r.m r.d = false) : rowE r = 9 := by
  unfold rowE
  rw [if_neg (by rw [h]; simp), if_pos k]
theorem rowE_bp {r : Rt} (h : Rn.name (txt r.cat) = true) (k : Dt.rightB r.y r.m r.d = true) (l : r.bp < 0 ∨ 100000 < r.bp) : rowE r = 10 := by
  unfold rowE
  rw [if_neg (by rw [h]; simp), if_neg (by rw [k]; simp), if_pos l]
theorem rowE_bd (r : Rt) : 0 ≤ rowE r ∧ rowE r ≤ 10 := by
  unfold rowE
  split
  · omega
  · split
    · omega
    · split <;> omega

/-! ### tables -/
def ok (p : Option Rt) (r : Rt) : Bool := decide (rowE r = 0) && (match p with | none => true | some q => lt q r)
def okAll : Option Rt → List Rt → Bool
  | _, [] => true
  | p, r :: l => ok p r && okAll (some r) l
def tableB (l : List Rt) : Bool := decide (l.length ≤ 24) && okAll none l
def Sorted (l : List Rt) : Prop := l.Pairwise fun a b => lt a b = true
theorem okAll_iff : ∀ (l : List Rt) (p : Option Rt), okAll p l = true ↔ (∀ r ∈ l, rowE r = 0) ∧ Sorted l ∧ (∀ q, p = some q → ∀ r ∈ l, lt q r = true)
  | [], p => by simp [okAll, Sorted]
  | a :: l, p => by
    have ih := okAll_iff l (some a)
    rw [okAll, Bool.and_eq_true, ih]
    unfold ok Sorted
    rw [Bool.and_eq_true, decide_eq_true_iff, List.pairwise_cons]
    constructor
    · rintro ⟨⟨h1, h2⟩, h3, h4, h5⟩
      refine ⟨?_, ⟨h5 a rfl, h4⟩, ?_⟩
      · intro r hr
        rcases List.mem_cons.1 hr with rfl | hr
        · exact h1
        · exact h3 r hr
      · rintro q rfl r hr
        rcases List.mem_cons.1 hr with rfl | hr
        · exact h2
        · exact lt_trans h2 (h5 a rfl r hr)
    · rintro ⟨h1, ⟨h2, h3⟩, h4⟩
      refine ⟨⟨h1 a (List.mem_cons_self ..), ?_⟩, fun r hr => h1 r (List.mem_cons_of_mem _ hr), h3, ?_⟩
      · cases p with
        | none => rfl
        | some q => exact h4 q rfl a (List.mem_cons_self ..)
      · rintro q ⟨⟩ r hr
        exact h2 r hr
theorem table_iff (l : List Rt) : tableB l = true ↔ l.length ≤ 24 ∧ (∀ r ∈ l, rowE r = 0) ∧ Sorted l := by
  unfold tableB
  rw [Bool.and_eq_true, decide_eq_true_iff, okAll_iff]
  simp
theorem table_nil : tableB [] = true := rfl
theorem table_long {l : List Rt} (h : 24 < l.length) : tableB l = false := by
  unfold tableB
  rw [decide_eq_false (by omega)]
  rfl
theorem table_short {l : List Rt} (h : l.length ≤ 24) : tableB l = okAll none l := by
  unfold tableB
  rw [decide_eq_true h]
  rfl
/-- the row ahead of a place -/
def prevAt (l : List Rt) (k : Nat) : Option Rt := if k = 0 then none else l[k - 1]?
theorem okAll_at (l : List Rt) (k : Nat) (h : k < l.length) : okAll (prevAt l k) (l.drop k) = (ok (prevAt l k) l[k] && okAll (prevAt l (k + 1)) (l.drop (k + 1))) := by
  rw [List.drop_eq_getElem_cons h, okAll]
  congr 2
  unfold prevAt
  rw [if_neg (by omega), Nat.add_sub_cancel, List.getElem?_eq_getElem h]

/-! ### a row put into a table -/
def spot (r : Rt) : List Rt → Nat
  | [] => 0
  | a :: l => if lt a r = true then spot r l + 1 else 0
theorem spot_le (r : Rt) : ∀ l, spot r l ≤ l.length
  | [] => Nat.le_refl _
  | a :: l => by
    have := spot_le r l
    unfold spot
    split
    · simp; omega
    · simp
def putL (l : List Rt) (r : Rt) : List Rt := l.take (spot r l) ++ r :: l.drop (spot r l)
/-- is there a row of that category and day? -/
def taken (l : List Rt) (r : Rt) : Bool := match l[spot r l]? with | none => false | some a => !(lt r a)
def putE (l : List Rt) (r : Rt) : Int := if tableB l = false then 1 else if rowE r ≠ 0 then rowE r else if taken l r = true then 12 else if 24 ≤ l.length then 2 else 0
def putR (l : List Rt) (r : Rt) : List Rt := if putE l r = 0 then putL l r else []
theorem putE_0 {l : List Rt} {r : Rt} (h : putE l r = 0) : tableB l = true ∧ rowE r = 0 ∧ taken l r = false ∧ l.length < 24 := by
  unfold putE at h
  cases ht : tableB l
  · rw [if_pos ht] at h; omega
  · rw [if_neg (by rw [ht]; simp)] at h
    by_cases hr : rowE r = 0
    · rw [if_neg (by simpa using hr)] at h
      cases hk : taken l r
      · rw [if_neg (by rw [hk]; simp)] at h
        by_cases hl : 24 ≤ l.length
        · rw [if_pos hl] at h; omega
        · exact ⟨rfl, hr, rfl, by omega⟩
      · rw [if_pos hk] at h; omega
    · rw [if_pos hr] at h
      exact absurd h hr
theorem putL_cons {a : Rt} {l : List Rt} {r : Rt} (h : lt a r = true) : putL (a :: l) r = a :: putL l r := by
  have e : spot r (a :: l) = spot r l + 1 := if_pos h
  unfold putL
  rw [e]
  rfl
theorem putL_head {a : Rt} {l : List Rt} {r : Rt} (h : lt a r = false) : putL (a :: l) r = r :: a :: l := by
  have e : spot r (a :: l) = 0 := if_neg (by rw [h]; simp)
  unfold putL
  rw [e]
  rfl
theorem putL_perm (r : Rt) : ∀ l, (putL l r).Perm (r :: l)
  | [] => List.Perm.refl _
  | a :: l => by
    cases h : lt a r
    · rw [putL_head h]
    · rw [putL_cons h]
      exact ((putL_perm r l).cons a).trans (List.Perm.swap r a l)
theorem putL_len (r : Rt) (l : List Rt) : (putL l r).length = l.length + 1 := by
  have := (putL_perm r l).length_eq
  simpa using this
theorem taken_cons {a : Rt} {l : List Rt} {r : Rt} (h : lt a r = true) : taken (a :: l) r = taken l r := by
  have e : spot r (a :: l) = spot r l + 1 := if_pos h
  unfold taken
  rw [e]
  rfl
theorem taken_head {a : Rt} {l : List Rt} {r : Rt} (h : lt a r = false) : taken (a :: l) r = !(lt r a) := by
  have e : spot r (a :: l) = 0 := if_neg (by rw [h]; simp)
  unfold taken
  rw [e]
  rfl
theorem putL_sorted (r : Rt) : ∀ l, Sorted l → taken l r = false → Sorted (putL l r)
  | [], _, _ => List.pairwise_singleton _ _
  | a :: l, h, k => by
    unfold Sorted at h
    rw [List.pairwise_cons] at h
    cases hl : lt a r
    · rw [taken_head hl] at k
      have hra : lt r a = true := by simpa using k
      rw [putL_head hl]
      unfold Sorted
      rw [List.pairwise_cons, List.pairwise_cons]
      refine ⟨fun b hb => ?_, h⟩
      rcases List.mem_cons.1 hb with rfl | hb
      · exact hra
      · exact lt_trans hra (h.1 b hb)
    · rw [taken_cons hl] at k
      rw [putL_cons hl]
      unfold Sorted
      rw [List.pairwise_cons]
      refine ⟨fun b hb => ?_, putL_sorted r l h.2 k⟩
      rcases List.mem_cons.1 ((putL_perm r l).mem_iff.1 hb) with rfl | hb
      · exact hl
      · exact h.1 b hb
theorem put_table {l : List Rt} {r : Rt} (h : putE l r = 0) : tableB (putL l r) = true := by
  obtain ⟨h1, h2, h3, h4⟩ := putE_0 h
  obtain ⟨k1, k2, k3⟩ := (table_iff l).1 h1
  refine (table_iff _).2 ⟨by rw [putL_len]; omega, fun b hb => ?_, putL_sorted r l k3 h3⟩
  rcases List.mem_cons.1 ((putL_perm r l).mem_iff.1 hb) with rfl | hb
  · exact h2
  · exact k2 b hb

/-! ### what is found -/
def hit (c : ByteArray) (n : Int) (r : Rt) : Bool := decide (r.cat = c) && decide (dy r ≤ n)
def last (c : ByteArray) (n : Int) : Int × Bool → List Rt → Int × Bool
  | acc, [] => acc
  | acc, r :: l => last c n (if hit c n r = true then (r.bp, true) else acc) l
def find (l : List Rt) (c : ByteArray) (y m d : Int) : Int × Bool := if (tableB l && Dt.rightB y m d) = true then last c (Dt.days y m d) (0, false) l else (0, false)
theorem last_app (c : ByteArray) (n : Int) : ∀ (a b : List Rt) (acc : Int × Bool), last c n acc (a ++ b) = last c n (last c n acc a) b
  | [], _, _ => rfl
  | _ :: a, b, _ => last_app c n a b _
theorem last_none (c : ByteArray) (n : Int) : ∀ (l : List Rt) (acc : Int × Bool), (∀ r ∈ l, hit c n r = false) → last c n acc l = acc
  | [], _, _ => rfl
  | r :: l, acc, h => by
    rw [last, if_neg (by rw [h r (List.mem_cons_self ..)]; simp)]
    exact last_none c n l acc fun b hb => h b (List.mem_cons_of_mem _ hb)
theorem last_skip (c : ByteArray) (n : Int) (acc : Int × Bool) {r : Rt} (h : hit c n r = false) (a b : List Rt) : last c n acc (a ++ r :: b) = last c n acc (a ++ b) := by
  rw [last_app, last_app, last, if_neg (by rw [h]; simp)]
theorem find_right {l : List Rt} {c : ByteArray} {y m d : Int} (h : tableB l = true) (k : Dt.rightB y m d = true) : find l c y m d = last c (Dt.days y m d) (0, false) l := by
  unfold find
  rw [h, k]
  rfl
theorem find_not {l : List Rt} {c : ByteArray} {y m d : Int} (h : tableB l = false ∨ Dt.rightB y m d = false) : find l c y m d = (0, false) := by
  unfold find
  rw [if_neg]
  intro k
  rw [Bool.and_eq_true] at k
  rcases h with h | h
  · rw [h] at k; cases k.1
  · rw [h] at k; cases k.2
theorem find_other {l : List Rt} {r : Rt} (h : putE l r = 0) {c : ByteArray} (hc : r.cat ≠ c) (y m d : Int) : find (putL l r) c y m d = find l c y m d := by
  have h1 := put_table h
  have h2 := (putE_0 h).1
  cases k : Dt.rightB y m d
  · rw [find_not (.inr k), find_not (.inr k)]
  · rw [find_right h1 k, find_right h2 k]
    unfold putL
    rw [last_skip _ _ _ (by unfold hit; rw [decide_eq_false hc]; rfl), List.take_append_drop]
theorem last_sorted (c : ByteArray) (n : Int) : ∀ (l : List Rt) (acc : Int × Bool) (r : Rt), Sorted l → r ∈ l → hit c n r = true → (∀ b ∈ l, hit c n b = true → dy b ≤ dy r) → last c n acc l = (r.bp, true)
  | a :: l, acc, r, hs, hm, hh, hb => by
    unfold Sorted at hs
    rw [List.pairwise_cons] at hs
    rw [last]
    rcases List.mem_cons.1 hm with rfl | hm
    · rw [if_pos hh]
      refine last_none c n l _ fun b hbm => ?_
      rw [Bool.eq_false_iff]
      intro hbh
      have h1 := hs.1 b hbm
      have h2 := hb b (List.mem_cons_of_mem _ hbm) hbh
      unfold hit at hh hbh
      rw [Bool.and_eq_true, decide_eq_true_iff] at hh hbh
      rw [lt_same (hh.1.trans hbh.1.symm), decide_eq_true_iff] at h1
      omega
    · exact last_sorted c n l _ r hs.2 hm hh fun b hbm => hb b (List.mem_cons_of_mem _ hbm)
theorem find_own {l : List Rt} {r : Rt} (h : putE l r = 0) : find (putL l r) r.cat r.y r.m r.d = (r.bp, true) := by
  have h1 := put_table h
  obtain ⟨_, h2, _, _⟩ := putE_0 h
  rw [rowE_0] at h2
  rw [find_right h1 h2.2.1]
  refine last_sorted _ _ _ _ r ((table_iff _).1 h1).2.2 ((putL_perm r l).mem_iff.2 (List.mem_cons_self ..)) ?_ ?_
  · unfold hit dy
    simp
  · intro b _ hb
    unfold hit at hb
    rw [Bool.and_eq_true, decide_eq_true_iff, decide_eq_true_iff] at hb
    exact hb.2

/-! ### rows put one by one -/
def tab : List Rt → List Rt → List Rt
  | t, [] => t
  | t, r :: l => tab (if putE t r = 0 then putL t r else t) l
theorem tab_table : ∀ (l t : List Rt), tableB t = true → tableB (tab t l) = true
  | [], _, h => h
  | r :: l, t, h => by
    rw [tab]
    by_cases k : putE t r = 0
    · rw [if_pos k]
      exact tab_table l _ (put_table k)
    · rw [if_neg k]
      exact tab_table l _ h
theorem tab_len : ∀ (l t : List Rt), (tab t l).length ≤ t.length + l.length
  | [], _ => Nat.le_refl _
  | r :: l, t => by
    rw [tab]
    by_cases k : putE t r = 0
    · rw [if_pos k]
      have := tab_len l (putL t r)
      rw [putL_len] at this
      simp only [List.length_cons]
      omega
    · rw [if_neg k]
      have := tab_len l t
      simp only [List.length_cons]
      omega
theorem tab_perm : ∀ (l t : List Rt), (tab t l).length = t.length + l.length → (tab t l).Perm (l ++ t)
  | [], _, _ => List.Perm.refl _
  | r :: l, t, h => by
    rw [tab] at h ⊢
    by_cases k : putE t r = 0
    · rw [if_pos k] at h ⊢
      have h1 := tab_perm l (putL t r) (by rw [putL_len, h, List.length_cons]; omega)
      refine h1.trans (((putL_perm r t).append_left l).trans ?_)
      exact List.perm_middle
    · rw [if_neg k] at h
      have := tab_len l t
      rw [List.length_cons] at h
      omega
theorem tab_app : ∀ (l k t : List Rt), tab t (l ++ k) = tab (tab t l) k
  | [], _, _ => rfl
  | r :: l, k, t => by
    rw [List.cons_append, tab, tab]
    exact tab_app l k _
theorem tab_snoc (t l : List Rt) (r : Rt) : tab t (l ++ [r]) = if putE (tab t l) r = 0 then putL (tab t l) r else tab t l := by
  rw [tab_app]
  rfl
theorem tab_mem : ∀ (l t : List Rt) (r : Rt), r ∈ tab t l → r ∈ t ∨ r ∈ l
  | [], _, _, h => .inl h
  | a :: l, t, r, h => by
    rw [tab] at h
    by_cases k : putE t a = 0
    · rw [if_pos k] at h
      rcases tab_mem l _ r h with h | h
      · rcases List.mem_cons.1 ((putL_perm a t).mem_iff.1 h) with rfl | h
        · exact .inr (List.mem_cons_self ..)
        · exact .inl h
      · exact .inr (List.mem_cons_of_mem _ h)
    · rw [if_neg k] at h
      rcases tab_mem l _ r h with h | h
      · exact .inl h
      · exact .inr (List.mem_cons_of_mem _ h)
theorem putR_mem {l : List Rt} {a r : Rt} (h : r ∈ putR l a) : r = a ∨ r ∈ l := by
  unfold putR at h
  by_cases k : putE l a = 0
  · rw [if_pos k] at h
    exact List.mem_cons.1 ((putL_perm a l).mem_iff.1 h)
  · rw [if_neg k] at h
    cases h
theorem sorted_eq : ∀ (a b : List Rt), Sorted a → Sorted b → a.Perm b → a = b
  | [], b, _, _, h => (List.nil_perm.1 h).symm
  | x :: a, [], _, _, h => by
    have := h.length_eq
    simp at this
  | x :: a, y :: b, hs, ht, h => by
    unfold Sorted at hs ht
    rw [List.pairwise_cons] at hs ht
    have e : x = y := by
      rcases List.mem_cons.1 (h.mem_iff.1 (List.mem_cons_self ..)) with e | hx
      · exact e
      · rcases List.mem_cons.1 (h.mem_iff.2 (List.mem_cons_self ..)) with e | hy
        · exact e.symm
        · have h1 := lt_asymm (hs.1 y hy)
          rw [ht.1 x hx] at h1
          cases h1
    subst e
    rw [sorted_eq a b hs.2 ht.2 (List.perm_cons x |>.1 h)]
end Go.Proofs.Ythcaecinjmnlbab.Vt

/- MEMORY BEHIND A WORLD's END: what every kit of rows takes. -/
namespace Go.Proofs.Ythcaecinjmnlbab.Mem
open Go.RowKit

theorem below_box {w0 w : World} (h : Below w0.heap.size w0 w) (o : Obj) : Below w0.heap.size w0 (w.alloc o) := h.alloc h.size o
theorem bcell {W w1 : World} (hb : Below W.heap.size W w1) : (∀ b o, b < W.heap.size → w1.cell? ⟨b, o, none⟩ = W.cell? ⟨b, o, none⟩) ∧ (∀ b o, b < W.heap.size → w1.frozen? ⟨b, o, none⟩ = W.frozen? ⟨b, o, none⟩) :=
  ⟨fun b o h => hb.cell (p := ⟨b, o, none⟩) h, fun b o h => hb.frozen (p := ⟨b, o, none⟩) h⟩
theorem cell_lt {u : World} {b o : Nat} {v : Value} (h : u.cell? ⟨b, o, none⟩ = some v) : b < u.heap.size := by
  by_cases k : b < u.heap.size
  · exact k
  · exfalso
    simp [World.cell?, Array.getElem?_eq_none (Nat.le_of_not_lt k)] at h
theorem bchain {w0 u v : World} (h : Below w0.heap.size w0 u) (k : Below u.heap.size u v) : Below w0.heap.size w0 v := h.trans (k.mono h.size)
theorem bset {w0 u : World} {p : Nat} (h : Below w0.heap.size w0 u) (hp : w0.heap.size ≤ p) (o : Nat) (x : Value) : Below w0.heap.size w0 (u.setCell ⟨p, o, none⟩ x) := h.setCell hp x
theorem heap_old {x : World} {o o' : Obj} {g : Nat} (h : x.heap[g]? = some o) : (x.alloc o').heap[g]? = some o := by
  have hg : g < x.heap.size := by
    obtain ⟨hg, _⟩ := Array.getElem?_eq_some_iff.1 h
    exact hg
  rw [← h]
  exact (((Below.refl x.heap.size x).alloc (Nat.le_refl _) o').block g hg)
theorem heap_next (x : World) (o o' : Obj) : ((x.alloc o).alloc o').heap[x.heap.size + 1]? = some o' := by
  have h := heap_alloc_new (x.alloc o) o'
  have e : (x.alloc o).heap.size = x.heap.size + 1 := by simp
  rw [e] at h
  exact h
theorem blk_keep {X y : World} {row : Option Nat} {g : Nat} {o : Obj} (gr : X.grownBy y row) (h : X.heap[g]? = some o) (hne : some g ≠ row) : y.heap[g]? = some o := by
  have hg : g < X.heap.size := by
    obtain ⟨hg, _⟩ := Array.getElem?_eq_some_iff.1 h
    exact hg
  rw [gr.block g hg hne]
  exact h
end Go.Proofs.Ythcaecinjmnlbab.Mem
