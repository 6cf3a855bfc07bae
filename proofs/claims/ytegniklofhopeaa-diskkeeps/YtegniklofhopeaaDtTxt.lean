/- PLAIN LEAN: days' texts, what a text tells, the texts' order; no Go walked here. -/
import Derived.Test.YtegniklofhopeaaDt
namespace Go.Proofs.Ytegniklofhopeaa.Dt

/-! ### digits -/
def dig (u : Nat) : UInt8 := UInt8.ofNat (48 + u % 10)
theorem dig_nat (u : Nat) : (dig u).toNat = 48 + u % 10 := by
  unfold dig
  rw [UInt8.toNat_ofNat']
  omega
theorem dig_lt (u v : Nat) : dig u < dig v ↔ u % 10 < v % 10 := by
  rw [UInt8.lt_iff_toNat_lt, dig_nat, dig_nat]
  omega
theorem dig_eq (u v : Nat) : dig u = dig v ↔ u % 10 = v % 10 := by
  rw [← UInt8.toNat_inj, dig_nat, dig_nat]
  omega
def isDig (b : UInt8) : Bool := decide (48 ≤ b.toNat ∧ b.toNat ≤ 57)
theorem isDig_dig (u : Nat) : isDig (dig u) = true := by
  unfold isDig
  rw [dig_nat]
  exact decide_eq_true (by omega)
def worth (b : UInt8) : Nat := b.toNat - 48
theorem worth_dig (u : Nat) : worth (dig u) = u % 10 := by
  unfold worth
  rw [dig_nat]
  omega

/-! ### a day's text -/
def bare (y m d : Nat) : List UInt8 := [dig (y / 1000), dig (y / 100), dig (y / 10), dig y, 45, dig (m / 10), dig m, 45, dig (d / 10), dig d]
def shown (y m d : Int) : List UInt8 := if rightB y m d = true then bare y.toNat m.toNat d.toNat else []
theorem shown_right {y m d : Int} (h : rightB y m d = true) : shown y m d = bare y.toNat m.toNat d.toNat := if_pos h
theorem shown_not {y m d : Int} (h : rightB y m d = false) : shown y m d = [] := if_neg (by rw [h]; simp)
theorem bare_len (y m d : Nat) : (bare y m d).length = 10 := rfl

/-! ### what a text tells -/
def parse : List UInt8 → Option (Nat × Nat × Nat)
  | [a, b, c, d, e, f, g, h, i, j] =>
    if isDig a && isDig b && isDig c && isDig d && (e == 45) && isDig f && isDig g && (h == 45) && isDig i && isDig j then
      some (1000 * worth a + 100 * worth b + 10 * worth c + worth d, 10 * worth f + worth g, 10 * worth i + worth j)
    else none
  | _ => none
theorem parse_ten (a b c d e f g h i j : UInt8) : parse [a, b, c, d, e, f, g, h, i, j] = if isDig a && isDig b && isDig c && isDig d && (e == 45) && isDig f && isDig g && (h == 45) && isDig i && isDig j then
      some (1000 * worth a + 100 * worth b + 10 * worth c + worth d, 10 * worth f + worth g, 10 * worth i + worth j)
    else none := rfl
theorem parse_len {l : List UInt8} (h : l.length ≠ 10) : parse l = none := by
  unfold parse
  split
  · exact absurd rfl h
  · rfl
theorem ten {l : List UInt8} (h : l.length = 10) : ∃ a b c d e f g h i j, l = [a, b, c, d, e, f, g, h, i, j] := by
  match l, h with
  | [a, b, c, d, e, f, g, h, i, j], _ => exact ⟨a, b, c, d, e, f, g, h, i, j, rfl⟩
theorem parse_bare (y m d : Nat) : parse (bare y m d) = some (y % 10000, m % 100, d % 100) := by
  unfold parse bare
  simp only [isDig_dig, worth_dig, beq_self_eq_true, Bool.and_true, if_true, Option.some.injEq, Prod.mk.injEq]
  refine ⟨?_, ?_, ?_⟩ <;> omega
/-- the day and the error that a text tells -/
def told (l : List UInt8) : Int × Int × Int × Int :=
  match parse l with
  | none => (0, 0, 0, 4)
  | some (y, m, d) => if rightB y m d = true then ((y : Int), (m : Int), (d : Int), 0) else (0, 0, 0, 9)
theorem told_none {l : List UInt8} (h : parse l = none) : told l = (0, 0, 0, 4) := by
  unfold told
  rw [h]
theorem told_some {l : List UInt8} {y m d : Nat} (h : parse l = some (y, m, d)) (hr : rightB y m d = true) : told l = ((y : Int), (m : Int), (d : Int), 0) := by
  unfold told
  rw [h]
  exact if_pos hr
theorem told_date {l : List UInt8} {y m d : Nat} (h : parse l = some (y, m, d)) (hr : rightB y m d = false) : told l = (0, 0, 0, 9) := by
  unfold told
  rw [h]
  exact if_neg (by rw [hr]; simp)
theorem told_shown {y m d : Int} (h : rightB y m d = true) : told (shown y m d) = (y, m, d, 0) := by
  obtain ⟨h1, h2, h3, h4, h5, h6⟩ := right_bd h
  have e1 : ((y.toNat % 10000 : Nat) : Int) = y := by omega
  have e2 : ((m.toNat % 100 : Nat) : Int) = m := by omega
  have e3 : ((d.toNat % 100 : Nat) : Int) = d := by omega
  have hp := parse_bare y.toNat m.toNat d.toNat
  rw [shown_right h]
  rw [told_some hp (by rw [e1, e2, e3]; exact h), e1, e2, e3]

/-! ### the texts' order -/
theorem less_cons (a b : UInt8) (x y : List UInt8) : Op.bytesLess (a :: x) (b :: y) = true ↔ a < b ∨ (a = b ∧ Op.bytesLess x y = true) := by
  simp [Op.bytesLess]
theorem less_same (a : UInt8) (x y : List UInt8) : Op.bytesLess (a :: x) (a :: y) = true ↔ Op.bytesLess x y = true := by
  simp [Op.bytesLess]
theorem less_nil (x : List UInt8) : Op.bytesLess x [] = false := by
  cases x <;> rfl
theorem split2 (u : Nat) (h : u ≤ 99) : ∃ c d, u = 10 * c + d ∧ c ≤ 9 ∧ d ≤ 9 := ⟨u / 10, u % 10, by omega, by omega, by omega⟩
theorem split4 (u : Nat) (h : u ≤ 9999) : ∃ a b c d, u = 1000 * a + 100 * b + 10 * c + d ∧ a ≤ 9 ∧ b ≤ 9 ∧ c ≤ 9 ∧ d ≤ 9 :=
  ⟨u / 1000, u / 100 % 10, u / 10 % 10, u % 10, by omega, by omega, by omega, by omega, by omega⟩
theorem less_two (u v : Nat) (hu : u ≤ 99) (hv : v ≤ 99) (x y : List UInt8) : Op.bytesLess (dig (u / 10) :: dig u :: x) (dig (v / 10) :: dig v :: y) = true ↔ u < v ∨ (u = v ∧ Op.bytesLess x y = true) := by
  rw [less_cons, less_cons, dig_lt, dig_lt, dig_eq, dig_eq]
  obtain ⟨a, b, rfl, ha, hb⟩ := split2 u hu
  obtain ⟨c, d, rfl, hc, hd⟩ := split2 v hv
  rw [show (10 * a + b) / 10 % 10 = a by omega, show (10 * a + b) % 10 = b by omega, show (10 * c + d) / 10 % 10 = c by omega, show (10 * c + d) % 10 = d by omega]
  by_cases h : Op.bytesLess x y = true
  · simp only [h, eq_self, and_true]
    omega
  · have h' : Op.bytesLess x y = false := by simpa using h
    simp only [h', Bool.false_eq_true, and_false, or_false]
    omega
theorem less_four (u v : Nat) (hu : u ≤ 9999) (hv : v ≤ 9999) (x y : List UInt8) : Op.bytesLess (dig (u / 1000) :: dig (u / 100) :: dig (u / 10) :: dig u :: x) (dig (v / 1000) :: dig (v / 100) :: dig (v / 10) :: dig v :: y) = true ↔ u < v ∨ (u = v ∧ Op.bytesLess x y = true) := by
  rw [less_cons, less_cons, less_cons, less_cons, dig_lt, dig_lt, dig_lt, dig_lt, dig_eq, dig_eq, dig_eq, dig_eq]
  obtain ⟨a, b, c, d, rfl, ha, hb, hc, hd⟩ := split4 u hu
  obtain ⟨e, f, g, i, rfl, he, hf, hg, hi⟩ := split4 v hv
  rw [show (1000 * a + 100 * b + 10 * c + d) / 1000 % 10 = a by omega, show (1000 * a + 100 * b + 10 * c + d) / 100 % 10 = b by omega, show (1000 * a + 100 * b + 10 * c + d) / 10 % 10 = c by omega, show (1000 * a + 100 * b + 10 * c + d) % 10 = d by omega]
  rw [show (1000 * e + 100 * f + 10 * g + i) / 1000 % 10 = e by omega, show (1000 * e + 100 * f + 10 * g + i) / 100 % 10 = f by omega, show (1000 * e + 100 * f + 10 * g + i) / 10 % 10 = g by omega, show (1000 * e + 100 * f + 10 * g + i) % 10 = i by omega]
  by_cases h : Op.bytesLess x y = true
  · simp only [h, eq_self, and_true]
    omega
  · have h' : Op.bytesLess x y = false := by simpa using h
    simp only [h', Bool.false_eq_true, and_false, or_false]
    omega
theorem less_bare (y m d z n e : Nat) (h1 : y ≤ 9999) (h2 : m ≤ 99) (h3 : d ≤ 99) (k1 : z ≤ 9999) (k2 : n ≤ 99) (k3 : e ≤ 99) :
    Op.bytesLess (bare y m d) (bare z n e) = true ↔ y < z ∨ (y = z ∧ (m < n ∨ (m = n ∧ d < e))) := by
  unfold bare
  rw [less_four y z h1 k1, less_same, less_two m n h2 k2, less_same, less_two d e h3 k3, less_nil]
  simp
theorem less_shown {y m d z n e : Int} (ha : rightB y m d = true) (hb : rightB z n e = true) : Op.bytesLess (shown y m d) (shown z n e) = decide (num y m d < num z n e) := by
  obtain ⟨a1, a2, a3, a4, a5, a6⟩ := right_bd ha
  obtain ⟨b1, b2, b3, b4, b5, b6⟩ := right_bd hb
  rw [Bool.eq_iff_iff, shown_right ha, shown_right hb, less_bare _ _ _ _ _ _ (by omega) (by omega) (by omega) (by omega) (by omega) (by omega), decide_eq_true_iff, lt_lex ha hb]
  unfold Lex
  omega
end Go.Proofs.Ytegniklofhopeaa.Dt
