/- PLAIN MATHEMATICS OF THE SUM: one bit's division (half), eight of them, bytes eaten one by one; it is linear, what is parted comes to the same, and a burst within 32 bits never vanishes. No Go here. -/
namespace Go.Proofs.Ytagjbjppddbalaa.Crc

def half (s : Nat) : Nat := if s % 2 = 1 then (s / 2) ^^^ 3945912366 else s / 2
def halves : Nat → Nat → Nat
  | 0, s => s
  | n + 1, s => halves n (half s)
def eat (s : Nat) : List UInt8 → Nat
  | [] => s
  | b :: l => eat (halves 8 (s ^^^ b.toNat)) l
def on (c : Nat) (l : List UInt8) : Nat := eat (c ^^^ 4294967295) l ^^^ 4294967295
def le : List UInt8 → Nat
  | [] => 0
  | b :: l => b.toNat + 256 * le l

theorem xor_lt (a b : Nat) (ha : a < 4294967296) (hb : b < 4294967296) : a ^^^ b < 4294967296 :=
  Nat.xor_lt_two_pow (n := 32) ha hb
theorem half_lt (s : Nat) (h : s < 4294967296) : half s < 4294967296 := by
  unfold half
  split
  · exact xor_lt _ _ (by omega) (by omega)
  · omega
theorem halves_lt : ∀ (n s : Nat), s < 4294967296 → halves n s < 4294967296
  | 0, _, h => h
  | n + 1, s, h => halves_lt n (half s) (half_lt s h)
theorem halves_succ (n s : Nat) : halves (n + 1) s = half (halves n s) := by
  induction n generalizing s with
  | zero => rfl
  | succ n ih => exact ih (half s)
theorem halves_add (m n s : Nat) : halves (m + n) s = halves n (halves m s) := by
  induction m generalizing s with
  | zero => simp [halves]
  | succ m ih => rw [show m + 1 + n = (m + n) + 1 from by omega]; exact ih (half s)
theorem eat_lt : ∀ (l : List UInt8) (s : Nat), s < 4294967296 → eat s l < 4294967296
  | [], _, h => h
  | b :: l, s, h => eat_lt l _ (halves_lt 8 _ (xor_lt _ _ h (by have := b.toNat_lt; omega)))
theorem on_lt (c : Nat) (l : List UInt8) (h : c < 4294967296) : on c l < 4294967296 :=
  xor_lt _ _ (eat_lt l _ (xor_lt _ _ h (by omega))) (by omega)
theorem eat_append (s : Nat) (a b : List UInt8) : eat s (a ++ b) = eat (eat s a) b := by
  induction a generalizing s with
  | nil => rfl
  | cons x a ih => exact ih _
theorem xor_xor (a b : Nat) : a ^^^ b ^^^ b = a := by rw [Nat.xor_assoc, Nat.xor_self, Nat.xor_zero]
theorem on_nil (c : Nat) : on c [] = c := xor_xor c _
theorem on_append (c : Nat) (a b : List UInt8) : on c (a ++ b) = on (on c a) b := by
  unfold on
  rw [eat_append, xor_xor]

theorem half_xor (a b : Nat) : half (a ^^^ b) = half a ^^^ half b := by
  unfold half
  have h1 : ((a ^^^ b) % 2 = 1) ↔ ¬ ((a % 2 = 1) ↔ (b % 2 = 1)) := Nat.xor_mod_two_eq_one
  have hm : (a ^^^ b) % 2 = (a + b) % 2 := by omega
  have hd : (a ^^^ b) / 2 = a / 2 ^^^ b / 2 := Nat.xor_div_two ..
  rw [hd, hm]
  by_cases ha : a % 2 = 1 <;> by_cases hb : b % 2 = 1
  · have h : ¬ (a + b) % 2 = 1 := by omega
    simp only [ha, hb, h, if_true, if_false]
    rw [show (a / 2 ^^^ 3945912366) ^^^ (b / 2 ^^^ 3945912366) = (a / 2 ^^^ b / 2) ^^^ (3945912366 ^^^ 3945912366) from by ac_rfl, Nat.xor_self, Nat.xor_zero]
  · have h : (a + b) % 2 = 1 := by omega
    simp only [ha, hb, h, if_true, if_false]
    ac_rfl
  · have h : (a + b) % 2 = 1 := by omega
    simp only [ha, hb, h, if_true, if_false]
    ac_rfl
  · have h : ¬ (a + b) % 2 = 1 := by omega
    simp only [ha, hb, h, if_false]
theorem halves_xor (n a b : Nat) : halves n (a ^^^ b) = halves n a ^^^ halves n b := by
  induction n generalizing a b with
  | zero => rfl
  | succ n ih => show halves n (half (a ^^^ b)) = _; rw [half_xor]; exact ih _ _
theorem half_double (y : Nat) : half (2 * y) = y := by
  unfold half
  rw [if_neg (by omega)]
  omega
theorem halves_shift (j y : Nat) : halves j (2 ^ j * y) = y := by
  induction j generalizing y with
  | zero => simp [halves]
  | succ j ih =>
    show halves j (half (2 ^ (j + 1) * y)) = y
    rw [show 2 ^ (j + 1) * y = 2 * (2 ^ j * y) from by rw [Nat.pow_succ]; ac_rfl, half_double]
    exact ih y
theorem half_ne (s : Nat) (h : s < 4294967296) (h0 : s ≠ 0) : half s ≠ 0 := by
  unfold half
  split
  · intro e
    have : s / 2 = 3945912366 := by
      have := congrArg (· ^^^ 3945912366) e
      simp only [xor_xor, Nat.zero_xor] at this
      exact this
    omega
  · omega
theorem halves_ne : ∀ (n s : Nat), s < 4294967296 → s ≠ 0 → halves n s ≠ 0
  | 0, _, _, h0 => h0
  | n + 1, s, h, h0 => halves_ne n (half s) (half_lt s h) (half_ne s h h0)
/-- A BURST WITHIN 32 BITS NEVER VANISHES. -/
theorem burst (m j y : Nat) (hy : y < 4294967296) (h0 : y ≠ 0) : halves m (2 ^ j * y) ≠ 0 := by
  by_cases h : j ≤ m
  · obtain ⟨k, rfl⟩ : ∃ k, m = j + k := ⟨m - j, by omega⟩
    rw [halves_add, halves_shift]
    exact halves_ne k y hy h0
  · obtain ⟨k, rfl⟩ : ∃ k, j = m + k := ⟨j - m, by omega⟩
    rw [show 2 ^ (m + k) * y = 2 ^ m * (2 ^ k * y) from by rw [Nat.pow_add]; ac_rfl, halves_shift]
    have : 0 < 2 ^ k * y := Nat.mul_pos (Nat.two_pow_pos k) (by omega)
    omega
theorem halves_zero (m : Nat) : halves m 0 = 0 := by
  induction m with
  | zero => rfl
  | succ m ih => exact ih

theorem low_xor (b M : Nat) (h : b < 256) : b + 256 * M = b ^^^ 256 * M := by
  have h1 : 256 * M = 2 ^ 8 * M := by omega
  rw [h1, Nat.add_comm, Nat.xor_comm]
  have := Nat.two_pow_add_eq_or_of_lt (i := 8) (b := b) (by omega) M
  rw [this]
  apply Nat.eq_of_testBit_eq
  intro i
  rw [Nat.testBit_or, Nat.testBit_xor]
  by_cases hi : i < 8
  · rw [Nat.testBit_two_pow_mul]
    simp [show ¬ (8 ≤ i) from by omega]
  · have : b.testBit i = false := Nat.testBit_lt_two_pow (Nat.lt_of_lt_of_le h (by
      have : 2 ^ 8 ≤ 2 ^ i := Nat.pow_le_pow_right (by omega) (by omega)
      simpa using this))
    simp [this]
theorem eat_le (s : Nat) (l : List UInt8) : eat s l = halves (8 * l.length) (le l ^^^ s) := by
  induction l generalizing s with
  | nil =>
    show s = halves (8 * 0) (0 ^^^ s)
    rw [Nat.mul_zero, Nat.zero_xor, halves]
  | cons b l ih =>
    show eat (halves 8 (s ^^^ b.toNat)) l = _
    have e : halves 8 (le (b :: l) ^^^ s) = le l ^^^ halves 8 (s ^^^ b.toNat) := by
      rw [le, low_xor _ _ b.toNat_lt, show (b.toNat ^^^ 256 * le l) ^^^ s = (2 ^ 8 * le l) ^^^ (s ^^^ b.toNat) from by rw [show 2 ^ 8 = 256 from rfl]; ac_rfl, halves_xor 8 (2 ^ 8 * le l), halves_shift]
    rw [ih, show 8 * (b :: l).length = 8 + 8 * l.length from by simp; omega, halves_add, e]
theorem le_lt (l : List UInt8) : le l < 2 ^ (8 * l.length) := by
  induction l with
  | nil => simp [le]
  | cons b l ih =>
    have hb := b.toNat_lt
    show b.toNat + 256 * le l < _
    rw [show 8 * (b :: l).length = 8 + 8 * l.length from by simp; omega, Nat.pow_add]
    omega
theorem le_append (a b : List UInt8) : le (a ++ b) = le a + 2 ^ (8 * a.length) * le b := by
  induction a with
  | nil => simp [le]
  | cons x a ih =>
    show x.toNat + 256 * le (a ++ b) = x.toNat + 256 * le a + _
    rw [ih, show 8 * (x :: a).length = 8 + 8 * a.length from by simp; omega, Nat.pow_add, Nat.mul_add]
    have : 256 * (2 ^ (8 * a.length) * le b) = 2 ^ 8 * 2 ^ (8 * a.length) * le b := by rw [Nat.mul_assoc]
    omega
/-- TWO TEXTS OF ONE LENGTH THAT DIFFER BY A BURST WITHIN 32 BITS HAVE ONE SUM JUST WHERE THE BURST IS NONE. -/
theorem unlike (c : Nat) (p q : List UInt8) (j y : Nat) (hl : q.length = p.length) (hq : le q = le p ^^^ (2 ^ j * y)) (hy : y < 4294967296) : on c p = on c q ↔ y = 0 := by
  unfold on
  constructor
  · intro h
    have h1 : eat (c ^^^ 4294967295) p = eat (c ^^^ 4294967295) q := by
      have := congrArg (· ^^^ 4294967295) h
      simpa only [xor_xor] using this
    rw [eat_le, eat_le, hl, hq, show (le p ^^^ 2 ^ j * y) ^^^ (c ^^^ 4294967295) = (le p ^^^ (c ^^^ 4294967295)) ^^^ (2 ^ j * y) from by ac_rfl, halves_xor _ (le p ^^^ (c ^^^ 4294967295))] at h1
    by_cases h0 : y = 0
    · exact h0
    · refine absurd ?_ (burst (8 * p.length) j y hy h0)
      have := congrArg (halves (8 * p.length) (le p ^^^ (c ^^^ 4294967295)) ^^^ ·) h1
      simp only [Nat.xor_self, ← Nat.xor_assoc, Nat.zero_xor] at this
      exact this.symm
  · intro h
    subst h
    rw [eat_le, eat_le, hl, hq]
    simp
/-- low bytes of a sum, the lowest first -/
def four (c : Nat) : List UInt8 := [UInt8.ofNat c, UInt8.ofNat (c / 256), UInt8.ofNat (c / 65536), UInt8.ofNat (c / 16777216)]
theorem le_four (c : Nat) (h : c < 4294967296) : le (four c) = c := by
  simp only [four, le, UInt8.toNat_ofNat']
  omega
theorem four_le (l : List UInt8) (h : l.length = 4) : four (le l) = l := by
  match l, h with
  | [a, b, c, d], _ =>
    have ha := a.toNat_lt
    have hb := b.toNat_lt
    have hc := c.toNat_lt
    have hd := d.toNat_lt
    simp only [four, le]
    have e1 : UInt8.ofNat (a.toNat + 256 * (b.toNat + 256 * (c.toNat + 256 * (d.toNat + 256 * 0)))) = a := UInt8.toNat_inj.1 (by rw [UInt8.toNat_ofNat']; omega)
    have e2 : UInt8.ofNat ((a.toNat + 256 * (b.toNat + 256 * (c.toNat + 256 * (d.toNat + 256 * 0)))) / 256) = b := UInt8.toNat_inj.1 (by rw [UInt8.toNat_ofNat']; omega)
    have e3 : UInt8.ofNat ((a.toNat + 256 * (b.toNat + 256 * (c.toNat + 256 * (d.toNat + 256 * 0)))) / 65536) = c := UInt8.toNat_inj.1 (by rw [UInt8.toNat_ofNat']; omega)
    have e4 : UInt8.ofNat ((a.toNat + 256 * (b.toNat + 256 * (c.toNat + 256 * (d.toNat + 256 * 0)))) / 16777216) = d := UInt8.toNat_inj.1 (by rw [UInt8.toNat_ofNat']; omega)
    rw [e1, e2, e3, e4]
def sealed (p : List UInt8) : List UInt8 := p ++ four (on 0 p)
/-- is b sealed? (of four bytes and more) -/
def good (b : List UInt8) : Bool := on 0 (b.take (b.length - 4)) == le (b.drop (b.length - 4))
theorem good_halves (b : List UInt8) (h : 4 ≤ b.length) : good b = true ↔ halves (8 * (b.length - 4)) (le b ^^^ 4294967295) = 4294967295 := by
  have hb : le b = le (b.take (b.length - 4)) + 2 ^ (8 * (b.length - 4)) * le (b.drop (b.length - 4)) := by
    have := le_append (b.take (b.length - 4)) (b.drop (b.length - 4))
    rw [List.take_append_drop, List.length_take, Nat.min_eq_left (by omega)] at this
    exact this
  have hlt := le_lt (b.take (b.length - 4))
  rw [List.length_take, Nat.min_eq_left (by omega)] at hlt
  have hx : le b = le (b.take (b.length - 4)) ^^^ 2 ^ (8 * (b.length - 4)) * le (b.drop (b.length - 4)) := by
    rw [hb, Nat.add_comm, Nat.two_pow_add_eq_or_of_lt hlt, Nat.xor_comm]
    apply Nat.eq_of_testBit_eq
    intro i
    rw [Nat.testBit_or, Nat.testBit_xor]
    by_cases hi : i < 8 * (b.length - 4)
    · rw [Nat.testBit_two_pow_mul]
      simp [show ¬ (8 * (b.length - 4) ≤ i) from by omega]
    · have : (le (b.take (b.length - 4))).testBit i = false := Nat.testBit_lt_two_pow (Nat.lt_of_lt_of_le hlt (Nat.pow_le_pow_right (by omega) (by omega)))
      simp [this]
  unfold good on
  rw [beq_iff_eq, eat_le, List.length_take, Nat.min_eq_left (by omega), hx]
  rw [show (le (b.take (b.length - 4)) ^^^ 2 ^ (8 * (b.length - 4)) * le (b.drop (b.length - 4))) ^^^ 4294967295 = (le (b.take (b.length - 4)) ^^^ (0 ^^^ 4294967295)) ^^^ (2 ^ (8 * (b.length - 4)) * le (b.drop (b.length - 4))) from by rw [Nat.zero_xor]; ac_rfl]
  rw [halves_xor _ (le (b.take (b.length - 4)) ^^^ (0 ^^^ 4294967295)) (2 ^ (8 * (b.length - 4)) * le (b.drop (b.length - 4))), halves_shift]
  generalize halves (8 * (b.length - 4)) (le (b.take (b.length - 4)) ^^^ (0 ^^^ 4294967295)) = x
  generalize le (b.drop (b.length - 4)) = y
  constructor
  · intro e
    rw [← e, ← Nat.xor_assoc, Nat.xor_self, Nat.zero_xor]
  · intro e
    rw [← e, ← Nat.xor_assoc, Nat.xor_self, Nat.zero_xor]
theorem sealed_length (p : List UInt8) : (sealed p).length = p.length + 4 := by simp [sealed, four]
theorem good_sealed (p : List UInt8) : good (sealed p) = true := by
  unfold good
  rw [sealed_length, Nat.add_sub_cancel]
  unfold sealed
  rw [List.take_left, List.drop_left, le_four _ (on_lt 0 p (by omega))]
  simp
/-- SEALED BYTES OF WHICH A BURST WITHIN 32 BITS IS TURNED ARE GOOD JUST WHERE THE BURST IS NONE. -/
theorem turned (p b : List UInt8) (j y : Nat) (hl : b.length = p.length + 4) (hb : le b = le (sealed p) ^^^ (2 ^ j * y)) (hy : y < 4294967296) : good b = true ↔ y = 0 := by
  have h1 := (good_halves (sealed p) (by rw [sealed_length]; omega)).1 (good_sealed p)
  rw [sealed_length, Nat.add_sub_cancel] at h1
  rw [good_halves b (by omega), hl, Nat.add_sub_cancel, hb, show (le (sealed p) ^^^ 2 ^ j * y) ^^^ 4294967295 = (le (sealed p) ^^^ 4294967295) ^^^ (2 ^ j * y) from by ac_rfl, halves_xor, h1]
  constructor
  · intro h
    by_cases h0 : y = 0
    · exact h0
    · refine absurd ?_ (burst (8 * p.length) j y hy h0)
      have := congrArg (4294967295 ^^^ ·) h
      simp only [← Nat.xor_assoc, Nat.xor_self, Nat.zero_xor] at this
      exact this
  · intro h
    subst h
    rw [Nat.mul_zero, halves_zero, Nat.xor_zero]

end Go.Proofs.Ytagjbjppddbalaa.Crc
