/- PLAIN MATHEMATICS OF A TURNED BIT. -/
import Derived.Test.YtehdhhmaijogbaaCrc
namespace Go.Proofs.Ytehdhhmaijogbaa.Crc

theorem mul_xor (i a b : Nat) : 2 ^ i * (a ^^^ b) = 2 ^ i * a ^^^ 2 ^ i * b := by
  apply Nat.eq_of_testBit_eq
  intro j
  rw [Nat.testBit_xor, Nat.testBit_two_pow_mul, Nat.testBit_two_pow_mul, Nat.testBit_two_pow_mul, Nat.testBit_xor]
  cases decide (i ≤ j) <;> simp
theorem add_xor (i a b : Nat) (h : b < 2 ^ i) : 2 ^ i * a + b = 2 ^ i * a ^^^ b := by
  rw [Nat.two_pow_add_eq_or_of_lt h]
  apply Nat.eq_of_testBit_eq
  intro j
  rw [Nat.testBit_or, Nat.testBit_xor]
  by_cases hi : j < i
  · rw [Nat.testBit_two_pow_mul]
    simp [show ¬ (i ≤ j) from by omega]
  · have : b.testBit j = false := Nat.testBit_lt_two_pow (Nat.lt_of_lt_of_le h (Nat.pow_le_pow_right (by omega) (by omega)))
    simp [this]
/-- the byte x with its bit r turned -/
def flipB (x : UInt8) (r : Nat) : UInt8 := UInt8.ofNat (x.toNat ^^^ 2 ^ r)
theorem flipB_toNat (x : UInt8) (r : Nat) (hr : r < 8) : (flipB x r).toNat = x.toNat ^^^ 2 ^ r := by
  unfold flipB
  rw [UInt8.toNat_ofNat']
  have : x.toNat ^^^ 2 ^ r < 2 ^ 8 := Nat.xor_lt_two_pow x.toNat_lt (Nat.pow_lt_pow_right (by omega) hr)
  exact Nat.mod_eq_of_lt this
theorem le_flip : ∀ (l : List UInt8) (j r : Nat) (hj : j < l.length), r < 8 → le (l.set j (flipB l[j] r)) = le l ^^^ 2 ^ (8 * j + r)
  | [], j, r, hj, _ => by simp at hj
  | b :: l, 0, r, _, hr => by
    show (flipB b r).toNat + 256 * le l = (b.toNat + 256 * le l) ^^^ 2 ^ (8 * 0 + r)
    have h1 := (flipB b r).toNat_lt
    rw [low_xor _ _ h1, low_xor _ _ b.toNat_lt, flipB_toNat b r hr, Nat.mul_zero, Nat.zero_add]
    ac_rfl
  | b :: l, j + 1, r, hj, hr => by
    have hj' : j < l.length := by simpa using hj
    have ih := le_flip l j r hj' hr
    show b.toNat + 256 * le (l.set j (flipB l[j] r)) = (b.toNat + 256 * le l) ^^^ 2 ^ (8 * (j + 1) + r)
    rw [ih, low_xor _ _ b.toNat_lt, low_xor _ _ b.toNat_lt, show 256 = 2 ^ 8 from rfl, mul_xor, show 8 * (j + 1) + r = 8 + (8 * j + r) from by omega, Nat.pow_add 2 8, Nat.xor_assoc]
/-- one bit more of the burst -/
theorem more (M j y k : Nat) (hy : y < 2 ^ k) : (M ^^^ 2 ^ j * y) ^^^ 2 ^ (j + k) = M ^^^ 2 ^ j * (2 ^ k + y) := by
  have h := add_xor k 1 y hy
  rw [Nat.mul_one] at h
  rw [h, mul_xor, Nat.pow_add]
  ac_rfl
/-- what the loop holds behind k rounds: the burst so far is y -/
structure Turned (p xs : List UInt8) (bit k y : Nat) : Prop where
  len : xs.length = p.length
  small : y < 2 ^ k
  sum : le xs = le p ^^^ 2 ^ bit * y
theorem Turned.keep {p xs : List UInt8} {bit k y : Nat} (h : Turned p xs bit k y) : Turned p xs bit (k + 1) y :=
  ⟨h.len, Nat.lt_of_lt_of_le h.small (Nat.pow_le_pow_right (by omega) (by omega)), h.sum⟩
theorem Turned.flip {p xs : List UInt8} {bit k y : Nat} (h : Turned p xs bit k y) (hj : (bit + k) / 8 < xs.length) :
    Turned p (xs.set ((bit + k) / 8) (flipB xs[(bit + k) / 8] ((bit + k) % 8))) bit (k + 1) (2 ^ k + y) := by
  refine ⟨by simpa using h.len, ?_, ?_⟩
  · have := h.small
    rw [Nat.pow_succ]
    omega
  · rw [le_flip _ _ _ hj (by omega), h.sum, show 8 * ((bit + k) / 8) + (bit + k) % 8 = bit + k from by omega, more _ _ _ _ h.small]
theorem Turned.start (p : List UInt8) (bit : Nat) : Turned p p bit 0 0 := ⟨rfl, by simp, by simp⟩

end Go.Proofs.Ytehdhhmaijogbaa.Crc
