/- PLAIN LEAN: amounts: what fits, products and bounds; no Go here. (Mny's first part.) -/
import Derived.WalkKit
namespace Go.Proofs.Ytgnepgkmjgpkeaa.Mn

/-! ### bounds -/
def Fit (x : Int) : Prop := -9223372036854775808 ≤ x ∧ x ≤ 9223372036854775807
instance (x : Int) : Decidable (Fit x) := inferInstanceAs (Decidable (_ ∧ _))
def amt (x : Int) : Int := if Fit x then x else 0
def err (x : Int) : Int := if Fit x then 0 else 7
theorem amt_fit {x : Int} (h : Fit x) : amt x = x := if_pos h
theorem err_fit {x : Int} (h : Fit x) : err x = 0 := if_pos h
theorem amt_not {x : Int} (h : ¬ Fit x) : amt x = 0 := if_neg h
theorem err_not {x : Int} (h : ¬ Fit x) : err x = 7 := if_neg h
theorem amt_fits (x : Int) : Fit (amt x) := by
  unfold amt
  split
  · assumption
  · exact ⟨by omega, by omega⟩
theorem err_two (x : Int) : err x = 0 ∨ err x = 7 := by
  unfold err
  split
  · exact .inl rfl
  · exact .inr rfl

/-! ### products -/
theorem tdiv_pp (m b : Int) (h0 : 0 ≤ m) : m.tdiv b = m / b := Int.tdiv_eq_ediv_of_nonneg h0
theorem tdiv_pn (m b : Int) (h0 : 0 ≤ m) : m.tdiv (-b) = -(m / b) := by rw [Int.tdiv_neg, tdiv_pp m b h0]
theorem le_div (m b x : Int) (hb : 0 < b) : x ≤ m / b ↔ x * b ≤ m := Int.le_ediv_iff_mul_le hb
/-- both above 0 -/
theorem fits_pp (a b : Int) (_ha : 0 < a) (hb : 0 < b) : a ≤ (9223372036854775807 : Int).tdiv b ↔ a * b ≤ 9223372036854775807 := by
  rw [tdiv_pp _ _ (by omega), le_div _ _ _ hb]
/-- the first above 0, the other below -/
theorem fits_pn (a b : Int) (ha : 0 < a) : -(9223372036854775808 : Int).tdiv a ≤ b ↔ -9223372036854775808 ≤ a * b := by
  have h := le_div 9223372036854775808 a (-b) ha
  rw [tdiv_pp _ _ (by omega)]
  rw [Int.neg_mul, Int.mul_comm b a] at h
  omega
theorem fits_np (a b : Int) (hb : 0 < b) : -(9223372036854775808 : Int).tdiv b ≤ a ↔ -9223372036854775808 ≤ a * b := by
  rw [fits_pn b a hb, Int.mul_comm]
theorem fits_nn (a b : Int) (hb : b < 0) : (9223372036854775807 : Int).tdiv b ≤ a ↔ a * b ≤ 9223372036854775807 := by
  have h := le_div 9223372036854775807 (-b) (-a) (by omega)
  have e : (9223372036854775807 : Int).tdiv b = -(9223372036854775807 / (-b)) := by
    have := tdiv_pn 9223372036854775807 (-b) (by omega)
    rwa [Int.neg_neg] at this
  rw [e]
  rw [Int.neg_mul_neg] at h
  omega
theorem tdiv_small (m b : Int) (h0 : 0 ≤ m) (hb : b ≠ 0) : -m ≤ m.tdiv b ∧ m.tdiv b ≤ m := by
  rcases Int.lt_or_gt_of_ne hb with h | h
  · have e := tdiv_pn m (-b) h0
    rw [Int.neg_neg] at e
    have h1 : m / (-b) ≤ m := Int.ediv_le_self _ h0
    have h2 : 0 ≤ m / (-b) := Int.ediv_nonneg h0 (by omega)
    omega
  · have e := tdiv_pp m b h0
    have h1 : m / b ≤ m := Int.ediv_le_self _ h0
    have h2 : 0 ≤ m / b := Int.ediv_nonneg h0 (by omega)
    omega
theorem tdiv_pos (m b : Int) (h0 : 0 ≤ m) (hb : 0 < b) : 0 ≤ m.tdiv b ∧ m.tdiv b ≤ m := by
  rw [tdiv_pp m b h0]
  exact ⟨Int.ediv_nonneg h0 (by omega), Int.ediv_le_self _ h0⟩
theorem mul_pos {a b : Int} (ha : 0 < a) (hb : 0 < b) : 0 < a * b := Int.mul_pos ha hb
theorem mul_pn {a b : Int} (ha : 0 < a) (hb : b < 0) : a * b < 0 := Int.mul_neg_of_pos_of_neg ha hb
theorem mul_np {a b : Int} (ha : a < 0) (hb : 0 < b) : a * b < 0 := Int.mul_neg_of_neg_of_pos ha hb
theorem mul_nn {a b : Int} (ha : a < 0) (hb : b < 0) : 0 < a * b := Int.mul_pos_of_neg_of_neg ha hb

end Go.Proofs.Ytgnepgkmjgpkeaa.Mn
