/- PLAIN LEAN: shares, rounded half up; no Go here. -/
import Derived.WalkKit
namespace Go.Proofs.Ytobemghdcbjjfab.Sh

/-- bp parts of u, which has all of them, rounded half up -/
def sh (u bp all : Nat) : Nat := (2 * (u * bp) + all) / (2 * all)
theorem sh_split (u bp all : Nat) (h : 0 < all) : sh u bp all = u / all * bp + (2 * (u % all) * bp + all) / (2 * all) := by
  have e : 2 * (u * bp) + all = 2 * all * (u / all * bp) + (2 * (u % all) * bp + all) := by
    have h1 : u = all * (u / all) + u % all := (Nat.div_add_mod u all).symm
    have h2 : u * bp = all * (u / all * bp) + u % all * bp := by
      have h3 : u * bp = (all * (u / all) + u % all) * bp := by rw [← h1]
      rw [h3, Nat.add_mul, Nat.mul_assoc]
    rw [h2, Nat.mul_assoc 2 all, Nat.mul_assoc 2 (u % all)]
    omega
  unfold sh
  rw [e, Nat.mul_add_div (by omega)]
theorem sh_half (r bp : Nat) : (2 * r * bp + 10000) / 20000 = (r * bp + 5000) / 10000 := by
  rw [Nat.mul_assoc]
  omega
theorem last_le (r bp all : Nat) (hr : r < all) : (2 * r * bp + all) / (2 * all) ≤ bp := by
  have h1 : 2 * r * bp + all < 2 * all * (bp + 1) := by
    have h2 : r * bp ≤ all * bp := Nat.mul_le_mul_right _ (by omega)
    rw [Nat.mul_assoc, Nat.mul_assoc 2 all, Nat.mul_add, Nat.mul_one]
    omega
  have := (Nat.div_lt_iff_lt_mul (k := 2 * all) (by omega) (x := 2 * r * bp + all) (y := bp + 1)).2 (by rw [Nat.mul_comm (bp + 1)]; exact h1)
  omega
/-- what Within takes is never above the amount -/
theorem within_le (u bp : Nat) : sh u bp (10000 + bp) ≤ u := by
  have h : 2 * (u * bp) + (10000 + bp) < (u + 1) * (2 * (10000 + bp)) := by
    rw [Nat.add_mul, Nat.one_mul, Nat.mul_left_comm u 2, Nat.mul_add u]
    omega
  have := (Nat.div_lt_iff_lt_mul (k := 2 * (10000 + bp)) (by omega)).2 h
  unfold sh
  omega
theorem within_lt (u bp : Nat) (hb : bp ≤ 100000) (hu : 6 ≤ u) : sh u bp (10000 + bp) < u := by
  unfold sh
  rw [Nat.div_lt_iff_lt_mul (by omega), Nat.mul_left_comm u 2, Nat.mul_add u]
  omega
theorem within_fits (u bp : Nat) (hb : bp ≤ 100000) (hu : u ≤ 9223372036854775808) : sh u bp (10000 + bp) ≤ 9223372036854775807 := by
  have h1 := within_le u bp
  by_cases h : 6 ≤ u
  · have := within_lt u bp hb h
    omega
  · omega
/-- of a greater amount, and with a greater rate -/
theorem sh_rises {u v p q : Nat} (all : Nat) (hu : u ≤ v) (hp : p ≤ q) : sh u p all ≤ sh v q all := by
  have h : u * p ≤ v * q := Nat.mul_le_mul hu hp
  exact Nat.div_le_div_right (by omega)
theorem within_rises {u v p q : Nat} (hu : u ≤ v) (hp : p ≤ q) : sh u p (10000 + p) ≤ sh v q (10000 + q) := by
  obtain ⟨s, hs⟩ : ∃ s, sh u p (10000 + p) = s := ⟨_, rfl⟩
  rw [hs]
  have h1 : s * (2 * (10000 + p)) ≤ 2 * (u * p) + (10000 + p) := by
    rw [← hs]
    exact Nat.div_mul_le_self _ _
  unfold sh
  rw [Nat.le_div_iff_mul_le (by omega)]
  by_cases h0 : s = 0
  · subst h0; omega
  have hsu : s ≤ u := by rw [← hs]; exact within_le u p
  obtain ⟨d, rfl⟩ : ∃ d, u = s + d := ⟨u - s, by omega⟩
  obtain ⟨f, rfl⟩ : ∃ f, v = s + f := ⟨v - s, by omega⟩
  have e1 : s * (2 * (10000 + p)) = 20000 * s + 2 * (s * p) := by rw [Nat.mul_left_comm s 2, Nat.mul_add s]; omega
  have e2 : s * (2 * (10000 + q)) = 20000 * s + 2 * (s * q) := by rw [Nat.mul_left_comm s 2, Nat.mul_add s]; omega
  have h4 : d * p ≤ f * q := Nat.mul_le_mul (by omega) hp
  rw [e1, Nat.add_mul s d] at h1
  rw [e2, Nat.add_mul s f]
  omega
/-- off by a half at most -/
theorem sh_off (u bp : Nat) : 10000 * sh u bp 10000 ≤ u * bp + 5000 ∧ u * bp < 10000 * sh u bp 10000 + 5000 := by
  unfold sh
  omega
theorem sh_mod (u bp : Nat) (h : u ≤ 35184372088832) (hb : bp ≤ 100000) : sh u bp 10000 ≤ 9223372036854775807 := by
  have := sh_off u bp
  have h1 : u * bp ≤ 35184372088832 * 100000 := Nat.mul_le_mul h hb
  omega
/-- what is taken out, and the share of what is left -/
theorem inside (k r : Nat) (hr : r ≤ 10000) : sh (k - sh k r (10000 + r)) r 10000 ≤ sh k r (10000 + r) + 1 ∧ sh k r (10000 + r) ≤ sh (k - sh k r (10000 + r)) r 10000 + 1 := by
  have hle := within_le k r
  obtain ⟨t, ht⟩ : ∃ t, sh k r (10000 + r) = t := ⟨_, rfl⟩
  have h1 : t * (2 * (10000 + r)) ≤ 2 * (k * r) + (10000 + r) := by
    rw [← ht]
    exact Nat.div_mul_le_self _ _
  have h2 : 2 * (k * r) + (10000 + r) < (t + 1) * (2 * (10000 + r)) := by
    rw [← ht]
    have h3 := Nat.lt_mul_div_succ (2 * (k * r) + (10000 + r)) (show 0 < 2 * (10000 + r) by omega)
    rw [Nat.mul_comm (2 * (10000 + r))] at h3
    exact h3
  rw [ht] at hle ⊢
  obtain ⟨d, rfl⟩ : ∃ d, k = t + d := ⟨k - t, by omega⟩
  rw [show t + d - t = d by omega]
  have h3 := sh_off d r
  have e1 : t * (2 * (10000 + r)) = 20000 * t + 2 * (t * r) := by rw [Nat.mul_left_comm t 2, Nat.mul_add t]; omega
  rw [Nat.add_mul t 1, Nat.one_mul, e1, Nat.add_mul t d] at h2
  rw [e1, Nat.add_mul t d] at h1
  omega
/-- the shares of two amounts -/
theorem parts (m n r : Nat) : sh (m + n) r 10000 ≤ sh m r 10000 + sh n r 10000 + 1 ∧ sh m r 10000 + sh n r 10000 ≤ sh (m + n) r 10000 + 1 := by
  have h1 := sh_off m r
  have h2 := sh_off n r
  have h3 := sh_off (m + n) r
  rw [Nat.add_mul] at h3
  omega
theorem sh_whole (u : Nat) : sh u 10000 10000 = u := by
  unfold sh
  omega
theorem sh_none (u all : Nat) (h : 0 < all) : sh u 0 all = 0 := by
  unfold sh
  rw [Nat.mul_zero, Nat.mul_zero, Nat.zero_add]
  exact Nat.div_eq_of_lt (by omega)

/-! ### the two answers -/
def side (n : Int) (s : Nat) : Int := if n < 0 then -(s : Int) else (s : Int)
def val (n : Int) (bp all : Nat) : Int := if sh n.natAbs bp all ≤ 9223372036854775807 then side n (sh n.natAbs bp all) else 0
def why (n : Int) (bp all : Nat) : Int := if sh n.natAbs bp all ≤ 9223372036854775807 then 0 else 7
def Right (bp : Int) : Prop := 0 ≤ bp ∧ bp ≤ 100000
instance (x : Int) : Decidable (Right x) := inferInstanceAs (Decidable (_ ∧ _))
def taxV (n bp : Int) : Int := if Right bp then val n bp.toNat 10000 else 0
def taxE (n bp : Int) : Int := if Right bp then why n bp.toNat 10000 else 1
def inV (n bp : Int) : Int := if Right bp then val n bp.toNat (10000 + bp.toNat) else 0
def inE (n bp : Int) : Int := if Right bp then why n bp.toNat (10000 + bp.toNat) else 1
theorem side_neg (n : Int) (s : Nat) (h : n ≠ 0 ∨ s = 0) : side (-n) s = -side n s := by
  unfold side
  by_cases h1 : n < 0
  · rw [if_pos h1, if_neg (by omega)]; omega
  · rw [if_neg h1]
    by_cases h2 : -n < 0
    · rw [if_pos h2]
    · rw [if_neg h2]; omega
theorem sh_zero (bp all : Nat) (h : 0 < all) : sh 0 bp all = 0 := by
  unfold sh
  rw [Nat.zero_mul, Nat.mul_zero, Nat.zero_add]
  exact Nat.div_eq_of_lt (by omega)
theorem val_neg (n : Int) (bp all : Nat) (h : 0 < all) : val (-n) bp all = -val n bp all := by
  unfold val
  rw [Int.natAbs_neg]
  split
  · apply side_neg
    by_cases h0 : n = 0
    · subst h0; exact .inr (sh_zero bp all h)
    · exact .inl h0
  · rfl
theorem why_neg (n : Int) (bp all : Nat) : why (-n) bp all = why n bp all := by
  unfold why
  rw [Int.natAbs_neg]
theorem tax_neg (n bp : Int) : taxV (-n) bp = -taxV n bp ∧ taxE (-n) bp = taxE n bp := by
  unfold taxV taxE
  split
  · exact ⟨val_neg _ _ _ (by omega), why_neg _ _ _⟩
  · exact ⟨rfl, rfl⟩
theorem in_neg (n bp : Int) : inV (-n) bp = -inV n bp ∧ inE (-n) bp = inE n bp := by
  unfold inV inE
  split
  · exact ⟨val_neg _ _ _ (by omega), why_neg _ _ _⟩
  · exact ⟨rfl, rfl⟩
theorem val_nat (u bp all : Nat) (h : sh u bp all ≤ 9223372036854775807) : val (u : Int) bp all = (sh u bp all : Int) ∧ why (u : Int) bp all = 0 := by
  unfold val why side
  rw [Int.natAbs_natCast, if_pos h, if_pos h, if_neg (by omega)]
  exact ⟨rfl, rfl⟩
theorem tax_nat (u r : Nat) (hr : r ≤ 100000) (h : u ≤ 35184372088832) : taxV u r = (sh u r 10000 : Int) ∧ taxE u r = 0 := by
  unfold taxV taxE
  rw [if_pos ⟨by omega, by omega⟩, if_pos ⟨by omega, by omega⟩, Int.toNat_natCast]
  exact val_nat _ _ _ (sh_mod u r h hr)
theorem in_nat (u r : Nat) (hr : r ≤ 100000) (h : u ≤ 9223372036854775807) : inV u r = (sh u r (10000 + r) : Int) ∧ inE u r = 0 := by
  unfold inV inE
  rw [if_pos ⟨by omega, by omega⟩, if_pos ⟨by omega, by omega⟩, Int.toNat_natCast]
  exact val_nat _ _ _ (within_fits u r hr (by omega))
theorem in_why (n bp : Int) (h : Right bp) (h0 : -9223372036854775808 ≤ n) (h1 : n ≤ 9223372036854775807) : inE n bp = 0 := by
  unfold inE why
  rw [if_pos h, if_pos (within_fits _ _ (by unfold Right at h; omega) (by omega))]
theorem side_zero (n : Int) : side n 0 = 0 := by
  unfold side
  split <;> rfl
theorem tax_whole (n : Int) (h0 : -9223372036854775808 < n) (h1 : n ≤ 9223372036854775807) : taxV n 10000 = n ∧ taxE n 10000 = 0 := by
  have e : sh n.natAbs (10000 : Int).toNat 10000 = n.natAbs := sh_whole _
  have h : Right 10000 := ⟨by omega, by omega⟩
  unfold taxV taxE val why
  rw [e, if_pos h, if_pos h, if_pos (show n.natAbs ≤ 9223372036854775807 by omega), if_pos (show n.natAbs ≤ 9223372036854775807 by omega)]
  unfold side
  refine ⟨?_, rfl⟩
  split <;> omega
theorem tax_none (n : Int) : taxV n 0 = 0 ∧ taxE n 0 = 0 := by
  have e : sh n.natAbs (0 : Int).toNat 10000 = 0 := sh_none _ _ (by omega)
  have h : Right 0 := ⟨by omega, by omega⟩
  unfold taxV taxE val why
  rw [e, if_pos h, if_pos h, if_pos (Nat.zero_le _), if_pos (Nat.zero_le _)]
  exact ⟨side_zero n, rfl⟩
theorem in_none (n : Int) : inV n 0 = 0 ∧ inE n 0 = 0 := by
  have e : sh n.natAbs (0 : Int).toNat (10000 + (0 : Int).toNat) = 0 := sh_none _ _ (by omega)
  have h : Right 0 := ⟨by omega, by omega⟩
  unfold inV inE val why
  rw [e, if_pos h, if_pos h, if_pos (Nat.zero_le _), if_pos (Nat.zero_le _)]
  exact ⟨side_zero n, rfl⟩
theorem tax_bad (n bp : Int) : taxE n bp = 1 ↔ ¬ Right bp := by
  unfold taxE why
  by_cases h : Right bp
  · rw [if_pos h]
    constructor
    · intro h1
      split at h1 <;> omega
    · exact fun h2 => absurd h h2
  · rw [if_neg h]
    exact ⟨fun _ => h, fun _ => rfl⟩
theorem in_bad (n bp : Int) : inE n bp = 1 ↔ ¬ Right bp := by
  unfold inE why
  by_cases h : Right bp
  · rw [if_pos h]
    constructor
    · intro h1
      split at h1 <;> omega
    · exact fun h2 => absurd h h2
  · rw [if_neg h]
    exact ⟨fun _ => h, fun _ => rfl⟩
end Go.Proofs.Ytobemghdcbjjfab.Sh
