/- MERGED: MnyN, Shr, Iv, IvB, IvH, IvL, TtK, TtS. (By mg11.py.) -/
import Derived.WalkKit
import Derived.Test.YthcaecinjmnlbabHa
import Derived.Test.YthcaecinjmnlbabHb
/- PLAIN LEAN: amounts: what fits, products and bounds; no Go here. (Mny's first part.) -/
namespace Go.Proofs.Ythcaecinjmnlbab.Mn

/-! ### bounds -/
def Fit (x : Int) : Prop := -9223372036854775808 ≤ x ∧ x ≤ 9223372036854775807
instance (x : Int) : Decidable (Fit x) := inferInstanceAs (Decidable (_ ∧ _))
def amt (x : Int) : Int := if Fit x then x else 0
def err (x : Int) : Int := if Fit x then 0 else 7
theorem amt_fit {x : Int} (h : Fit x) : amt x = x := if_pos h
theorem err_fit {x : Int} (h : Fit x) : err x = 0 := if_pos h
theorem amt_not {x : Int} (h : ¬ Fit x) : amt x = 0 := if_neg h
theorem err_not {x : Int} (h : ¬ Fit x) : err x = 7 := if_neg h
theorem amt_fits (x : Int) : Fit (amt x) := by
  unfold amt
  split
  · assumption
  · exact ⟨by omega, by omega⟩
theorem err_two (x : Int) : err x = 0 ∨ err x = 7 := by
  unfold err
  split
  · exact .inl rfl
  · exact .inr rfl

/-! ### products -/
theorem tdiv_pp (m b : Int) (h0 : 0 ≤ m) : m.tdiv b = m / b := Int.tdiv_eq_ediv_of_nonneg h0
theorem tdiv_pn (m b : Int) (h0 : 0 ≤ m) : m.tdiv (-b) = -(m / b) := by rw [Int.tdiv_neg, tdiv_pp m b h0]
theorem le_div (m b x : Int) (hb : 0 < b) : x ≤ m / b ↔ x * b ≤ m := Int.le_ediv_iff_mul_le hb
/-- both above 0 -/
theorem fits_pp (a b : Int) (_ha : 0 < a) (hb : 0 < b) : a ≤ (9223372036854775807 : Int).tdiv b ↔ a * b ≤ 9223372036854775807 := by
  rw [tdiv_pp _ _ (by omega), le_div _ _ _ hb]
/-- the first above 0, the other below -/
theorem fits_pn (a b : Int) (ha : 0 < a) : -(9223372036854775808 : Int).tdiv a ≤ b ↔ -9223372036854775808 ≤ a * b := by
  have h := le_div 9223372036854775808 a (-b) ha
  rw [tdiv_pp _ _ (by omega)]
  rw [Int.neg_mul, Int.mul_comm b a] at h
  omega
theorem fits_np (a b : Int) (hb : 0 < b) : -(9223372036854775808 : Int).tdiv b ≤ a ↔ -9223372036854775808 ≤ a * b := by
  rw [fits_pn b a hb, Int.mul_comm]
theorem fits_nn (a b : Int) (hb : b < 0) : (9223372036854775807 : Int).tdiv b ≤ a ↔ a * b ≤ 9223372036854775807 := by
  have h := le_div 9223372036854775807 (-b) (-a) (by omega)
  have e : (9223372036854775807 : Int).tdiv b = -(9223372036854775807 / (-b)) := by
    have := tdiv_pn 9223372036854775807 (-b) (by omega)
    rwa [Int.neg_neg] at this
  rw [e]
  rw [Int.neg_mul_neg] at h
  omega
theorem tdiv_small (m b : Int) (h0 : 0 ≤ m) (hb : b ≠ 0) : -m ≤ m.tdiv b ∧ m.tdiv b ≤ m := by
  rcases Int.lt_or_gt_of_ne hb with h | h
  · have e := tdiv_pn m (-b) h0
    rw [Int.neg_neg] at e
    have h1 : m / (-b) ≤ m := Int.ediv_le_self _ h0
    have h2 : 0 ≤ m / (-b) := Int.ediv_nonneg h0 (by omega)
    omega
  · have e := tdiv_pp m b h0
    have h1 : m / b ≤ m := Int.ediv_le_self _ h0
    have h2 : 0 ≤ m / b := Int.ediv_nonneg h0 (by omega)
    omega
theorem tdiv_pos (m b : Int) (h0 : 0 ≤ m) (hb : 0 < b) : 0 ≤ m.tdiv b ∧ m.tdiv b ≤ m := by
  rw [tdiv_pp m b h0]
  exact ⟨Int.ediv_nonneg h0 (by omega), Int.ediv_le_self _ h0⟩
theorem mul_pos {a b : Int} (ha : 0 < a) (hb : 0 < b) : 0 < a * b := Int.mul_pos ha hb
theorem mul_pn {a b : Int} (ha : 0 < a) (hb : b < 0) : a * b < 0 := Int.mul_neg_of_pos_of_neg ha hb
theorem mul_np {a b : Int} (ha : a < 0) (hb : 0 < b) : a * b < 0 := Int.mul_neg_of_neg_of_pos ha hb
theorem mul_nn {a b : Int} (ha : a < 0) (hb : b < 0) : 0 < a * b := Int.mul_pos_of_neg_of_neg ha hb

end Go.Proofs.Ythcaecinjmnlbab.Mn

/- PLAIN LEAN: shares, rounded half up; no Go here. -/
namespace Go.Proofs.Ythcaecinjmnlbab.Sh

/-- bp parts of u, which has all of them, rounded half up -/
def sh (u bp all : Nat) : Nat := (2 * (u * bp) + all) / (2 * all)
theorem sh_split (u bp all : Nat) (h : 0 < all) : sh u bp all = u / all * bp + (2 * (u % all) * bp + all) / (2 * all) := by
  have e : 2 * (u * bp) + all = 2 * all * (u / all * bp) + (2 * (u % all) * bp + all) := by
    have h1 : u = all * (u / all) + u % all := (Nat.div_add_mod u all).symm
    have h2 : u * bp = all * (u / all * bp) + u % all * bp := by
      have h3 : u * bp = (all * (u / all) + u % all) * bp := by rw [← h1]
      rw [h3, Nat.add_mul, Nat.mul_assoc]
    rw [h2, Nat.mul_assoc 2 all, Nat.mul_assoc 2 (u % all)]
    omega
  unfold sh
  rw [e, Nat.mul_add_div (by omega)]
theorem sh_half (r bp : Nat) : (2 * r * bp + 10000) / 20000 = (r * bp + 5000) / 10000 := by
  rw [Nat.mul_assoc]
  omega
theorem last_le (r bp all : Nat) (hr : r < all) : (2 * r * bp + all) / (2 * all) ≤ bp := by
  have h1 : 2 * r * bp + all < 2 * all * (bp + 1) := by
    have h2 : r * bp ≤ all * bp := Nat.mul_le_mul_right _ (by omega)
    rw [Nat.mul_assoc, Nat.mul_assoc 2 all, Nat.mul_add, Nat.mul_one]
    omega
  have := (Nat.div_lt_iff_lt_mul (k := 2 * all) (by omega) (x := 2 * r * bp + all) (y := bp + 1)).2 (by rw [Nat.mul_comm (bp + 1)]; exact h1)
  omega
/-- what Within takes is never above the amount -/
theorem within_le (u bp : Nat) : sh u bp (10000 + bp) ≤ u := by
  have h : 2 * (u * bp) + (10000 + bp) < (u + 1) * (2 * (10000 + bp)) := by
    rw [Nat.add_mul, Nat.one_mul, Nat.mul_left_comm u 2, Nat.mul_add u]
    omega
  have := (Nat.div_lt_iff_lt_mul (k := 2 * (10000 + bp)) (by omega)).2 h
  unfold sh
  omega
theorem within_lt (u bp : Nat) (hb : bp ≤ 100000) (hu : 6 ≤ u) : sh u bp (10000 + bp) < u := by
  unfold sh
  rw [Nat.div_lt_iff_lt_mul (by omega), Nat.mul_left_comm u 2, Nat.mul_add u]
  omega
theorem within_fits (u bp : Nat) (hb : bp ≤ 100000) (hu : u ≤ 9223372036854775808) : sh u bp (10000 + bp) ≤ 9223372036854775807 := by
  have h1 := within_le u bp
  by_cases h : 6 ≤ u
  · have := within_lt u bp hb h
    omega
  · omega
/-- of a greater amount, and with a greater rate -/
theorem sh_rises {u v p q : Nat} (all : Nat) (hu : u ≤ v) (hp : p ≤ q) : sh u p all ≤ sh v q all := by
  have h : u * p ≤ v * q := Nat.mul_le_mul hu hp
  exact Nat.div_le_div_right (by omega)
theorem within_rises {u v p q : Nat} (hu : u ≤ v) (hp : p ≤ q) : sh u p (10000 + p) ≤ sh v q (10000 + q) := by
  obtain ⟨s, hs⟩ : ∃ s, sh u p (10000 + p) = s := ⟨_, rfl⟩
  rw [hs]
  have h1 : s * (2 * (10000 + p)) ≤ 2 * (u * p) + (10000 + p) := by
    rw [← hs]
    exact Nat.div_mul_le_self _ _
  unfold sh
  rw [Nat.le_div_iff_mul_le (by omega)]
  by_cases h0 : s = 0
  · subst h0; omega
  have hsu : s ≤ u := by rw [← hs]; exact within_le u p
  obtain ⟨d, rfl⟩ : ∃ d, u = s + d := ⟨u - s, by omega⟩
  obtain ⟨f, rfl⟩ : ∃ f, v = s + f := ⟨v - s, by omega⟩
  have e1 : s * (2 * (10000 + p)) = 20000 * s + 2 * (s * p) := by rw [Nat.mul_left_comm s 2, Nat.mul_add s]; omega
  have e2 : s * (2 * (10000 + q)) = 20000 * s + 2 * (s * q) := by rw [Nat.mul_left_comm s 2, Nat.mul_add s]; omega
  have h4 : d * p ≤ f * q := Nat.mul_le_mul (by omega) hp
  rw [e1, Nat.add_mul s d] at h1
  rw [e2, Nat.add_mul s f]
  omega
/-- off by a half at most -/
theorem sh_off (u bp : Nat) : 10000 * sh u bp 10000 ≤ u * bp + 5000 ∧ u * bp < 10000 * sh u bp 10000 + 5000 := by
  unfold sh
  omega
theorem sh_mod (u bp : Nat) (h : u ≤ 35184372088832) (hb : bp ≤ 100000) : sh u bp 10000 ≤ 9223372036854775807 := by
  have := sh_off u bp
  have h1 : u * bp ≤ 35184372088832 * 100000 := Nat.mul_le_mul h hb
  omega
/-- what is taken out, and the share of what is left -/
theorem inside (k r : Nat) (hr : r ≤ 10000) : sh (k - sh k r (10000 + r)) r 10000 ≤ sh k r (10000 + r) + 1 ∧ sh k r (10000 + r) ≤ sh (k - sh k r (10000 + r)) r 10000 + 1 := by
  have hle := within_le k r
  obtain ⟨t, ht⟩ : ∃ t, sh k r (10000 + r) = t := ⟨_, rfl⟩
  have h1 : t * (2 * (10000 + r)) ≤ 2 * (k * r) + (10000 + r) := by
    rw [← ht]
    exact Nat.div_mul_le_self _ _
  have h2 : 2 * (k * r) + (10000 + r) < (t + 1) * (2 * (10000 + r)) := by
    rw [← ht]
    have h3 := Nat.lt_mul_div_succ (2 * (k * r) + (10000 + r)) (show 0 < 2 * (10000 + r) by omega)
    rw [Nat.mul_comm (2 * (10000 + r))] at h3
    exact h3
  rw [ht] at hle ⊢
  obtain ⟨d, rfl⟩ : ∃ d, k = t + d := ⟨k - t, by omega⟩
  rw [show t + d - t = d by omega]
  have h3 := sh_off d r
  have e1 : t * (2 * (10000 + r)) = 20000 * t + 2 * (t * r) := by rw [Nat.mul_left_comm t 2, Nat.mul_add t]; omega
  rw [Nat.add_mul t 1, Nat.one_mul, e1, Nat.add_mul t d] at h2
  rw [e1, Nat.add_mul t d] at h1
  omega
/-- the shares of two amounts -/
theorem parts (m n r : Nat) : sh (m + n) r 10000 ≤ sh m r 10000 + sh n r 10000 + 1 ∧ sh m r 10000 + sh n r 10000 ≤ sh (m + n) r 10000 + 1 := by
  have h1 := sh_off m r
  have h2 := sh_off n r
  have h3 := sh_off (m + n) r
  rw [Nat.add_mul] at h3
  omega
theorem sh_whole (u : Nat) : sh u 10000 10000 = u := by
  unfold sh
  omega
theorem sh_none (u all : Nat) (h : 0 < all) : sh u 0 all = 0 := by
  unfold sh
  rw [Nat.mul_zero, Nat.mul_zero, Nat.zero_add]
  exact Nat.div_eq_of_lt (by omega)

/-! ### the two answers -/
def side (n : Int) (s : Nat) : Int := if n < 0 then -(s : Int) else (s : Int)
def val (n : Int) (bp all : Nat) : Int := if sh n.natAbs bp all ≤ 9223372036854775807 then side n (sh n.natAbs bp all) else 0
def why (n : Int) (bp all : Nat) : Int := if sh n.natAbs bp all ≤ 9223372036854775807 then 0 else 7
def Right (bp : Int) : Prop := 0 ≤ bp ∧ bp ≤ 100000
instance (x : Int) : Decidable (Right x) := inferInstanceAs (Decidable (_ ∧ _))
def taxV (n bp : Int) : Int := if Right bp then val n bp.toNat 10000 else 0
def taxE (n bp : Int) : Int := if Right bp then why n bp.toNat 10000 else 1
def inV (n bp : Int) : Int := if Right bp then val n bp.toNat (10000 + bp.toNat) else 0
def inE (n bp : Int) : Int := if Right bp then why n bp.toNat (10000 + bp.toNat) else 1
theorem side_neg (n : Int) (s : Nat) (h : n ≠ 0 ∨ s = 0) : side (-n) s = -side n s := by
  unfold side
  by_cases h1 : n < 0
  · rw [if_pos h1, if_neg (by omega)]; omega
  · rw [if_neg h1]
    by_cases h2 : -n < 0
    · rw [if_pos h2]
    · rw [if_neg h2]; omega
theorem sh_zero (bp all : Nat) (h : 0 < all) : sh 0 bp all = 0 := by
  unfold sh
  rw [Nat.zero_mul, Nat.mul_zero, Nat.zero_add]
  exact Nat.div_eq_of_lt (by omega)
theorem val_neg (n : Int) (bp all : Nat) (h : 0 < all) : val (-n) bp all = -val n bp all := by
  unfold val
  rw [Int.natAbs_neg]
  split
  · apply side_neg
    by_cases h0 : n = 0
    · subst h0; exact .inr (sh_zero bp all h)
    · exact .inl h0
  · rfl
theorem why_neg (n : Int) (bp all : Nat) : why (-n) bp all = why n bp all := by
  unfold why
  rw [Int.natAbs_neg]
theorem tax_neg (n bp : Int) : taxV (-n) bp = -taxV n bp ∧ taxE (-n) bp = taxE n bp := by
  unfold taxV taxE
  split
  · exact ⟨val_neg _ _ _ (by omega), why_neg _ _ _⟩
  · exact ⟨rfl, rfl⟩
theorem in_neg (n bp : Int) : inV (-n) bp = -inV n bp ∧ inE (-n) bp = inE n bp := by
  unfold inV inE
  split
  · exact ⟨val_neg _ _ _ (by omega), why_neg _ _ _⟩
  · exact ⟨rfl, rfl⟩
theorem val_nat (u bp all : Nat) (h : sh u bp all ≤ 9223372036854775807) : val (u : Int) bp all = (sh u bp all : Int) ∧ why (u : Int) bp all = 0 := by
  unfold val why side
  rw [Int.natAbs_natCast, if_pos h, if_pos h, if_neg (by omega)]
  exact ⟨rfl, rfl⟩
theorem tax_nat (u r : Nat) (hr : r ≤ 100000) (h : u ≤ 35184372088832) : taxV u r = (sh u r 10000 : Int) ∧ taxE u r = 0 := by
  unfold taxV taxE
  rw [if_pos ⟨by omega, by omega⟩, if_pos ⟨by omega, by omega⟩, Int.toNat_natCast]
  exact val_nat _ _ _ (sh_mod u r h hr)
theorem in_nat (u r : Nat) (hr : r ≤ 100000) (h : u ≤ 9223372036854775807) : inV u r = (sh u r (10000 + r) : Int) ∧ inE u r = 0 := by
  unfold inV inE
  rw [if_pos ⟨by omega, by omega⟩, if_pos ⟨by omega, by omega⟩, Int.toNat_natCast]
  exact val_nat _ _ _ (within_fits u r hr (by omega))
theorem in_why (n bp : Int) (h : Right bp) (h0 : -9223372036854775808 ≤ n) (h1 : n ≤ 9223372036854775807) : inE n bp = 0 := by
  unfold inE why
  rw [if_pos h, if_pos (within_fits _ _ (by unfold Right at h; omega) (by omega))]
theorem side_zero (n : Int) : side n 0 = 0 := by
  unfold side
  split <;> rfl
theorem tax_whole (n : Int) (h0 : -9223372036854775808 < n) (h1 : n ≤ 9223372036854775807) : taxV n 10000 = n ∧ taxE n 10000 = 0 := by
  have e : sh n.natAbs (10000 : Int).toNat 10000 = n.natAbs := sh_whole _
  have h : Right 10000 := ⟨by omega, by omega⟩
  unfold taxV taxE val why
  rw [e, if_pos h, if_pos h, if_pos (show n.natAbs ≤ 9223372036854775807 by omega), if_pos (show n.natAbs ≤ 9223372036854775807 by omega)]
  unfold side
  refine ⟨?_, rfl⟩
  split <;> omega
theorem tax_none (n : Int) : taxV n 0 = 0 ∧ taxE n 0 = 0 := by
  have e : sh n.natAbs (0 : Int).toNat 10000 = 0 := sh_none _ _ (by omega)
  have h : Right 0 := ⟨by omega, by omega⟩
  unfold taxV taxE val why
  rw [e, if_pos h, if_pos h, if_pos (Nat.zero_le _), if_pos (Nat.zero_le _)]
  exact ⟨side_zero n, rfl⟩
theorem in_none (n : Int) : inV n 0 = 0 ∧ inE n 0 = 0 := by
  have e : sh n.natAbs (0 : Int).toNat (10000 + (0 : Int).toNat) = 0 := sh_none _ _ (by omega)
  have h : Right 0 := ⟨by omega, by omega⟩
  unfold inV inE val why
  rw [e, if_pos h, if_pos h, if_pos (Nat.zero_le _), if_pos (Nat.zero_le _)]
  exact ⟨side_zero n, rfl⟩
theorem tax_bad (n bp : Int) : taxE n bp = 1 ↔ ¬ Right bp := by
  unfold taxE why
  by_cases h : Right bp
  · rw [if_pos h]
    constructor
    · intro h1
      split at h1 <;> omega
    · exact fun h2 => absurd h h2
  · rw [if_neg h]
    exact ⟨fun _ => h, fun _ => rfl⟩
theorem in_bad (n bp : Int) : inE n bp = 1 ↔ ¬ Right bp := by
  unfold inE why
  by_cases h : Right bp
  · rw [if_pos h]
    constructor
    · intro h1
      split at h1 <;> omega
    · exact fun h2 => absurd h h2
  · rw [if_neg h]
    exact ⟨fun _ => h, fun _ => rfl⟩
end Go.Proofs.Ythcaecinjmnlbab.Sh

/- PLAIN LEAN: what an invoice comes to: lines, parts, sums; no Go walked here. -/
set_option linter.unusedVariables false
namespace Go.Proofs.Ythcaecinjmnlbab.Iv
open Vt (Rt)

/-! ### names byte by byte -/
def lt (a b : ByteArray) : Bool := Op.bytesLess a.toList b.toList
theorem lt_trans {a b c : ByteArray} (h : lt a b = true) (k : lt b c = true) : lt a c = true := Vt.less_trans _ _ _ h k
theorem lt_irrefl (a : ByteArray) : lt a a = false := Vt.less_irrefl _
theorem lt_tri (a b : ByteArray) : lt a b = true ∨ a = b ∨ lt b a = true := by
  rcases Vt.less_tri a.toList b.toList with h | h | h
  · exact .inl h
  · exact .inr (.inl (Vt.cat_ext h))
  · exact .inr (.inr h)
theorem lt_ne {a b : ByteArray} (h : lt a b = true) : a ≠ b := by
  rintro rfl
  rw [lt_irrefl] at h
  cases h
theorem lt_asymm {a b : ByteArray} (h : lt a b = true) : lt b a = false := by
  rw [Bool.eq_false_iff]
  intro k
  have := lt_trans h k
  rw [lt_irrefl] at this
  cases this

/-! ### parts by rising categories -/
def Sorted (l : List Pt.T) : Prop := l.Pairwise fun a b => lt a.cat b.cat = true
def spot (c : ByteArray) : List Pt.T → Nat
  | [] => 0
  | a :: l => if lt a.cat c = true then spot c l + 1 else 0
theorem spot_le (c : ByteArray) : ∀ l, spot c l ≤ l.length
  | [] => Nat.le_refl _
  | a :: l => by
    have := spot_le c l
    unfold spot
    split
    · simp; omega
    · simp
theorem spot_at (c : ByteArray) (l : List Pt.T) (k : Nat) (h : k < l.length) : spot c (l.drop k) = if lt l[k].cat c = true then spot c (l.drop (k + 1)) + 1 else 0 := by
  rw [List.drop_eq_getElem_cons h]
  rfl
/-- is there a part of that category? -/
def has (c : ByteArray) : List Pt.T → Bool
  | [] => false
  | a :: l => if lt a.cat c = true then has c l else decide (a.cat = c)
theorem has_spot (c : ByteArray) : ∀ l : List Pt.T, has c l = match l[spot c l]? with | none => false | some a => decide (a.cat = c)
  | [] => rfl
  | a :: l => by
    unfold has spot
    by_cases h : lt a.cat c = true
    · rw [if_pos h, if_pos h, has_spot c l, List.getElem?_cons_succ]
    · rw [if_neg h, if_neg h]
      rfl
/-- the part of that category, if there is none a new one -/
def part (c : ByteArray) (bp : Int) : List Pt.T → Pt.T
  | [] => ⟨c, bp, 0, 0⟩
  | a :: l => if lt a.cat c = true then part c bp l else if a.cat = c then a else ⟨c, bp, 0, 0⟩
/-- the parts with one of that category -/
def ins (c : ByteArray) (bp : Int) : List Pt.T → List Pt.T
  | [] => [⟨c, bp, 0, 0⟩]
  | a :: l => if lt a.cat c = true then a :: ins c bp l else if a.cat = c then a :: l else ⟨c, bp, 0, 0⟩ :: a :: l
theorem ins_has {c : ByteArray} {bp : Int} : ∀ {l : List Pt.T}, has c l = true → ins c bp l = l
  | [], h => by cases h
  | a :: l, h => by
    unfold has at h
    unfold ins
    by_cases k : lt a.cat c = true
    · rw [if_pos k] at h ⊢
      rw [ins_has h]
    · rw [if_neg k] at h ⊢
      rw [if_pos (of_decide_eq_true h)]
theorem ins_new {c : ByteArray} {bp : Int} : ∀ {l : List Pt.T}, has c l = false → ins c bp l = l.take (spot c l) ++ ⟨c, bp, 0, 0⟩ :: l.drop (spot c l)
  | [], _ => rfl
  | a :: l, h => by
    unfold has at h
    unfold ins spot
    by_cases k : lt a.cat c = true
    · rw [if_pos k] at h ⊢
      rw [if_pos k, ins_new h]
      rfl
    · rw [if_neg k] at h ⊢
      rw [if_neg k, if_neg (of_decide_eq_false h)]
      rfl
theorem ins_at {c : ByteArray} {bp : Int} : ∀ (l : List Pt.T), (ins c bp l)[spot c l]? = some (part c bp l)
  | [] => rfl
  | a :: l => by
    unfold ins spot part
    by_cases k : lt a.cat c = true
    · rw [if_pos k, if_pos k, if_pos k, List.getElem?_cons_succ, ins_at l]
    · rw [if_neg k, if_neg k, if_neg k]
      by_cases e : a.cat = c
      · rw [if_pos e, if_pos e]
        rfl
      · rw [if_neg e, if_neg e]
        rfl
theorem ins_len {c : ByteArray} {bp : Int} : ∀ (l : List Pt.T), (ins c bp l).length ≤ l.length + 1
  | [] => Nat.le_refl _
  | a :: l => by
    have := ins_len (c := c) (bp := bp) l
    unfold ins
    split
    · simp; omega
    · split <;> simp
theorem ins_lt {c : ByteArray} {bp : Int} (l : List Pt.T) : spot c l < (ins c bp l).length := by
  have := ins_at (c := c) (bp := bp) l
  obtain ⟨h, _⟩ := List.getElem?_eq_some_iff.1 this
  exact h
/-- a part with so much more -/
def more (p : Pt.T) (n : Int) : Pt.T := ⟨p.cat, p.bp, p.net + n, p.tax⟩
/-- an amount entered into the parts -/
def enter (c : ByteArray) (bp n : Int) (l : List Pt.T) : List Pt.T := (ins c bp l).set (spot c l) (more (part c bp l) n)
/-- why it can't be entered -/
def enterE (c : ByteArray) (bp n : Int) (l : List Pt.T) : Int := Mn.err ((part c bp l).net + n)
theorem enter_len {c : ByteArray} {bp n : Int} (l : List Pt.T) : (enter c bp n l).length ≤ l.length + 1 := by
  unfold enter
  rw [List.length_set]
  exact ins_len l

/-! ### line by line -/
/-- what is wrong with a line by itself -/
def lineE (rs : List Rt) (y m d : Int) (x : Ln.T) : Int :=
  if 64 < x.text.size then 2 else if Rn.name (txt x.category) = false then 8 else if x.count < 1 ∨ 1048576 < x.count then 1 else if (Vt.find rs x.category y m d).2 = false then 10 else Mn.err (x.count * x.price)
/-- the lines' first error -/
def goE (rs : List Rt) (y m d : Int) : List Ln.T → List Pt.T → Int
  | [], _ => 0
  | x :: l, ps => if lineE rs y m d x ≠ 0 then lineE rs y m d x else if enterE x.category (Vt.find rs x.category y m d).1 (x.count * x.price) ps ≠ 0 then 7 else goE rs y m d l (enter x.category (Vt.find rs x.category y m d).1 (x.count * x.price) ps)
/-- the parts behind the lines -/
def goL (rs : List Rt) (y m d : Int) : List Ln.T → List Pt.T → List Pt.T
  | [], ps => ps
  | x :: l, ps => goL rs y m d l (enter x.category (Vt.find rs x.category y m d).1 (x.count * x.price) ps)
theorem goE_at (rs : List Rt) (y m d : Int) (ls : List Ln.T) (ps : List Pt.T) (k : Nat) (h : k < ls.length) : goE rs y m d (ls.drop k) ps = if lineE rs y m d ls[k] ≠ 0 then lineE rs y m d ls[k] else if enterE ls[k].category (Vt.find rs ls[k].category y m d).1 (ls[k].count * ls[k].price) ps ≠ 0 then 7 else goE rs y m d (ls.drop (k + 1)) (enter ls[k].category (Vt.find rs ls[k].category y m d).1 (ls[k].count * ls[k].price) ps) := by
  rw [List.drop_eq_getElem_cons h, goE]
theorem goL_at (rs : List Rt) (y m d : Int) (ls : List Ln.T) (ps : List Pt.T) (k : Nat) (h : k < ls.length) : goL rs y m d (ls.drop k) ps = goL rs y m d (ls.drop (k + 1)) (enter ls[k].category (Vt.find rs ls[k].category y m d).1 (ls[k].count * ls[k].price) ps) := by
  rw [List.drop_eq_getElem_cons h, goL]

/-! ### part by part -/
def taxed (p : Pt.T) : Pt.T := ⟨p.cat, p.bp, p.net, Sh.taxV p.net p.bp⟩
/-- the parts' first error -/
def upE : List Pt.T → Int → Int → Int
  | [], _, _ => 0
  | p :: l, N, T => if Sh.taxE p.net p.bp ≠ 0 then Sh.taxE p.net p.bp else if Mn.err (N + p.net) ≠ 0 then 7 else if Mn.err (T + Sh.taxV p.net p.bp) ≠ 0 then 7 else upE l (N + p.net) (T + Sh.taxV p.net p.bp)
def nets : List Pt.T → Int
  | [] => 0
  | p :: l => p.net + nets l
def taxes : List Pt.T → Int
  | [] => 0
  | p :: l => Sh.taxV p.net p.bp + taxes l
theorem upE_at (ps : List Pt.T) (N T : Int) (k : Nat) (h : k < ps.length) : upE (ps.drop k) N T = if Sh.taxE ps[k].net ps[k].bp ≠ 0 then Sh.taxE ps[k].net ps[k].bp else if Mn.err (N + ps[k].net) ≠ 0 then 7 else if Mn.err (T + Sh.taxV ps[k].net ps[k].bp) ≠ 0 then 7 else upE (ps.drop (k + 1)) (N + ps[k].net) (T + Sh.taxV ps[k].net ps[k].bp) := by
  rw [List.drop_eq_getElem_cons h, upE]
theorem nets_at (ps : List Pt.T) (k : Nat) (h : k < ps.length) : nets (ps.drop k) = ps[k].net + nets (ps.drop (k + 1)) := by
  rw [List.drop_eq_getElem_cons h, nets]
theorem taxes_at (ps : List Pt.T) (k : Nat) (h : k < ps.length) : taxes (ps.drop k) = Sh.taxV ps[k].net ps[k].bp + taxes (ps.drop (k + 1)) := by
  rw [List.drop_eq_getElem_cons h, taxes]

/-- the parts of which so many are taxed -/
def mix (ps : List Pt.T) (k : Nat) : List Pt.T := (ps.take k).map taxed ++ ps.drop k
theorem mix_0 (ps : List Pt.T) : mix ps 0 = ps := rfl
theorem mix_all (ps : List Pt.T) : mix ps ps.length = ps.map taxed := by
  unfold mix
  rw [List.take_length, List.drop_length, List.append_nil]
theorem mix_len (ps : List Pt.T) (k : Nat) : (mix ps k).length = ps.length := by
  unfold mix
  rw [List.length_append, List.length_map, List.length_take, List.length_drop]
  omega
theorem mix_at (ps : List Pt.T) (k : Nat) (h : k < ps.length) : (mix ps k)[k]? = some ps[k] := by
  unfold mix
  rw [List.getElem?_append_right (by rw [List.length_map, List.length_take]; omega), List.length_map, List.length_take, Nat.min_eq_left (by omega), Nat.sub_self, List.getElem?_drop, Nat.add_zero, List.getElem?_eq_getElem h]
theorem mix_set (ps : List Pt.T) (k : Nat) (h : k < ps.length) : (mix ps k).set k (taxed ps[k]) = mix ps (k + 1) := by
  unfold mix
  rw [List.set_append_right _ _ (by rw [List.length_map, List.length_take]; omega), List.length_map, List.length_take, Nat.min_eq_left (by omega), Nat.sub_self, List.drop_eq_getElem_cons h, List.set_cons_zero, List.take_succ_eq_append_getElem h, List.map_append]
  simp

/-! ### the whole -/
/-- a total told plainly -/
structure Tot where
  net : Int
  tax : Int
  gross : Int
  parts : List Pt.T
def Tot.zero : Tot := ⟨0, 0, 0, []⟩
def sumE (ps : List Pt.T) : Int := if upE ps 0 0 ≠ 0 then upE ps 0 0 else Mn.err (nets ps + taxes ps)
def sumT (ps : List Pt.T) : Tot := ⟨nets ps, taxes ps, nets ps + taxes ps, ps.map taxed⟩
def headE (rs : List Rt) (y m d : Int) (ls : List Ln.T) : Int := if Vt.tableB rs = false then 1 else if Dt.rightB y m d = false then 9 else if ls.length = 0 then 1 else if 12 < ls.length then 2 else 0
def totE (rs : List Rt) (y m d : Int) (ls : List Ln.T) : Int :=
  if headE rs y m d ls ≠ 0 then headE rs y m d ls else if goE rs y m d ls [] ≠ 0 then goE rs y m d ls [] else sumE (goL rs y m d ls [])
def totT (rs : List Rt) (y m d : Int) (ls : List Ln.T) : Tot := if totE rs y m d ls = 0 then sumT (goL rs y m d ls []) else Tot.zero
theorem tot_head {rs : List Rt} {y m d : Int} {ls : List Ln.T} (h : headE rs y m d ls ≠ 0) : totE rs y m d ls = headE rs y m d ls ∧ totT rs y m d ls = Tot.zero := by
  have e : totE rs y m d ls = headE rs y m d ls := if_pos h
  exact ⟨e, by unfold totT; rw [e, if_neg h]⟩
theorem tot_line {rs : List Rt} {y m d : Int} {ls : List Ln.T} (h : headE rs y m d ls = 0) (k : goE rs y m d ls [] ≠ 0) : totE rs y m d ls = goE rs y m d ls [] ∧ totT rs y m d ls = Tot.zero := by
  have e : totE rs y m d ls = goE rs y m d ls [] := by
    unfold totE
    rw [if_neg (by rw [h]; simp), if_pos k]
  exact ⟨e, by unfold totT; rw [e, if_neg k]⟩
theorem tot_sum {rs : List Rt} {y m d : Int} {ls : List Ln.T} (h : headE rs y m d ls = 0) (k : goE rs y m d ls [] = 0) : totE rs y m d ls = sumE (goL rs y m d ls []) ∧ totT rs y m d ls = if sumE (goL rs y m d ls []) = 0 then sumT (goL rs y m d ls []) else Tot.zero := by
  have e : totE rs y m d ls = sumE (goL rs y m d ls []) := by
    unfold totE
    rw [if_neg (by rw [h]; simp), if_neg (by rw [k]; simp)]
  exact ⟨e, by unfold totT; rw [e]⟩
end Go.Proofs.Ythcaecinjmnlbab.Iv

/- PLAIN LEAN: what takes a total back; no Go walked here. -/
namespace Go.Proofs.Ythcaecinjmnlbab.Iv

def negP (p : Pt.T) : Pt.T := ⟨p.cat, p.bp, -p.net, -p.tax⟩
def back (t : Tot) : Tot := ⟨-t.net, -t.tax, -t.gross, t.parts.map negP⟩
def badP (p : Pt.T) : Bool := decide (Mn.err (-p.net) ≠ 0 ∨ Mn.err (-p.tax) ≠ 0)
def backE (t : Tot) : Int := if Mn.err (-t.net) ≠ 0 ∨ Mn.err (-t.tax) ≠ 0 ∨ Mn.err (-t.gross) ≠ 0 then 7 else if t.parts.any badP = true then 7 else 0
def backT (t : Tot) : Tot := if backE t = 0 then back t else Tot.zero
theorem err_0 {x : Int} (h : Mn.err x = 0) : Mn.Fit x := by
  unfold Mn.err at h
  split at h
  · assumption
  · omega
theorem amt_0 {x : Int} (h : Mn.err (-x) = 0) : Mn.amt (-x) = -x := by
  exact Mn.amt_fit (err_0 h)
theorem back_head {t : Tot} (h : Mn.err (-t.net) ≠ 0 ∨ Mn.err (-t.tax) ≠ 0 ∨ Mn.err (-t.gross) ≠ 0) : backE t = 7 ∧ backT t = Tot.zero := by
  have e : backE t = 7 := if_pos h
  exact ⟨e, by unfold backT; rw [e]; rfl⟩
theorem back_part {t : Tot} (h1 : Mn.err (-t.net) = 0) (h2 : Mn.err (-t.tax) = 0) (h3 : Mn.err (-t.gross) = 0) {p : Pt.T} (hp : p ∈ t.parts) (h : badP p = true) : backE t = 7 ∧ backT t = Tot.zero := by
  have e : backE t = 7 := by
    unfold backE
    rw [if_neg (by rw [h1, h2, h3]; simp), if_pos (List.any_eq_true.2 ⟨p, hp, h⟩)]
  exact ⟨e, by unfold backT; rw [e]; rfl⟩
theorem back_ok {t : Tot} (h1 : Mn.err (-t.net) = 0) (h2 : Mn.err (-t.tax) = 0) (h3 : Mn.err (-t.gross) = 0) (h : ∀ p ∈ t.parts, badP p = false) : backE t = 0 ∧ backT t = back t := by
  have e : backE t = 0 := by
    unfold backE
    rw [if_neg (by rw [h1, h2, h3]; simp), if_neg (by rw [Bool.not_eq_true, List.any_eq_false]; intro p hp; rw [h p hp]; simp)]
  exact ⟨e, by unfold backT; rw [e]; rfl⟩
theorem bad_no {p : Pt.T} (h1 : Mn.err (-p.net) = 0) (h2 : Mn.err (-p.tax) = 0) : badP p = false := decide_eq_false (by rw [h1, h2]; simp)
theorem bad_yes {p : Pt.T} (h : Mn.err (-p.net) ≠ 0 ∨ Mn.err (-p.tax) ≠ 0) : badP p = true := decide_eq_true h
end Go.Proofs.Ythcaecinjmnlbab.Iv

/- PLAIN LEAN: the errors of an invoice, case by case; no Go walked here. -/
set_option linter.unusedVariables false
namespace Go.Proofs.Ythcaecinjmnlbab
open Vt (Rt)

theorem head_1 {rs : List Rt} {y m d : Int} {ls : List Ln.T} (h : Vt.tableB rs = false) : Iv.headE rs y m d ls = 1 := if_pos h
theorem head_9 {rs : List Rt} {y m d : Int} {ls : List Ln.T} (h : Vt.tableB rs = true) (k : Dt.rightB y m d = false) : Iv.headE rs y m d ls = 9 := by
  unfold Iv.headE
  rw [if_neg (by rw [h]; simp), if_pos k]
theorem head_11 {rs : List Rt} {y m d : Int} {ls : List Ln.T} (h : Vt.tableB rs = true) (k : Dt.rightB y m d = true) (l : ls.length = 0) : Iv.headE rs y m d ls = 1 := by
  unfold Iv.headE
  rw [if_neg (by rw [h]; simp), if_neg (by rw [k]; simp), if_pos l]
theorem head_2 {rs : List Rt} {y m d : Int} {ls : List Ln.T} (h : Vt.tableB rs = true) (k : Dt.rightB y m d = true) (l : ls.length ≠ 0) (n : 12 < ls.length) : Iv.headE rs y m d ls = 2 := by
  unfold Iv.headE
  rw [if_neg (by rw [h]; simp), if_neg (by rw [k]; simp), if_neg l, if_pos n]
theorem head_0 {rs : List Rt} {y m d : Int} {ls : List Ln.T} (h : Vt.tableB rs = true) (k : Dt.rightB y m d = true) (l : ls.length ≠ 0) (n : ¬ 12 < ls.length) : Iv.headE rs y m d ls = 0 := by
  unfold Iv.headE
  rw [if_neg (by rw [h]; simp), if_neg (by rw [k]; simp), if_neg l, if_neg n]
theorem tax_fit (n bp : Int) : Fit (Sh.taxV n bp) := by
  have h0 : Fit 0 := ⟨by omega, by omega⟩
  unfold Sh.taxV
  split
  · unfold Sh.val
    split
    · unfold Sh.side
      split
      · exact ⟨by omega, by omega⟩
      · exact ⟨by omega, by omega⟩
    · exact h0
  · exact h0
theorem err_7 {x : Int} (h : Mn.err x = 7) : ¬ Mn.Fit x := by
  intro k
  rw [Mn.err_fit k] at h
  omega
theorem sum_err {rs : List Rt} {y m d : Int} {ls : List Ln.T} {ps : List Pt.T} {E : Int} (h : Iv.totE rs y m d ls = Iv.sumE ps ∧ Iv.totT rs y m d ls = if Iv.sumE ps = 0 then Iv.sumT ps else Iv.Tot.zero) (k : Iv.upE ps 0 0 = E) (hE : E ≠ 0) : Iv.totE rs y m d ls = E ∧ Iv.totT rs y m d ls = Iv.Tot.zero := by
  have e : Iv.sumE ps = E := by
    unfold Iv.sumE
    rw [k, if_pos hE]
  rw [h.1, h.2, e, if_neg hE]
  exact ⟨rfl, rfl⟩
section
variable {rs : List Rt} {y m d : Int} {x : Ln.T}
theorem line_2 (h : 64 < x.text.size) : Iv.lineE rs y m d x = 2 := if_pos h
theorem line_8 (h : ¬ 64 < x.text.size) (k : Rn.name (txt x.category) = false) : Iv.lineE rs y m d x = 8 := by
  unfold Iv.lineE
  rw [if_neg h, if_pos k]
theorem line_1 (h : ¬ 64 < x.text.size) (k : Rn.name (txt x.category) = true) (l : x.count < 1 ∨ 1048576 < x.count) : Iv.lineE rs y m d x = 1 := by
  unfold Iv.lineE
  rw [if_neg h, if_neg (by rw [k]; simp), if_pos l]
theorem line_10 (h : ¬ 64 < x.text.size) (k : Rn.name (txt x.category) = true) (l : ¬ (x.count < 1 ∨ 1048576 < x.count)) (n : (Vt.find rs x.category y m d).2 = false) : Iv.lineE rs y m d x = 10 := by
  unfold Iv.lineE
  rw [if_neg h, if_neg (by rw [k]; simp), if_neg l, if_pos n]
theorem line_err (h : ¬ 64 < x.text.size) (k : Rn.name (txt x.category) = true) (l : ¬ (x.count < 1 ∨ 1048576 < x.count)) (n : (Vt.find rs x.category y m d).2 = true) : Iv.lineE rs y m d x = Mn.err (x.count * x.price) := by
  unfold Iv.lineE
  rw [if_neg h, if_neg (by rw [k]; simp), if_neg l, if_neg (by rw [n]; simp)]
end
end Go.Proofs.Ythcaecinjmnlbab

/- PLAIN LEAN: laws of invoices: parts rise, the order of lines, prices taken off 0, bounds; no Go walked here. -/
set_option linter.unusedVariables false
namespace Go.Proofs.Ythcaecinjmnlbab.Iv
open Vt (Rt)

/-! ### an amount entered -/
theorem enter_nil (c : ByteArray) (bp n : Int) : enter c bp n [] = [⟨c, bp, 0 + n, 0⟩] := rfl
theorem enter_cons (c : ByteArray) (bp n : Int) (a : Pt.T) (l : List Pt.T) : enter c bp n (a :: l) = if lt a.cat c = true then a :: enter c bp n l else if a.cat = c then more a n :: l else ⟨c, bp, 0 + n, 0⟩ :: a :: l := by
  unfold enter
  rw [ins, spot, part]
  by_cases h : lt a.cat c = true
  · rw [if_pos h, if_pos h, if_pos h, if_pos h]
    rfl
  · rw [if_neg h, if_neg h, if_neg h, if_neg h]
    by_cases k : a.cat = c
    · rw [if_pos k, if_pos k, if_pos k]
      rfl
    · rw [if_neg k, if_neg k, if_neg k]
      rfl
section
variable {c : ByteArray} {bp n : Int} {a : Pt.T} {l : List Pt.T}
theorem enter_lt (h : lt a.cat c = true) : enter c bp n (a :: l) = a :: enter c bp n l := by rw [enter_cons, if_pos h]
theorem enter_eq (h : a.cat = c) : enter c bp n (a :: l) = more a n :: l := by
  rw [enter_cons, if_neg (by rw [h, lt_irrefl]; simp), if_pos h]
theorem enter_gt (h : lt c a.cat = true) : enter c bp n (a :: l) = ⟨c, bp, 0 + n, 0⟩ :: a :: l := by
  rw [enter_cons, if_neg (by rw [lt_asymm h]; simp), if_neg (fun k => lt_ne h k.symm)]
end
theorem more_more (a : Pt.T) (n m : Int) : more (more a n) m = more (more a m) n := by
  unfold more
  simp only [Pt.T.mk.injEq, true_and, and_true]
  omega
theorem enter_comm {c e : ByteArray} {p q : Int} (h : c = e → p = q) (n m : Int) : ∀ l : List Pt.T, enter c p n (enter e q m l) = enter e q m (enter c p n l)
  | [] => by
    rw [enter_nil, enter_nil]
    rcases lt_tri c e with k | k | k
    · rw [enter_gt k, enter_lt k, enter_nil]
    · obtain rfl := k
      obtain rfl := h rfl
      rw [enter_eq (show (Pt.T.mk c p (0 + m) 0).cat = c from rfl), enter_eq (show (Pt.T.mk c p (0 + n) 0).cat = c from rfl)]
      unfold more
      simp only [List.cons.injEq, Pt.T.mk.injEq, true_and, and_true]
      omega
    · rw [enter_lt k, enter_gt k, enter_nil]
  | a :: l => by
    rcases lt_tri a.cat c with k1 | k1 | k1
    · rcases lt_tri a.cat e with k2 | k2 | k2
      · rw [enter_lt k2, enter_lt k1, enter_lt k1, enter_lt k2, enter_comm h n m l]
      · rw [enter_eq k2, enter_lt k1, enter_lt (show lt (more a m).cat c = true from k1), enter_eq k2]
      · have k3 := lt_trans k2 k1
        rw [enter_gt k2, enter_lt k1, enter_lt (show lt (Pt.T.mk e q (0 + m) 0).cat c = true from k3), enter_lt k1, enter_gt k2]
    · rcases lt_tri a.cat e with k2 | k2 | k2
      · rw [enter_lt k2, enter_eq k1, enter_eq k1, enter_lt (show lt (more a n).cat e = true from k2)]
      · rw [enter_eq k2, enter_eq k1, enter_eq (show (more a m).cat = c from k1), enter_eq (show (more a n).cat = e from k2), more_more]
      · have k3 : lt e c = true := k1 ▸ k2
        rw [enter_gt k2, enter_eq k1, enter_lt (show lt (Pt.T.mk e q (0 + m) 0).cat c = true from k3), enter_eq k1, enter_gt (show lt e (more a n).cat = true from k2)]
    · rcases lt_tri a.cat e with k2 | k2 | k2
      · have k3 := lt_trans k1 k2
        rw [enter_lt k2, enter_gt k1, enter_gt k1, enter_lt (show lt (Pt.T.mk c p (0 + n) 0).cat e = true from k3), enter_lt k2]
      · have k3 : lt c e = true := k2 ▸ k1
        rw [enter_eq k2, enter_gt k1, enter_gt (show lt c (more a m).cat = true from k1), enter_lt (show lt (Pt.T.mk c p (0 + n) 0).cat e = true from k3), enter_eq k2]
      · rw [enter_gt k2, enter_gt k1]
        rcases lt_tri c e with k | k | k
        · rw [enter_gt (show lt c (Pt.T.mk e q (0 + m) 0).cat = true from k), enter_lt (show lt (Pt.T.mk c p (0 + n) 0).cat e = true from k), enter_gt k2]
        · obtain rfl := k
          obtain rfl := h rfl
          rw [enter_eq (show (Pt.T.mk c p (0 + m) 0).cat = c from rfl), enter_eq (show (Pt.T.mk c p (0 + n) 0).cat = c from rfl)]
          unfold more
          simp only [List.cons.injEq, Pt.T.mk.injEq, true_and, and_true]
          omega
        · rw [enter_lt (show lt (Pt.T.mk e q (0 + m) 0).cat c = true from k), enter_gt (show lt e (Pt.T.mk c p (0 + n) 0).cat = true from k), enter_gt k1]
theorem goL_perm (rs : List Rt) (y m d : Int) {ls ks : List Ln.T} (h : ls.Perm ks) : ∀ ps, goL rs y m d ls ps = goL rs y m d ks ps := by
  induction h with
  | nil => intro ps; rfl
  | cons x _ ih => intro ps; exact ih _
  | swap a b l =>
    intro ps
    rw [goL, goL, goL, goL, enter_comm (fun h => by rw [h])]
  | trans _ _ ih1 ih2 => intro ps; rw [ih1, ih2]

/-! ### parts rise -/
theorem enter_cats {c : ByteArray} {bp n : Int} : ∀ {l : List Pt.T} {x : Pt.T}, x ∈ enter c bp n l → x.cat = c ∨ ∃ a ∈ l, x.cat = a.cat
  | [], x, h => by
    rw [enter_nil] at h
    obtain rfl := List.mem_singleton.1 h
    exact .inl rfl
  | a :: l, x, h => by
    rcases lt_tri a.cat c with k | k | k
    · rw [enter_lt k] at h
      rcases List.mem_cons.1 h with rfl | h
      · exact .inr ⟨x, by simp, rfl⟩
      · rcases enter_cats h with h | ⟨b, hb, e⟩
        · exact .inl h
        · exact .inr ⟨b, by simp [hb], e⟩
    · rw [enter_eq k] at h
      rcases List.mem_cons.1 h with rfl | h
      · exact .inl k
      · exact .inr ⟨x, by simp [h], rfl⟩
    · rw [enter_gt k] at h
      rcases List.mem_cons.1 h with rfl | h
      · exact .inl rfl
      · exact .inr ⟨x, h, rfl⟩
theorem enter_sorted {c : ByteArray} {bp n : Int} : ∀ {l : List Pt.T}, Sorted l → Sorted (enter c bp n l)
  | [], _ => by
    rw [enter_nil]
    exact List.pairwise_singleton _ _
  | a :: l, h => by
    have h1 := (List.pairwise_cons.1 h).1
    have h2 := (List.pairwise_cons.1 h).2
    rcases lt_tri a.cat c with k | k | k
    · rw [enter_lt k]
      refine List.pairwise_cons.2 ⟨fun x hx => ?_, enter_sorted h2⟩
      rcases enter_cats hx with e | ⟨b, hb, e⟩
      · rw [e]; exact k
      · rw [e]; exact h1 b hb
    · rw [enter_eq k]
      exact List.pairwise_cons.2 ⟨h1, h2⟩
    · rw [enter_gt k]
      refine List.pairwise_cons.2 ⟨fun x hx => ?_, h⟩
      rcases List.mem_cons.1 hx with rfl | hx
      · exact k
      · exact lt_trans k (h1 x hx)
theorem goL_sorted (rs : List Rt) (y m d : Int) : ∀ (ls : List Ln.T) {ps : List Pt.T}, Sorted ps → Sorted (goL rs y m d ls ps)
  | [], _, h => h
  | x :: l, _, h => goL_sorted rs y m d l (enter_sorted h)
theorem enter_pos (c : ByteArray) (bp n : Int) (l : List Pt.T) : 0 < (enter c bp n l).length := by
  have := ins_lt (c := c) (bp := bp) l
  unfold enter
  rw [List.length_set]
  omega
theorem goL_pos (rs : List Rt) (y m d : Int) : ∀ (ls : List Ln.T) {ps : List Pt.T}, (0 < ls.length ∨ 0 < ps.length) → 0 < (goL rs y m d ls ps).length
  | [], _, h => by
    rcases h with h | h
    · simp at h
    · exact h
  | x :: l, _, _ => goL_pos rs y m d l (.inr (enter_pos _ _ _ _))
theorem goL_len (rs : List Rt) (y m d : Int) : ∀ (ls : List Ln.T) (ps : List Pt.T), (goL rs y m d ls ps).length ≤ ls.length + ps.length
  | [], ps => by simp [goL]
  | x :: l, ps => by
    have h1 := goL_len rs y m d l (enter x.category (Vt.find rs x.category y m d).1 (x.count * x.price) ps)
    have h2 := enter_len (c := x.category) (bp := (Vt.find rs x.category y m d).1) (n := x.count * x.price) ps
    rw [goL, List.length_cons]
    omega
theorem sorted_next {l : List Pt.T} (h : Sorted l) (k : Nat) (hk : k + 1 < l.length) : lt l[k].cat l[k + 1].cat = true := List.pairwise_iff_getElem.1 h k (k + 1) (by omega) hk (by omega)

/-! ### none is too large -/
structure Small (x : Ln.T) : Prop where
  c1 : 1 ≤ x.count
  c2 : x.count ≤ 1000
  p1 : -1099511627776 ≤ x.price
  p2 : x.price ≤ 1099511627776
theorem Small.mul {x : Ln.T} (h : Small x) : (x.count * x.price).natAbs ≤ 1099511627776000 := by
  obtain ⟨c1, c2, p1, p2⟩ := h
  have h1 : x.count * x.price ≤ x.count * 1099511627776 := Int.mul_le_mul_of_nonneg_left p2 (by omega)
  have h2 : x.count * (-1099511627776) ≤ x.count * x.price := Int.mul_le_mul_of_nonneg_left p1 (by omega)
  omega
/-- the amounts' sizes together -/
def mag : List Pt.T → Nat
  | [] => 0
  | p :: l => p.net.natAbs + mag l
theorem part_mag (c : ByteArray) (bp : Int) : ∀ l, (part c bp l).net.natAbs ≤ mag l
  | [] => Nat.le_refl _
  | a :: l => by
    have := part_mag c bp l
    rw [part, mag]
    split
    · omega
    · split
      · omega
      · show (0 : Int).natAbs ≤ _
        omega
theorem enter_mag (c : ByteArray) (bp n : Int) : ∀ l, mag (enter c bp n l) ≤ mag l + n.natAbs
  | [] => by
    rw [enter_nil, mag, mag]
    show (0 + n).natAbs + 0 ≤ 0 + n.natAbs
    omega
  | a :: l => by
    have := enter_mag c bp n l
    rcases lt_tri a.cat c with k | k | k
    · rw [enter_lt k, mag, mag]
      omega
    · rw [enter_eq k, mag, mag]
      show (a.net + n).natAbs + mag l ≤ _
      omega
    · rw [enter_gt k, mag]
      show (0 + n).natAbs + mag (a :: l) ≤ _
      omega
/-- the lines' first error, each line by itself -/
def firstE (rs : List Rt) (y m d : Int) : List Ln.T → Int
  | [] => 0
  | x :: l => if lineE rs y m d x ≠ 0 then lineE rs y m d x else firstE rs y m d l
theorem goE_small (rs : List Rt) (y m d : Int) : ∀ (ls : List Ln.T) (ps : List Pt.T), (∀ x ∈ ls, Small x) → mag ps + ls.length * 1099511627776000 ≤ 4611686018427387904 → goE rs y m d ls ps = firstE rs y m d ls
  | [], ps, _, _ => rfl
  | x :: l, ps, h, hm => by
    have hx := (h x (by simp)).mul
    rw [List.length_cons] at hm
    have h1 := part_mag x.category (Vt.find rs x.category y m d).1 ps
    have h2 := enter_mag x.category (Vt.find rs x.category y m d).1 (x.count * x.price) ps
    rw [goE, firstE]
    split
    · rfl
    · rw [if_neg, goE_small rs y m d l _ (fun z hz => h z (by simp [hz])) (by omega)]
      rw [Decidable.not_not]
      exact Mn.err_fit ⟨by omega, by omega⟩
theorem goL_mag (rs : List Rt) (y m d : Int) : ∀ (ls : List Ln.T) (ps : List Pt.T), (∀ x ∈ ls, Small x) → mag (goL rs y m d ls ps) ≤ mag ps + ls.length * 1099511627776000
  | [], ps, _ => by simp [goL]
  | x :: l, ps, h => by
    have hx := (h x (by simp)).mul
    have h2 := enter_mag x.category (Vt.find rs x.category y m d).1 (x.count * x.price) ps
    have h3 := goL_mag rs y m d l (enter x.category (Vt.find rs x.category y m d).1 (x.count * x.price) ps) (fun z hz => h z (by simp [hz]))
    rw [goL, List.length_cons]
    omega
theorem first_iff (rs : List Rt) (y m d : Int) : ∀ ls : List Ln.T, firstE rs y m d ls = 0 ↔ ∀ x ∈ ls, lineE rs y m d x = 0
  | [] => by simp [firstE]
  | x :: l => by
    have ih := first_iff rs y m d l
    rw [firstE]
    by_cases h : lineE rs y m d x = 0
    · rw [if_neg (by rw [h]; simp), ih]
      constructor
      · intro k z hz
        rcases List.mem_cons.1 hz with rfl | hz
        · exact h
        · exact k z hz
      · exact fun k z hz => k z (by simp [hz])
    · rw [if_pos h]
      constructor
      · intro k; exact absurd k h
      · intro k; exact k x (by simp)

/-! ### shares that are not too large -/
theorem tax_mag {n bp : Int} (h : Sh.Right bp) : Sh.sh n.natAbs bp.toNat 10000 ≤ 10 * n.natAbs := by
  have h1 := (Sh.sh_off n.natAbs bp.toNat).1
  have h2 : n.natAbs * bp.toNat ≤ n.natAbs * 100000 := Nat.mul_le_mul_left _ (by have := h.2; omega)
  omega
theorem tax_small {n bp : Int} (h : Sh.Right bp) (hn : n.natAbs ≤ 461168601842738790) : Sh.taxE n bp = 0 ∧ (Sh.taxV n bp).natAbs ≤ 10 * n.natAbs := by
  have h1 := tax_mag (n := n) h
  unfold Sh.taxE Sh.taxV Sh.why Sh.val
  rw [if_pos h, if_pos h, if_pos (by omega), if_pos (by omega)]
  refine ⟨rfl, ?_⟩
  unfold Sh.side
  split <;> omega
def OkB (ps : List Pt.T) : Prop := ∀ p ∈ ps, Sh.Right p.bp
theorem enter_ok {c : ByteArray} {bp n : Int} (hb : Sh.Right bp) : ∀ {l : List Pt.T}, OkB l → OkB (enter c bp n l)
  | [], _ => by
    intro p hp
    rw [enter_nil] at hp
    obtain rfl := List.mem_singleton.1 hp
    exact hb
  | a :: l, h => by
    have h1 : OkB l := fun p hp => h p (by simp [hp])
    rcases lt_tri a.cat c with k | k | k
    · rw [enter_lt k]
      intro p hp
      rcases List.mem_cons.1 hp with rfl | hp
      · exact h _ (by simp)
      · exact enter_ok hb h1 p hp
    · rw [enter_eq k]
      intro p hp
      rcases List.mem_cons.1 hp with rfl | hp
      · exact h a (by simp)
      · exact h1 p hp
    · rw [enter_gt k]
      intro p hp
      rcases List.mem_cons.1 hp with rfl | hp
      · exact hb
      · exact h p hp
theorem upE_small : ∀ (l : List Pt.T) (N T : Int), OkB l → N.natAbs + mag l ≤ 461168601842738790 → T.natAbs + 10 * mag l ≤ 4611686018427387904 → upE l N T = 0
  | [], _, _, _, _, _ => rfl
  | p :: l, N, T, h, hN, hT => by
    rw [mag] at hN hT
    obtain ⟨e, ht⟩ := tax_small (h p (by simp)) (show p.net.natAbs ≤ 461168601842738790 by omega)
    rw [upE, e, if_neg (by simp), if_neg, if_neg]
    · exact upE_small l _ _ (fun q hq => h q (by simp [hq])) (by omega) (by omega)
    · rw [Decidable.not_not]
      exact Mn.err_fit ⟨by omega, by omega⟩
    · rw [Decidable.not_not]
      exact Mn.err_fit ⟨by omega, by omega⟩
theorem nets_mag : ∀ l : List Pt.T, (nets l).natAbs ≤ mag l
  | [] => Nat.le_refl _
  | p :: l => by
    have := nets_mag l
    rw [nets, mag]
    omega
theorem taxes_mag : ∀ l : List Pt.T, OkB l → mag l ≤ 461168601842738790 → (taxes l).natAbs ≤ 10 * mag l
  | [], _, _ => Nat.le_refl _
  | p :: l, h, hm => by
    rw [mag] at hm
    have h1 := taxes_mag l (fun q hq => h q (by simp [hq])) (by omega)
    obtain ⟨_, ht⟩ := tax_small (h p (by simp)) (show p.net.natAbs ≤ 461168601842738790 by omega)
    rw [taxes, mag]
    omega
theorem sumE_small {l : List Pt.T} (h : OkB l) (hm : mag l ≤ 200000000000000000) : sumE l = 0 := by
  have h1 := nets_mag l
  have h2 := taxes_mag l h (by omega)
  unfold sumE
  rw [upE_small l 0 0 h (by show 0 + _ ≤ _; omega) (by show 0 + _ ≤ _; omega), if_neg (by simp)]
  exact Mn.err_fit ⟨by omega, by omega⟩

/-! ### prices taken off 0 -/
def neg (x : Ln.T) : Ln.T := ⟨x.text, x.category, x.count, -x.price⟩
theorem Small.neg {x : Ln.T} (h : Small x) : Small (neg x) := by
  obtain ⟨c1, c2, p1, p2⟩ := h
  exact ⟨c1, c2, by show -1099511627776 ≤ -x.price; omega, by show -x.price ≤ 1099511627776; omega⟩
theorem line_neg {rs : List Rt} {y m d : Int} {x : Ln.T} (h : Small x) : lineE rs y m d (neg x) = lineE rs y m d x := by
  have h1 := h.mul
  have h2 := h.neg.mul
  have e1 : Mn.err ((neg x).count * (neg x).price) = 0 := Mn.err_fit ⟨by omega, by omega⟩
  have e2 : Mn.err (x.count * x.price) = 0 := Mn.err_fit ⟨by omega, by omega⟩
  unfold lineE
  rw [e1, e2]
  rfl
theorem first_neg {rs : List Rt} {y m d : Int} : ∀ {ls : List Ln.T}, (∀ x ∈ ls, Small x) → firstE rs y m d (ls.map neg) = firstE rs y m d ls
  | [], _ => rfl
  | x :: l, h => by
    rw [List.map_cons, firstE, firstE, line_neg (h x (by simp)), first_neg fun z hz => h z (by simp [hz])]
theorem more_neg (a : Pt.T) (n : Int) : more (negP a) (-n) = negP (more a n) := by
  unfold more negP
  simp only [Pt.T.mk.injEq, true_and, and_true]
  omega
theorem new_neg (c : ByteArray) (bp n : Int) : (⟨c, bp, 0 + -n, 0⟩ : Pt.T) = negP ⟨c, bp, 0 + n, 0⟩ := by
  unfold negP
  simp only [Pt.T.mk.injEq, true_and]
  omega
theorem enter_neg (c : ByteArray) (bp n : Int) : ∀ l : List Pt.T, enter c bp (-n) (l.map negP) = (enter c bp n l).map negP
  | [] => by
    rw [List.map_nil, enter_nil, enter_nil, List.map_cons, List.map_nil, new_neg]
  | a :: l => by
    rw [List.map_cons]
    rcases lt_tri a.cat c with k | k | k
    · rw [enter_lt (show lt (negP a).cat c = true from k), enter_lt k, List.map_cons, enter_neg c bp n l]
    · rw [enter_eq (show (negP a).cat = c from k), enter_eq k, List.map_cons, more_neg]
    · rw [enter_gt (show lt c (negP a).cat = true from k), enter_gt k, List.map_cons, List.map_cons, new_neg]
theorem goL_neg (rs : List Rt) (y m d : Int) : ∀ (ls : List Ln.T) (ps : List Pt.T), goL rs y m d (ls.map neg) (ps.map negP) = (goL rs y m d ls ps).map negP
  | [], _ => rfl
  | x :: l, ps => by
    rw [List.map_cons, goL, goL, ← goL_neg rs y m d l]
    have e : (neg x).count * (neg x).price = -(x.count * x.price) := Int.mul_neg _ _
    rw [e]
    show goL rs y m d (l.map neg) (enter x.category (Vt.find rs x.category y m d).1 (-(x.count * x.price)) (ps.map negP)) = _
    rw [enter_neg]
theorem side_neg (n : Int) (s : Nat) (h : n = 0 → s = 0) : Sh.side (-n) s = -Sh.side n s := by
  unfold Sh.side
  split
  · split
    · omega
    · rfl
  · split
    · omega
    · have := h (by omega)
      omega
theorem taxV_neg (n bp : Int) : Sh.taxV (-n) bp = -Sh.taxV n bp := by
  unfold Sh.taxV Sh.val
  rw [Int.natAbs_neg]
  split
  · split
    · refine side_neg n _ fun h => ?_
      subst h
      unfold Sh.sh
      rw [Int.natAbs_zero, Nat.zero_mul]
    · rfl
  · rfl
theorem nets_neg : ∀ l : List Pt.T, nets (l.map negP) = -nets l
  | [] => rfl
  | p :: l => by
    rw [List.map_cons, nets, nets, nets_neg l]
    show -p.net + _ = _
    omega
theorem taxes_neg : ∀ l : List Pt.T, taxes (l.map negP) = -taxes l
  | [] => rfl
  | p :: l => by
    rw [List.map_cons, taxes, taxes, taxes_neg l]
    show Sh.taxV (-p.net) p.bp + _ = _
    rw [taxV_neg]
    omega
theorem taxed_neg (p : Pt.T) : taxed (negP p) = negP (taxed p) := by
  show (⟨p.cat, p.bp, -p.net, Sh.taxV (-p.net) p.bp⟩ : Pt.T) = ⟨p.cat, p.bp, -p.net, -Sh.taxV p.net p.bp⟩
  rw [taxV_neg]
theorem sumT_neg (l : List Pt.T) : sumT (l.map negP) = back (sumT l) := by
  unfold sumT back
  rw [nets_neg, taxes_neg, List.map_map, List.map_map]
  simp only [Tot.mk.injEq, true_and]
  refine ⟨by omega, ?_⟩
  exact List.map_congr_left fun p _ => taxed_neg p
theorem negP_negP (p : Pt.T) : negP (negP p) = p := by
  unfold negP
  simp
theorem back_back (t : Tot) : back (back t) = t := by
  obtain ⟨a, b, c, l⟩ := t
  unfold back
  simp only [Tot.mk.injEq, Int.neg_neg, true_and]
  rw [List.map_map, show negP ∘ negP = id from funext negP_negP, List.map_id]
end Go.Proofs.Ythcaecinjmnlbab.Iv

/- api.Total: IN A BLOCK OF ITS OWN: three numbers and the slice of its parts. -/
namespace Go.Proofs.Ythcaecinjmnlbab.Tt
open Go.RowKit
open Mem

/-- a total as it is handed over -/
def val (n t s : Int) (v : Value) : Value := .agg #[.int .i64 n, .int .i64 t, .int .i64 s, v]
/-- a total lies in a block of its own -/
def At (u : World) (g : Nat) (n t s : Int) (v : Value) : Prop := u.heap[g]? = some (.cells #[.int .i64 n, .int .i64 t, .int .i64 s, v] 34 (0, 0))
def box (w : World) (n t s : Int) (v : Value) : World := w.alloc (.cells #[.int .i64 n, .int .i64 t, .int .i64 s, v] 34)
theorem at_box (w : World) (n t s : Int) (v : Value) : At (box w n t s v) w.heap.size n t s v := heap_alloc_new w _
theorem box_size (w : World) (n t s : Int) (v : Value) : (box w n t s v).heap.size = w.heap.size + 1 := by
  unfold box
  simp
theorem below_own (w : World) (n t s : Int) (v : Value) : Below w.heap.size w (box w n t s v) := (Below.refl _ _).alloc (Nat.le_refl _) _
section
variable {u u' : World} {g : Nat} {n t s : Int} {v : Value}
theorem At.lt (h : At u g n t s v) : g < u.heap.size := by
  obtain ⟨hl, _⟩ := Array.getElem?_eq_some_iff.1 h
  exact hl
theorem At.below (h : At u g n t s v) (b : Below u.heap.size u u') : At u' g n t s v := (b.block g h.lt).trans h
theorem At.cells (h : At u g n t s v) : u.cell? ⟨g, 0, none⟩ = some (.int .i64 n) ∧ u.cell? ⟨g, 1, none⟩ = some (.int .i64 t) ∧ u.cell? ⟨g, 2, none⟩ = some (.int .i64 s) ∧ u.cell? ⟨g, 3, none⟩ = some v := by
  refine ⟨?_, ?_, ?_, ?_⟩
  all_goals
    rw [cell_of_row u g _ _ _ _ h]
    rfl
theorem At.frozen (h : At u g n t s v) (k : Nat) : u.frozen? ⟨g, k, none⟩ = false := frozen_of_row u g k _ _ h
theorem At.far (h : At u g n t s v) {b : Nat} (hne : g ≠ b) (o : Nat) (x : Value) : At (u.setCell ⟨b, o, none⟩ x) g n t s v := by
  unfold At
  rw [heap_setCell_other u ⟨b, o, none⟩ g x hne]
  exact h
theorem At.set0 (h : At u g n t s v) (x : Int) : At (u.setCell ⟨g, 0, none⟩ (.int .i64 x)) g x t s v := (heap_setCell_same u g 0 _ _ _ h).trans rfl
theorem At.set1 (h : At u g n t s v) (x : Int) : At (u.setCell ⟨g, 1, none⟩ (.int .i64 x)) g n x s v := (heap_setCell_same u g 1 _ _ _ h).trans rfl
theorem At.set2 (h : At u g n t s v) (x : Int) : At (u.setCell ⟨g, 2, none⟩ (.int .i64 x)) g n t x v := (heap_setCell_same u g 2 _ _ _ h).trans rfl
theorem At.set3 (h : At u g n t s v) (x : Value) : At (u.setCell ⟨g, 3, none⟩ x) g n t s x := (heap_setCell_same u g 3 _ _ _ h).trans rfl
theorem At.set4 (h : At u g n t s v) (n' t' s' : Int) (v' : Value) : At ((((u.setCell ⟨g, 0, none⟩ (.int .i64 n')).setCell ⟨g, 1, none⟩ (.int .i64 t')).setCell ⟨g, 2, none⟩ (.int .i64 s')).setCell ⟨g, 3, none⟩ v') g n' t' s' v' := (((h.set0 n').set1 t').set2 s').set3 v'
end
/-- what Total and Back answer: a total, its parts in new memory, and why there is none -/
def Ans (w : World) (E : Int) (T : Iv.Tot) (e : Ending) (w' : World) : Prop := ∃ v, e = .returned (.tuple #[val T.net T.tax T.gross v, .int .i64 E]) ∧ Pt.Own w' w.heap.size v T.parts ∧ Below w.heap.size w w'
end Go.Proofs.Ythcaecinjmnlbab.Tt

/- impostkeep.Totals OF TWO TOTALS THAT ARE THE SAME. -/
namespace Go.Proofs.Ythcaecinjmnlbab
open Go.RowKit
open Mem

set_option maxHeartbeats 2000000 in
theorem totals_same (T : Iv.Tot) (ao bo : Option Addr) (p ca cb : Nat) (w0 w : World) (hw : Below w0.heap.size w0 w) (hA : Pt.Ls w ao p ca T.parts) (hB : Pt.Ls w bo p cb T.parts) :
    Calls Try.prog 10 #[Tt.val T.net T.tax T.gross (.slice ao p ca), Tt.val T.net T.tax T.gross (.slice bo p cb)] w fun e w' => e = .returned (.bool true) ∧ Below w0.heap.size w0 w' := by
  have HW := Lib.hid hw
  have HA := Lib.hid hA
  have HB := Lib.hid hB
  clear hw hA hB
  obtain ⟨n, t, s, ps⟩ := T
  dsimp only at HA HB ⊢
  have hb1 := Tt.below_own w n t s (.slice ao p ca)
  have hb2 := Tt.below_own (Tt.box w n t s (.slice ao p ca)) n t s (.slice bo p cb)
  have h1 := (Tt.at_box w n t s (.slice ao p ca)).below hb2
  have h2 := Tt.at_box (Tt.box w n t s (.slice ao p ca)) n t s (.slice bo p cb)
  rw [Tt.box_size] at h2
  have HBl := Lib.hid (bchain hb1 hb2)
  obtain ⟨a0, a1, a2, a3⟩ := h1.cells
  obtain ⟨b0, b1, b2, b3⟩ := h2.cells
  have q0 : (n == n) = true := beq_self_eq_true _
  have q1 : (t == t) = true := beq_self_eq_true _
  have q2 : (s == s) = true := beq_self_eq_true _
  clear h1 h2 hb1 hb2
  unfold Tt.val
  go_enter Try.func10, Try.ntmps10
  go_wp2_with fail
  refine (Pt.same_rows ps ao bo p ca cb w0 _ (bchain HW.out HBl.out) (HA.out.below HBl.out) (HB.out.below HBl.out)).mono ?_
  rintro e w1 ⟨rfl, b5⟩
  have HB5 := Lib.hid b5
  clear b5
  go_wp2_with fail
  go_ret
  exact ⟨rfl, HB5.out⟩
end Go.Proofs.Ythcaecinjmnlbab
