/- PLAIN LEAN: amounts: what fits, products and bounds, an amount's text and what a text tells; no Go here. -/
import Derived.Test.YtagofjnckdhopaaDoorRune
import Derived.Lib.ItoaNum
namespace Go.Proofs.YtagofjnckdhopaaDoor.Mn
open Go.Lib

/-! ### bounds -/
def Fit (x : Int) : Prop := -9223372036854775808 ≤ x ∧ x ≤ 9223372036854775807
instance (x : Int) : Decidable (Fit x) := inferInstanceAs (Decidable (_ ∧ _))
def amt (x : Int) : Int := if Fit x then x else 0
def err (x : Int) : Int := if Fit x then 0 else 7
theorem amt_fit {x : Int} (h : Fit x) : amt x = x := if_pos h
theorem err_fit {x : Int} (h : Fit x) : err x = 0 := if_pos h
theorem amt_not {x : Int} (h : ¬ Fit x) : amt x = 0 := if_neg h
theorem err_not {x : Int} (h : ¬ Fit x) : err x = 7 := if_neg h
theorem amt_fits (x : Int) : Fit (amt x) := by
  unfold amt
  split
  · assumption
  · exact ⟨by omega, by omega⟩
theorem err_two (x : Int) : err x = 0 ∨ err x = 7 := by
  unfold err
  split
  · exact .inl rfl
  · exact .inr rfl

/-! ### products -/
theorem tdiv_pp (m b : Int) (h0 : 0 ≤ m) : m.tdiv b = m / b := Int.tdiv_eq_ediv_of_nonneg h0
theorem tdiv_pn (m b : Int) (h0 : 0 ≤ m) : m.tdiv (-b) = -(m / b) := by rw [Int.tdiv_neg, tdiv_pp m b h0]
theorem le_div (m b x : Int) (hb : 0 < b) : x ≤ m / b ↔ x * b ≤ m := Int.le_ediv_iff_mul_le hb
/-- both above 0 -/
theorem fits_pp (a b : Int) (_ha : 0 < a) (hb : 0 < b) : a ≤ (9223372036854775807 : Int).tdiv b ↔ a * b ≤ 9223372036854775807 := by
  rw [tdiv_pp _ _ (by omega), le_div _ _ _ hb]
/-- the first above 0, the other below -/
theorem fits_pn (a b : Int) (ha : 0 < a) : -(9223372036854775808 : Int).tdiv a ≤ b ↔ -9223372036854775808 ≤ a * b := by
  have h := le_div 9223372036854775808 a (-b) ha
  rw [tdiv_pp _ _ (by omega)]
  rw [Int.neg_mul, Int.mul_comm b a] at h
  omega
theorem fits_np (a b : Int) (hb : 0 < b) : -(9223372036854775808 : Int).tdiv b ≤ a ↔ -9223372036854775808 ≤ a * b := by
  rw [fits_pn b a hb, Int.mul_comm]
theorem fits_nn (a b : Int) (hb : b < 0) : (9223372036854775807 : Int).tdiv b ≤ a ↔ a * b ≤ 9223372036854775807 := by
  have h := le_div 9223372036854775807 (-b) (-a) (by omega)
  have e : (9223372036854775807 : Int).tdiv b = -(9223372036854775807 / (-b)) := by
    have := tdiv_pn 9223372036854775807 (-b) (by omega)
    rwa [Int.neg_neg] at this
  rw [e]
  rw [Int.neg_mul_neg] at h
  omega
theorem tdiv_small (m b : Int) (h0 : 0 ≤ m) (hb : b ≠ 0) : -m ≤ m.tdiv b ∧ m.tdiv b ≤ m := by
  rcases Int.lt_or_gt_of_ne hb with h | h
  · have e := tdiv_pn m (-b) h0
    rw [Int.neg_neg] at e
    have h1 : m / (-b) ≤ m := Int.ediv_le_self _ h0
    have h2 : 0 ≤ m / (-b) := Int.ediv_nonneg h0 (by omega)
    omega
  · have e := tdiv_pp m b h0
    have h1 : m / b ≤ m := Int.ediv_le_self _ h0
    have h2 : 0 ≤ m / b := Int.ediv_nonneg h0 (by omega)
    omega
theorem tdiv_pos (m b : Int) (h0 : 0 ≤ m) (hb : 0 < b) : 0 ≤ m.tdiv b ∧ m.tdiv b ≤ m := by
  rw [tdiv_pp m b h0]
  exact ⟨Int.ediv_nonneg h0 (by omega), Int.ediv_le_self _ h0⟩
theorem mul_pos {a b : Int} (ha : 0 < a) (hb : 0 < b) : 0 < a * b := Int.mul_pos ha hb
theorem mul_pn {a b : Int} (ha : 0 < a) (hb : b < 0) : a * b < 0 := Int.mul_neg_of_pos_of_neg ha hb
theorem mul_np {a b : Int} (ha : a < 0) (hb : 0 < b) : a * b < 0 := Int.mul_neg_of_neg_of_pos ha hb
theorem mul_nn {a b : Int} (ha : a < 0) (hb : b < 0) : 0 < a * b := Int.mul_pos_of_neg_of_neg ha hb

/-! ### an amount's text -/
def two (u : Nat) : List UInt8 := [46, UInt8.ofNat (48 + u % 100 / 10), UInt8.ofNat (48 + u % 10)]
def bare (u : Nat) : List UInt8 := decDigits (u / 100) ++ two u
def shown (n : Int) : List UInt8 := (if n < 0 then [45] else []) ++ bare n.natAbs

/-! ### what a text tells -/
def dig (b : UInt8) : Bool := decide (48 ≤ b.toNat ∧ b.toNat ≤ 57)
def formed (l : List UInt8) : Bool :=
  decide (4 ≤ l.length) && !(decide (l.head? = some 48) && decide (4 < l.length)) && (decide (l[l.length - 3]? = some 46) && ((l.take (l.length - 3)).all dig && (l.drop (l.length - 2)).all dig))
def worth (a : Nat) (l : List UInt8) : Nat := l.foldl (fun x b => if b.toNat = 46 then x else 10 * x + (b.toNat - 48)) a
theorem worth_nil (a : Nat) : worth a [] = a := rfl
theorem worth_cons (a : Nat) (b : UInt8) (l : List UInt8) : worth a (b :: l) = worth (if b.toNat = 46 then a else 10 * a + (b.toNat - 48)) l := by
  unfold worth
  rw [List.foldl_cons]
theorem worth_app (a : Nat) (l m : List UInt8) : worth a (l ++ m) = worth (worth a l) m := by
  unfold worth
  rw [List.foldl_append]
theorem worth_le : ∀ (l : List UInt8) (a : Nat), a ≤ worth a l
  | [], a => Nat.le_refl _
  | b :: l, a => by
    rw [worth_cons]
    have h := worth_le l (if b.toNat = 46 then a else 10 * a + (b.toNat - 48))
    split at h <;> rename_i hb
    · rw [if_pos hb]; exact h
    · rw [if_neg hb]; omega
theorem worth_dig : ∀ (l : List UInt8) (a : Nat), l.all dig = true → worth a l = Rn.val a l
  | [], a, _ => rfl
  | b :: l, a, h => by
    rw [List.all_cons, Bool.and_eq_true] at h
    have hb := of_decide_eq_true h.1
    rw [worth_cons, Rn.val_cons, if_neg (by omega), worth_dig l _ h.2]
def head (s : List UInt8) : Bool := [45].isPrefixOf s
def rest (s : List UInt8) : List UInt8 := if head s = true then s.drop 1 else s
def amount (s : List UInt8) : Int := if head s = true then -(worth 0 (rest s) : Int) else (worth 0 (rest s) : Int)
def nay : List UInt8 := [45, 48, 46, 48, 48]
def good (s : List UInt8) : Bool := formed (rest s) && !(decide (s = nay))
def val (s : List UInt8) : Int := if good s = true then amt (amount s) else 0
def why (s : List UInt8) : Int := if good s = true then err (amount s) else 4

/-! ### decimal digits -/
theorem ofNat_toNat {k : Nat} (h : k < 256) : (UInt8.ofNat k).toNat = k := by
  rw [UInt8.toNat_ofNat']
  exact Nat.mod_eq_of_lt h
theorem dec_dig (u : Nat) : (decDigits u).all dig = true := by
  induction u using Nat.strongRecOn with
  | _ u ih =>
    rw [decDigits]
    split
    · rename_i h
      simp only [List.all_cons, List.all_nil, Bool.and_true, dig, ofNat_toNat (show 48 + u < 256 by omega), decide_eq_true_eq]
      omega
    · rename_i h
      rw [List.all_append, ih (u / 10) (by omega)]
      simp only [List.all_cons, List.all_nil, Bool.and_true, Bool.true_and, dig, ofNat_toNat (show 48 + u % 10 < 256 by omega), decide_eq_true_eq]
      omega
theorem val_snoc (a : Nat) (l : List UInt8) (b : UInt8) : Rn.val a (l ++ [b]) = 10 * Rn.val a l + (b.toNat - 48) := by
  unfold Rn.val
  rw [List.foldl_append]
  rfl
theorem val_dec (u : Nat) : Rn.val 0 (decDigits u) = u := by
  induction u using Nat.strongRecOn with
  | _ u ih =>
    rw [decDigits]
    split
    · rename_i h
      rw [Rn.val_cons]
      show Rn.val _ [] = u
      rw [ofNat_toNat (by omega)]
      simp [Rn.val]
    · rename_i h
      rw [val_snoc, ih (u / 10) (by omega), ofNat_toNat (by omega)]
      omega
theorem dec_ne (u : Nat) : decDigits u ≠ [] := by
  rw [decDigits]
  split <;> simp
theorem head_app {α : Type} : ∀ (l m : List α), l ≠ [] → (l ++ m).head? = l.head?
  | [], _, h => absurd rfl h
  | _ :: _, _, _ => rfl
theorem dec_head (u : Nat) (h : (decDigits u).head? = some 48) : u = 0 := by
  induction u using Nat.strongRecOn with
  | _ u ih =>
    rw [decDigits] at h
    split at h
    · rename_i h1
      have h2 := congrArg UInt8.toNat (Option.some.inj h)
      rw [ofNat_toNat (by omega)] at h2
      simp at h2
      exact h2
    · rename_i h1
      rw [head_app _ _ (dec_ne _)] at h
      have := ih (u / 10) (by omega) h
      omega
theorem dec_len_pos (u : Nat) : 1 ≤ (decDigits u).length := by
  rcases Nat.eq_zero_or_pos (decDigits u).length with h | h
  · exact absurd (List.eq_nil_of_length_eq_zero h) (dec_ne u)
  · exact h
theorem val_zero_head (b : UInt8) (l : List UInt8) (hb : dig b = true) (hn : b ≠ 48) : 0 < Rn.val 0 (b :: l) := by
  have h1 : b.toNat ≠ 48 := fun h => hn (UInt8.toNat_inj.1 h)
  have h2 := of_decide_eq_true hb
  rw [Rn.val_cons, Rn.val_lin]
  have h3 : 1 ≤ 10 ^ l.length := Nat.one_le_pow _ _ (by omega)
  have h4 : 1 * 1 ≤ (10 * 0 + (b.toNat - 48)) * 10 ^ l.length := Nat.mul_le_mul (by omega) h3
  omega
theorem snoc {α : Type} : ∀ (l : List α), l ≠ [] → ∃ m b, l = m ++ [b]
  | [], h => absurd rfl h
  | [a], _ => ⟨[], a, rfl⟩
  | a :: c :: l, _ => by
    obtain ⟨m, b, e⟩ := snoc (c :: l) (by simp)
    exact ⟨a :: m, b, by rw [e]; rfl⟩
theorem dec_val : ∀ (n : Nat) (l : List UInt8), l.length = n → l ≠ [] → l.all dig = true → (l.head? ≠ some 48 ∨ l.length = 1) → decDigits (Rn.val 0 l) = l
  | 0, l, hl, hn, _, _ => absurd (List.eq_nil_of_length_eq_zero hl) hn
  | n + 1, l, hl, hn, hd, hh => by
    obtain ⟨m, b, rfl⟩ := snoc l hn
    rw [List.all_append, Bool.and_eq_true] at hd
    have hb : dig b = true := by simpa using hd.2
    have hb' := of_decide_eq_true hb
    have e : UInt8.ofNat (48 + (b.toNat - 48)) = b := by
      apply UInt8.toNat_inj.1
      rw [ofNat_toNat (by omega)]
      omega
    rw [val_snoc]
    cases m with
    | nil =>
      rw [decDigits, dif_pos (by simp [Rn.val]; omega)]
      simp only [Rn.val, List.foldl_nil, Nat.mul_zero, Nat.zero_add, e, List.nil_append]
    | cons c m =>
      have h0 : (c :: m).head? ≠ some 48 := by
        rcases hh with h | h
        · simpa using h
        · simp at h
      have hc : dig c = true := by
        rw [List.all_cons, Bool.and_eq_true] at hd
        exact hd.1.1
      have hpos := val_zero_head c m hc (fun h => h0 (by rw [h]; rfl))
      have ih := dec_val n (c :: m) (by simp at hl ⊢; omega) (by simp) hd.1 (.inl h0)
      rw [decDigits, dif_neg (by omega)]
      rw [show (10 * Rn.val 0 (c :: m) + (b.toNat - 48)) / 10 = Rn.val 0 (c :: m) by omega, show (10 * Rn.val 0 (c :: m) + (b.toNat - 48)) % 10 = b.toNat - 48 by omega, ih, e]

/-! ### the form -/
theorem formed_of (D : List UInt8) (x y : UInt8) (hD : D.all dig = true) (hn : D ≠ []) (h0 : D.head? ≠ some 48 ∨ D.length = 1) (hx : dig x = true) (hy : dig y = true) : formed (D ++ [46, x, y]) = true := by
  have hl : 1 ≤ D.length := by
    rcases Nat.eq_zero_or_pos D.length with h | h
    · exact absurd (List.eq_nil_of_length_eq_zero h) hn
    · exact h
  have e1 : (D ++ [46, x, y]).length - 3 = D.length := by simp
  have e2 : (D ++ [46, x, y]).length - 2 = D.length + 1 := by simp
  unfold formed
  rw [e1, e2]
  rw [head_app _ _ hn, List.take_left, List.getElem?_append_right (Nat.le_refl _), Nat.sub_self, List.drop_append]
  rw [List.drop_eq_nil_of_le (by omega), show D.length + 1 - D.length = 1 by omega]
  simp only [List.length_append, List.length_cons, List.length_nil, List.nil_append, List.drop_succ_cons, List.drop_zero, List.all_cons, List.all_nil, hx, hy, hD, Bool.and_true, List.getElem?_cons_zero, decide_true, Bool.and_eq_true, decide_eq_true_eq, Bool.not_eq_true', Bool.and_eq_false_iff, decide_eq_false_iff_not]
  refine ⟨by omega, ?_⟩
  rcases h0 with h | h
  · exact .inl h
  · exact .inr (by omega)
theorem of_formed {l : List UInt8} (h : formed l = true) : ∃ D x y, l = D ++ [46, x, y] ∧ D.all dig = true ∧ D ≠ [] ∧ (D.head? ≠ some 48 ∨ D.length = 1) ∧ dig x = true ∧ dig y = true := by
  unfold formed at h
  simp only [Bool.and_eq_true, decide_eq_true_eq, Bool.not_eq_true', Bool.and_eq_false_iff, decide_eq_false_iff_not] at h
  obtain ⟨⟨h4, h0⟩, hp, hD, hxy⟩ := h
  have hl : (l.drop (l.length - 2)).length = 2 := by rw [List.length_drop]; omega
  have hsplit : l = l.take (l.length - 3) ++ (46 :: l.drop (l.length - 2)) := by
    have h1 : l.drop (l.length - 3) = 46 :: l.drop (l.length - 2) := by
      rw [List.drop_eq_getElem_cons (by omega)]
      rw [List.getElem?_eq_getElem (by omega)] at hp
      rw [Option.some.inj hp, show l.length - 3 + 1 = l.length - 2 by omega]
    rw [← h1, List.take_append_drop]
  match hm : l.drop (l.length - 2), hl with
  | [x, y], _ =>
    rw [hm] at hsplit hxy
    simp only [List.all_cons, List.all_nil, Bool.and_true, Bool.and_eq_true] at hxy
    refine ⟨l.take (l.length - 3), x, y, hsplit, hD, ?_, ?_, hxy.1, hxy.2⟩
    · intro e
      have := congrArg List.length e
      rw [List.length_take, List.length_nil] at this
      omega
    · rcases h0 with h | h
      · refine .inl fun e => h ?_
        rw [List.head?_take, if_neg (by omega)] at e
        exact e
      · refine .inr ?_
        rw [List.length_take]
        omega
theorem worth_formed (D : List UInt8) (x y : UInt8) (hD : D.all dig = true) (hx : dig x = true) (hy : dig y = true) : worth 0 (D ++ [46, x, y]) = 100 * Rn.val 0 D + 10 * (x.toNat - 48) + (y.toNat - 48) := by
  have h1 := of_decide_eq_true hx
  have h2 := of_decide_eq_true hy
  rw [worth_app, worth_dig D 0 hD, worth_cons, if_pos (by decide), worth_cons, if_neg (by omega), worth_cons, if_neg (by omega), worth_nil]
  omega

/-! ### back and forth -/
theorem two_dig (u : Nat) : ∃ x y, two u = [46, x, y] ∧ dig x = true ∧ dig y = true ∧ x.toNat - 48 = u % 100 / 10 ∧ y.toNat - 48 = u % 10 := by
  refine ⟨_, _, rfl, ?_, ?_, ?_, ?_⟩
  · rw [dig, ofNat_toNat (by omega)]; exact decide_eq_true (by omega)
  · rw [dig, ofNat_toNat (by omega)]; exact decide_eq_true (by omega)
  · rw [ofNat_toNat (by omega)]; omega
  · rw [ofNat_toNat (by omega)]; omega
theorem formed_bare (u : Nat) : formed (bare u) = true ∧ worth 0 (bare u) = u := by
  obtain ⟨x, y, e, hx, hy, ex, ey⟩ := two_dig u
  unfold bare
  rw [e]
  refine ⟨formed_of _ x y (dec_dig _) (dec_ne _) ?_ hx hy, ?_⟩
  · by_cases h : (decDigits (u / 100)).head? = some 48
    · have h0 := dec_head _ h
      rw [h0, decDigits, dif_pos (by omega)]
      exact .inr rfl
    · exact .inl h
  · rw [worth_formed _ x y (dec_dig _) hx hy, val_dec, ex, ey]
    omega
theorem bare_ne_minus (u : Nat) : head (bare u) = false := by
  unfold head bare
  have hd := dec_dig (u / 100)
  cases hm : decDigits (u / 100) with
  | nil => exact absurd hm (dec_ne _)
  | cons b l =>
    rw [hm, List.all_cons, Bool.and_eq_true] at hd
    have hb := of_decide_eq_true hd.1
    have : b ≠ 45 := fun h => by rw [h] at hb; exact absurd hb.1 (by decide)
    simp only [List.cons_append, List.isPrefixOf, Bool.and_true]
    exact beq_eq_false_iff_ne.2 (fun h => this h.symm)
theorem bare_inj {u v : Nat} (h : bare u = bare v) : u = v := by
  rw [← (formed_bare u).2, h, (formed_bare v).2]
theorem nay_bare : nay = 45 :: bare 0 := by
  unfold nay bare two
  rw [decDigits, dif_pos (by omega)]
  rfl
theorem rest_shown (n : Int) : rest (shown n) = bare n.natAbs ∧ head (shown n) = decide (n < 0) := by
  unfold shown
  by_cases h : n < 0
  · rw [if_pos h, decide_eq_true h]
    refine ⟨?_, rfl⟩
    unfold rest
    rw [if_pos (show head ([45] ++ bare n.natAbs) = true from rfl)]
    rfl
  · rw [if_neg h, List.nil_append, decide_eq_false h]
    refine ⟨?_, bare_ne_minus _⟩
    unfold rest
    rw [bare_ne_minus]
    rfl
theorem amount_shown (n : Int) : amount (shown n) = n := by
  obtain ⟨h1, h2⟩ := rest_shown n
  unfold amount
  rw [h1, h2, (formed_bare _).2]
  by_cases h : n < 0
  · rw [if_pos (decide_eq_true h)]; omega
  · rw [if_neg (by simpa using h)]; omega
theorem good_shown (n : Int) : good (shown n) = true := by
  obtain ⟨h1, _⟩ := rest_shown n
  unfold good
  rw [h1, (formed_bare _).1, Bool.true_and, Bool.not_eq_true', decide_eq_false_iff_not]
  intro e
  unfold shown at e
  rw [nay_bare] at e
  by_cases h : n < 0
  · rw [if_pos h] at e
    have e' : bare n.natAbs = bare 0 := by simpa using e
    have := bare_inj e'
    omega
  · rw [if_neg h, List.nil_append] at e
    have := bare_ne_minus n.natAbs
    rw [e] at this
    exact absurd this (by decide)
theorem val_shown (n : Int) (h : Fit n) : val (shown n) = n ∧ why (shown n) = 0 := by
  unfold val why
  rw [if_pos (good_shown n), if_pos (good_shown n), amount_shown]
  exact ⟨amt_fit h, err_fit h⟩
theorem shown_bare (l : List UInt8) (h : formed l = true) : bare (worth 0 l) = l := by
  obtain ⟨D, x, y, rfl, hD, hn, h0, hx, hy⟩ := of_formed h
  have h1 := of_decide_eq_true hx
  have h2 := of_decide_eq_true hy
  rw [worth_formed D x y hD hx hy]
  unfold bare two
  rw [show (100 * Rn.val 0 D + 10 * (x.toNat - 48) + (y.toNat - 48)) / 100 = Rn.val 0 D by omega, show (100 * Rn.val 0 D + 10 * (x.toNat - 48) + (y.toNat - 48)) % 100 / 10 = x.toNat - 48 by omega, show (100 * Rn.val 0 D + 10 * (x.toNat - 48) + (y.toNat - 48)) % 10 = y.toNat - 48 by omega]
  rw [dec_val _ D rfl hn hD h0]
  have e : ∀ b : UInt8, 48 ≤ b.toNat → UInt8.ofNat (48 + (b.toNat - 48)) = b := fun b hb => by
    apply UInt8.toNat_inj.1
    have := UInt8.toNat_lt b
    rw [ofNat_toNat (by omega)]
    omega
  rw [e x h1.1, e y h2.1]
theorem shown_amount (s : List UInt8) (h : good s = true) : shown (amount s) = s := by
  unfold good at h
  rw [Bool.and_eq_true, Bool.not_eq_true', decide_eq_false_iff_not] at h
  obtain ⟨hf, hnay⟩ := h
  have hb := shown_bare _ hf
  unfold amount
  by_cases hh : head s = true
  · rw [if_pos hh]
    have hs : s = 45 :: rest s := by
      cases s with
      | nil => exact absurd hh (by decide)
      | cons b l =>
        have : b = 45 := by
          unfold head at hh
          simp only [List.isPrefixOf, Bool.and_true] at hh
          exact (eq_of_beq hh).symm
        rw [rest, if_pos hh, this]
        rfl
    have hpos : 0 < worth 0 (rest s) := by
      rcases Nat.eq_zero_or_pos (worth 0 (rest s)) with h | h
      · rw [h] at hb
        exact absurd (by rw [hs, ← hb, nay_bare]) hnay
      · exact h
    unfold shown
    rw [if_pos (by omega), show (-(worth 0 (rest s) : Int)).natAbs = worth 0 (rest s) by omega, hb]
    exact hs.symm
  · rw [if_neg hh]
    unfold shown
    rw [if_neg (by omega), show ((worth 0 (rest s) : Int)).natAbs = worth 0 (rest s) by omega, hb, List.nil_append, rest, if_neg hh]
theorem shown_val (s : List UInt8) (h : why s = 0) : shown (val s) = s := by
  unfold why at h
  unfold val
  by_cases hg : good s = true
  · rw [if_pos hg] at h ⊢
    by_cases hf : Fit (amount s)
    · rw [amt_fit hf]; exact shown_amount s hg
    · rw [err_not hf] at h; omega
  · rw [if_neg hg] at h; omega
theorem val_none (s : List UInt8) (h : why s ≠ 0) : val s = 0 := by
  unfold why at h
  unfold val
  by_cases hg : good s = true
  · rw [if_pos hg] at h ⊢
    by_cases hf : Fit (amount s)
    · rw [err_fit hf] at h; omega
    · exact amt_not hf
  · exact if_neg hg
theorem val_fit (s : List UInt8) : Fit (val s) := by
  unfold val
  split
  · exact amt_fits _
  · exact ⟨by omega, by omega⟩
theorem why_cases (s : List UInt8) : why s = 0 ∨ why s = 4 ∨ why s = 7 := by
  unfold why
  split
  · rcases err_two (amount s) with h | h
    · exact .inl h
    · exact .inr (.inr h)
  · exact .inr (.inl rfl)

/-! ### digits by runes -/
theorem all_dig_step (l : List UInt8) (hne : l ≠ []) : l.all dig = if 48 ≤ (decodeL l).1 ∧ (decodeL l).1 ≤ 57 then (l.drop (decodeL l).2).all dig else false := by
  cases l with
  | nil => exact absurd rfl hne
  | cons b l =>
    split
    · rename_i h
      have e := Rn.low_one (b :: l) (by omega)
      rw [e] at h ⊢
      dsimp only at h ⊢
      have hb : dig b = true := decide_eq_true (by simpa using h)
      rw [List.all_cons, hb, Bool.true_and]
      rfl
    · rename_i h
      have hb : dig b = false := by
        refine decide_eq_false fun hb => h ?_
        rw [Rn.low_head b l (by omega)]
        exact hb
      rw [List.all_cons, hb, Bool.false_and]
end Go.Proofs.YtagofjnckdhopaaDoor.Mn
