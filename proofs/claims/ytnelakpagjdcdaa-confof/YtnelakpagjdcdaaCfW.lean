/- PLAIN LEAN: the walk from one set of nodes to another, a node at a time (chapter 21, P21.3). No Go walked here. -/
import Derived.Test.YtnelakpagjdcdaaCfP
set_option linter.unusedVariables false
namespace Go.Proofs.Ytnelakpagjdcdaa.Cf
open Go

def In (v : Int) : Prop := 0 ≤ v ∧ v < 128
theorem wrap_few (n : Int) (h₀ : 0 ≤ n) (h₁ : n < 2 ^ 7) : IntKind.i64.wrap n = n := by rw [IntKind.wrap_i64]; omega
theorem in_or {m b : Int} (hm : In m) (hb : In b) : In (bits .or .i64 m b) := by
  obtain ⟨x, rfl⟩ := Int.eq_ofNat_of_zero_le hm.1
  obtain ⟨y, rfl⟩ := Int.eq_ofNat_of_zero_le hb.1
  have hx : x < 2 ^ 7 := by have := hm.2; omega
  have hy : y < 2 ^ 7 := by have := hb.2; omega
  rw [(bits_nat .i64 7 (by decide) wrap_few x y hx hy).2]
  have := Nat.or_lt_two_pow hx hy
  exact ⟨by omega, by omega⟩
theorem in_pow {i : Nat} (hi : i < 7) : In ((2 ^ i : Nat) : Int) := by
  have h : i = 0 ∨ i = 1 ∨ i = 2 ∨ i = 3 ∨ i = 4 ∨ i = 5 ∨ i = 6 := by omega
  rcases h with rfl | rfl | rfl | rfl | rfl | rfl | rfl <;> exact ⟨by decide, by decide⟩
theorem in_off {m b : Int} (hm : In m) : In (bits .andNot .i64 m b) := by
  have e : bits .andNot .i64 m b = IntKind.i64.wrap ((BitVec.ofInt 64 m &&& ~~~ BitVec.ofInt 64 b).toNat : Nat) := rfl
  have l : (BitVec.ofInt 64 m &&& ~~~ BitVec.ofInt 64 b).toNat ≤ (BitVec.ofInt 64 m).toNat := by
    rw [BitVec.toNat_and]
    exact Nat.and_le_left
  have r : (BitVec.ofInt 64 m).toNat < 128 := by
    rw [BitVec.toNat_ofInt]
    have h1 := hm.1
    have h2 := hm.2
    omega
  rw [e, wrap_few _ (by omega) (by omega)]
  exact ⟨by omega, by omega⟩
theorem has_off (a b : Int) (i : Nat) (hi : i < 7) : has (bits .andNot .i64 a b) i = (has a i && !has b i) := by
  unfold has
  have e : bits .andNot .i64 a b = IntKind.i64.wrap ((BitVec.ofInt 64 a &&& ~~~ BitVec.ofInt 64 b).toNat : Nat) := rfl
  rw [e, ofInt_wrap, BitVec.getLsbD_and, BitVec.getLsbD_not]
  simp only [show (i < 64) = True from eq_true (by omega), decide_true, Bool.true_and]
theorem has_pow : ∀ i : Nat, i < 7 → ∀ j : Nat, j < 7 → has ((2 ^ i : Nat) : Int) j = decide (j = i) := by
  intro i hi j hj
  rw [has_is _ _ hj]
  revert j
  revert i
  decide
theorem has_nat (u j : Nat) (hu : u < 128) : has (u : Int) j = u.testBit j := by
  unfold has
  rw [BitVec.ofInt_natCast, BitVec.getLsbD, BitVec.toNat_ofNat, Nat.mod_eq_of_lt (by omega)]
theorem ext {u v : Int} (hu : In u) (hv : In v) (h : ∀ j, j < 7 → has u j = has v j) : u = v := by
  obtain ⟨x, rfl⟩ := Int.eq_ofNat_of_zero_le hu.1
  obtain ⟨y, rfl⟩ := Int.eq_ofNat_of_zero_le hv.1
  have hx : x < 128 := by have := hu.2; omega
  have hy : y < 128 := by have := hv.2; omega
  have e : x = y := by
    refine Nat.eq_of_testBit_eq fun j => ?_
    by_cases hj : j < 7
    · rw [← has_nat x j hx, ← has_nat y j hy, h j hj]
    · have hp : 2 ^ 7 ≤ 2 ^ j := Nat.pow_le_pow_right (by decide) (by omega)
      rw [Nat.testBit_lt_two_pow (show x < 2 ^ j by omega), Nat.testBit_lt_two_pow (show y < 2 ^ j by omega)]
  rw [e]
theorem has_zero (j : Nat) (hj : j < 7) : has 0 j = false := by
  rw [has_is _ _ hj, Int.zero_ediv]
  rfl
theorem pos_of {v : Int} (hv : In v) (j : Nat) (hj : j < 7) (h : has v j = true) : 1 ≤ v := by
  by_cases c : v = 0
  · subst c
    rw [has_zero j hj] at h
    exact absurd h (by decide)
  · have := hv.1
    omega
theorem some_of {v : Int} (hv : In v) (h : 1 ≤ v) : ∃ j, j < 7 ∧ has v j = true := by
  refine Classical.byContradiction fun c => ?_
  have e : v = 0 := ext hv ⟨by decide, by decide⟩ fun j hj => by
    rw [has_zero j hj]
    cases d : has v j with
    | false => rfl
    | true => exact absurd ⟨j, hj, d⟩ c
  omega
theorem right_of {v : Int} (hv : In v) (h : 1 ≤ v) : rightB v = true := by
  unfold rightB
  have := hv.2
  rw [decide_eq_true h, decide_eq_true (show v ≤ 127 by omega)]
  rfl
theorem cnt_congr7 {m : Int} {f : Nat → Bool} (h : ∀ i, i < 7 → has m i = f i) : cnt m = c7 f := by
  unfold cnt c7
  rw [h 0 (by decide), h 1 (by decide), h 2 (by decide), h 3 (by decide), h 4 (by decide), h 5 (by decide), h 6 (by decide)]
theorem one_of : ∀ i : Nat, i < 7 → c7 (fun j => decide (j = i)) = 1 := by
  unfold c7
  decide
theorem may_or {m : Int} {i : Nat} (hm : In m) (h1 : 1 ≤ m) (hi : i < 7) (h : has m i = false) : mayB m (bits .or .i64 m ((2 ^ i : Nat) : Int)) = true := by
  have p : 1 ≤ bits .or .i64 m ((2 ^ i : Nat) : Int) := pos_of (in_or hm (in_pow hi)) i hi (by rw [has_or, has_pow i hi i hi, h, decide_eq_true rfl]; rfl)
  unfold mayB
  rw [right_of hm h1, right_of (in_or hm (in_pow hi)) p, cnt_congr7 (f := fun j => decide (j = i)) ?_, one_of i hi]
  · rfl
  · intro j hj
    rw [has_xor, has_or, has_pow i hi j hj]
    by_cases c : j = i
    · subst c
      rw [h, decide_eq_true rfl]
      rfl
    · rw [decide_eq_false c]
      cases has m j <;> rfl
theorem may_off {m : Int} {i : Nat} (hm : In m) (h1 : 1 ≤ m) (hi : i < 7) (h : has m i = true) (p : 1 ≤ bits .andNot .i64 m ((2 ^ i : Nat) : Int)) : mayB m (bits .andNot .i64 m ((2 ^ i : Nat) : Int)) = true := by
  unfold mayB
  rw [right_of hm h1, right_of (in_off hm) p, cnt_congr7 (f := fun j => decide (j = i)) ?_, one_of i hi]
  · rfl
  · intro j hj
    rw [has_xor, has_off _ _ _ hj, has_pow i hi j hj]
    by_cases c : j = i
    · subst c
      rw [h, decide_eq_true rfl]
      rfl
    · rw [decide_eq_false c]
      cases has m j <;> rfl
/-- how many of the first -/
def up (f : Nat → Bool) : Nat → Nat
  | 0 => 0
  | k + 1 => up f k + (f k).toNat
theorem up_next (f : Nat → Bool) (k : Nat) : up f (k + 1) = up f k + (f k).toNat := rfl
structure At1 (m n : Int) (k : Nat) (v : Int) (s : Nat) : Prop where
  inn : In v
  pos : 1 ≤ v
  h : ∀ j, j < 7 → has v j = (has m j || (decide (j < k) && has n j))
  s : s = up (fun j => has n j && !has m j) k
structure At2 (m n : Int) (k : Nat) (v : Int) (s : Nat) : Prop where
  inn : In v
  h : ∀ j, j < 7 → has v j = (has n j || (!decide (j < k) && has m j))
  s : s = up (fun j => has n j && !has m j) 7 + up (fun j => has m j && !has n j) k
theorem at1_none {m n : Int} (hm : In m) (h1 : 1 ≤ m) : At1 m n 0 m 0 := by
  refine ⟨hm, h1, fun j hj => ?_, rfl⟩
  rw [decide_eq_false (by omega), Bool.false_and, Bool.or_false]
theorem lt_succ (j k : Nat) (c : j ≠ k) : decide (j < k + 1) = decide (j < k) := by
  rw [decide_eq_decide]
  omega
theorem at1_yes {m n v : Int} {k s : Nat} (hk : k < 7) (h : At1 m n k v s) (hn : has n k = true) (hv : has v k = false) : At1 m n (k + 1) (bits .or .i64 v ((2 ^ k : Nat) : Int)) (s + 1) ∧ mayB v (bits .or .i64 v ((2 ^ k : Nat) : Int)) = true := by
  have e := h.h k hk
  rw [hv, decide_eq_false (by omega), Bool.false_and, Bool.or_false] at e
  refine ⟨⟨in_or h.inn (in_pow hk), pos_of (in_or h.inn (in_pow hk)) k hk (by rw [has_or, has_pow k hk k hk, decide_eq_true rfl, Bool.or_true]), fun j hj => ?_, ?_⟩, may_or h.inn h.pos hk hv⟩
  · rw [has_or, has_pow k hk j hj, h.h j hj]
    by_cases c : j = k
    · subst c
      rw [hn, decide_eq_true rfl, decide_eq_true (show j < j + 1 by omega), Bool.or_true, Bool.true_and, Bool.or_true]
    · rw [decide_eq_false c, lt_succ j k c, Bool.or_false]
  · rw [h.s, up, hn, ← e]
    rfl
theorem at1_no {m n v : Int} {k s : Nat} (hk : k < 7) (h : At1 m n k v s) (hn : has n k = true → has v k = true) : At1 m n (k + 1) v s := by
  have e := h.h k hk
  rw [decide_eq_false (show ¬ k < k by omega), Bool.false_and, Bool.or_false] at e
  refine ⟨h.inn, h.pos, fun j hj => ?_, ?_⟩
  · by_cases c : j = k
    · subst c
      rw [decide_eq_true (show j < j + 1 by omega), e, Bool.true_and]
      cases d : has n j with
      | false => rw [Bool.or_false]
      | true => rw [Bool.or_true, ← e, hn d]
    · rw [h.h j hj, lt_succ j k c]
  · rw [h.s, up]
    cases d : has n k with
    | false => rfl
    | true => rw [← e, hn d]; rfl
theorem at2_none {m n v : Int} {s : Nat} (h : At1 m n 7 v s) : At2 m n 0 v s := by
  refine ⟨h.inn, fun j hj => ?_, ?_⟩
  · rw [h.h j hj, decide_eq_true hj, decide_eq_false (show ¬ j < 0 by omega), Bool.true_and, Bool.not_false, Bool.true_and, Bool.or_comm]
  · rw [h.s]
    rfl
theorem at2_pos {m n v : Int} {k s : Nat} (hn : In n) (h1 : 1 ≤ n) (h : At2 m n k v s) : 1 ≤ v := by
  obtain ⟨j, hj, e⟩ := some_of hn h1
  exact pos_of h.inn j hj (by rw [h.h j hj, e, Bool.true_or])
theorem at2_yes {m n v : Int} {k s : Nat} (in_n : In n) (h1 : 1 ≤ n) (hk : k < 7) (h : At2 m n k v s) (hv : has v k = true) (hn : has n k = false) : At2 m n (k + 1) (bits .andNot .i64 v ((2 ^ k : Nat) : Int)) (s + 1) ∧ mayB v (bits .andNot .i64 v ((2 ^ k : Nat) : Int)) = true := by
  have e := h.h k hk
  rw [hv, hn, decide_eq_false (show ¬ k < k by omega), Bool.false_or, Bool.not_false, Bool.true_and] at e
  have g : At2 m n (k + 1) (bits .andNot .i64 v ((2 ^ k : Nat) : Int)) (s + 1) := by
    refine ⟨in_off h.inn, fun j hj => ?_, ?_⟩
    · rw [has_off _ _ _ hj, has_pow k hk j hj, h.h j hj]
      by_cases c : j = k
      · subst c
        rw [hn, decide_eq_true rfl, decide_eq_true (show j < j + 1 by omega), Bool.not_true, Bool.and_false, Bool.false_and, Bool.or_false]
      · rw [decide_eq_false c, lt_succ j k c, Bool.not_false, Bool.and_true]
    · rw [h.s, up_next (fun j => has m j && !has n j) k, hn, ← e]
      rfl
  exact ⟨g, may_off h.inn (at2_pos in_n h1 h) hk hv (at2_pos in_n h1 g)⟩
theorem at2_no {m n v : Int} {k s : Nat} (hk : k < 7) (h : At2 m n k v s) (hv : has v k = true → has n k = true) : At2 m n (k + 1) v s := by
  have e := h.h k hk
  rw [decide_eq_false (show ¬ k < k by omega), Bool.not_false, Bool.true_and] at e
  have f : has n k = false → has m k = false := fun d => by
    rw [d, Bool.false_or] at e
    rw [← e]
    cases d2 : has v k with
    | false => rfl
    | true => rw [hv d2] at d; exact absurd d (by decide)
  refine ⟨h.inn, fun j hj => ?_, ?_⟩
  · by_cases c : j = k
    · subst c
      rw [decide_eq_true (show j < j + 1 by omega), e, Bool.not_true, Bool.false_and, Bool.or_false]
      cases d : has n j with
      | false => rw [f d]; rfl
      | true => rw [Bool.true_or]
    · rw [h.h j hj, lt_succ j k c]
  · rw [h.s, up_next (fun j => has m j && !has n j) k]
    cases d : has n k with
    | false => rw [f d]; rfl
    | true => rw [Bool.not_true, Bool.and_false]; rfl
theorem bit_alone (a b : Bool) : (a && !b).toNat + (b && !a).toNat ≤ 1 := by
  cases a <;> cases b <;> decide
theorem at2_end {m n v : Int} {s : Nat} (in_n : In n) (h : At2 m n 7 v s) : v = n ∧ s ≤ 7 := by
  refine ⟨ext h.inn in_n fun j hj => ?_, ?_⟩
  · rw [h.h j hj, decide_eq_true hj, Bool.not_true, Bool.false_and, Bool.or_false]
  · have e := h.s
    simp only [up] at e
    have e0 := bit_alone (has n 0) (has m 0)
    have e1 := bit_alone (has n 1) (has m 1)
    have e2 := bit_alone (has n 2) (has m 2)
    have e3 := bit_alone (has n 3) (has m 3)
    have e4 := bit_alone (has n 4) (has m 4)
    have e5 := bit_alone (has n 5) (has m 5)
    have e6 := bit_alone (has n 6) (has m 6)
    omega
end Go.Proofs.Ytnelakpagjdcdaa.Cf
