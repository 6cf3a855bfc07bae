/- PLAIN LEAN: sets of nodes as numbers (chapter 21). No Go walked here. -/
import Derived.Test.YtnelakpagjdcdaaPlain
import Derived.Laws.BitsLemmas
set_option linter.unusedVariables false
namespace Go.Proofs.Ytnelakpagjdcdaa.Cf
open Go

/-- does the node belong? -/
def has (m : Int) (i : Nat) : Bool := (BitVec.ofInt 64 m).getLsbD i
theorem has_is (m : Int) (i : Nat) (hi : i < 7) : has m i = decide (m / 2 ^ i % 2 = 1) := by
  unfold has
  rw [BitVec.getLsbD, BitVec.toNat_ofInt, Nat.testBit_eq_decide_div_mod_eq, decide_eq_decide]
  have h : i = 0 ∨ i = 1 ∨ i = 2 ∨ i = 3 ∨ i = 4 ∨ i = 5 ∨ i = 6 := by omega
  rcases h with rfl | rfl | rfl | rfl | rfl | rfl | rfl <;> simp <;> omega
theorem ofInt_wrap (v : BitVec 64) : BitVec.ofInt 64 (IntKind.i64.wrap (v.toNat : Int)) = v := by
  apply BitVec.eq_of_toNat_eq
  rw [BitVec.toNat_ofInt, IntKind.wrap_i64]
  have := v.isLt
  omega
theorem has_and (a b : Int) (i : Nat) : has (bits .and .i64 a b) i = (has a i && has b i) := by
  unfold has
  have e : bits .and .i64 a b = IntKind.i64.wrap ((BitVec.ofInt 64 a &&& BitVec.ofInt 64 b).toNat : Nat) := rfl
  rw [e, ofInt_wrap, BitVec.getLsbD_and]
theorem has_or (a b : Int) (i : Nat) : has (bits .or .i64 a b) i = (has a i || has b i) := by
  unfold has
  have e : bits .or .i64 a b = IntKind.i64.wrap ((BitVec.ofInt 64 a ||| BitVec.ofInt 64 b).toNat : Nat) := rfl
  rw [e, ofInt_wrap, BitVec.getLsbD_or]
theorem has_xor (a b : Int) (i : Nat) : has (bits .xor .i64 a b) i = (has a i ^^ has b i) := by
  unfold has
  have e : bits .xor .i64 a b = IntKind.i64.wrap ((BitVec.ofInt 64 a ^^^ BitVec.ofInt 64 b).toNat : Nat) := rfl
  rw [e, ofInt_wrap, BitVec.getLsbD_xor]
/-- how many of seven -/
def c7 (f : Nat → Bool) : Nat := (f 0).toNat + (f 1).toNat + (f 2).toNat + (f 3).toNat + (f 4).toNat + (f 5).toNat + (f 6).toNat
def cnt (m : Int) : Nat := c7 (has m)
def rightB (m : Int) : Bool := decide (1 ≤ m) && decide (m ≤ 127)
def mostB (m y : Int) : Bool := rightB m && decide (cnt m < 2 * cnt (bits .and .i64 m y))
def mayB (m n : Int) : Bool := rightB m && (rightB n && decide (cnt (bits .xor .i64 m n) = 1))
def list (m : Int) : List Nat := (List.range 7).filter (has m)
theorem list_len (m : Int) : (list m).length = cnt m := by
  unfold list cnt c7
  rw [show List.range 7 = [0, 1, 2, 3, 4, 5, 6] from rfl]
  simp only [List.filter_cons, List.filter_nil]
  cases has m 0 <;> cases has m 1 <;> cases has m 2 <;> cases has m 3 <;> cases has m 4 <;> cases has m 5 <;> cases has m 6 <;> rfl
theorem bit_meet (x a b : Bool) : (x && a).toNat + (x && b).toNat ≤ x.toNat + (x && (a && b)).toNat := by
  cases x <;> cases a <;> cases b <;> decide
theorem meet_same (x a b : Nat → Bool) (h1 : c7 x < 2 * c7 (fun i => x i && a i)) (h2 : c7 x < 2 * c7 (fun i => x i && b i)) : c7 (fun i => x i && (a i && b i)) ≠ 0 := by
  unfold c7 at *
  dsimp only at h1 h2 ⊢
  have e0 := bit_meet (x 0) (a 0) (b 0)
  have e1 := bit_meet (x 1) (a 1) (b 1)
  have e2 := bit_meet (x 2) (a 2) (b 2)
  have e3 := bit_meet (x 3) (a 3) (b 3)
  have e4 := bit_meet (x 4) (a 4) (b 4)
  have e5 := bit_meet (x 5) (a 5) (b 5)
  have e6 := bit_meet (x 6) (a 6) (b 6)
  omega
theorem bit_next (x y a b : Bool) : (x && a).toNat + (y && b).toNat ≤ (x && y).toNat + (x ^^ y).toNat + (x && (y && (a && b))).toNat ∧ x.toNat + y.toNat = 2 * (x && y).toNat + (x ^^ y).toNat := by
  cases x <;> cases y <;> cases a <;> cases b <;> decide
theorem meet_next (x y a b : Nat → Bool) (h0 : c7 (fun i => x i ^^ y i) = 1) (h1 : c7 x < 2 * c7 (fun i => x i && a i)) (h2 : c7 y < 2 * c7 (fun i => y i && b i)) : c7 (fun i => x i && (y i && (a i && b i))) ≠ 0 := by
  unfold c7 at *
  dsimp only at h0 h1 h2 ⊢
  obtain ⟨e0, f0⟩ := bit_next (x 0) (y 0) (a 0) (b 0)
  obtain ⟨e1, f1⟩ := bit_next (x 1) (y 1) (a 1) (b 1)
  obtain ⟨e2, f2⟩ := bit_next (x 2) (y 2) (a 2) (b 2)
  obtain ⟨e3, f3⟩ := bit_next (x 3) (y 3) (a 3) (b 3)
  obtain ⟨e4, f4⟩ := bit_next (x 4) (y 4) (a 4) (b 4)
  obtain ⟨e5, f5⟩ := bit_next (x 5) (y 5) (a 5) (b 5)
  obtain ⟨e6, f6⟩ := bit_next (x 6) (y 6) (a 6) (b 6)
  omega
theorem cnt_congr {m : Int} {f : Nat → Bool} (h : ∀ i, has m i = f i) : cnt m = c7 f := by
  unfold cnt c7
  rw [h, h, h, h, h, h, h]
/-- chapter 21's P21.5 -/
theorem most_meet (m a b : Int) (h1 : mostB m a = true) (h2 : mostB m b = true) : cnt (bits .and .i64 (bits .and .i64 m a) b) ≠ 0 := by
  unfold mostB at h1 h2
  simp only [Bool.and_eq_true, decide_eq_true_eq] at h1 h2
  rw [cnt_congr (m := bits .and .i64 m a) (f := fun i => has m i && has a i) fun i => has_and m a i] at h1
  rw [cnt_congr (m := bits .and .i64 m b) (f := fun i => has m i && has b i) fun i => has_and m b i] at h2
  rw [cnt_congr (f := fun i => has m i && (has a i && has b i)) fun i => by rw [has_and, has_and, Bool.and_assoc]]
  exact meet_same (has m) (has a) (has b) h1.2 h2.2
theorem most_next (m n a b : Int) (h0 : mayB m n = true) (h1 : mostB m a = true) (h2 : mostB n b = true) : cnt (bits .and .i64 (bits .and .i64 (bits .and .i64 m n) a) b) ≠ 0 := by
  unfold mayB at h0
  unfold mostB at h1 h2
  simp only [Bool.and_eq_true, decide_eq_true_eq] at h0 h1 h2
  rw [cnt_congr (m := bits .xor .i64 m n) (f := fun i => has m i ^^ has n i) fun i => has_xor m n i] at h0
  rw [cnt_congr (m := bits .and .i64 m a) (f := fun i => has m i && has a i) fun i => has_and m a i] at h1
  rw [cnt_congr (m := bits .and .i64 n b) (f := fun i => has n i && has b i) fun i => has_and n b i] at h2
  rw [cnt_congr (f := fun i => has m i && (has n i && (has a i && has b i))) fun i => by rw [has_and, has_and, has_and, Bool.and_assoc, Bool.and_assoc]]
  exact meet_next (has m) (has n) (has a) (has b) h0.2.2 h1.2 h2.2
end Go.Proofs.Ytnelakpagjdcdaa.Cf
