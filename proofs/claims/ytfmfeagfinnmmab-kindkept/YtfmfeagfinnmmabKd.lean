/- PLAIN LEAN: may values be a thing? what the document says of them, one behind the other; no Go walked here. -/
import Derived.Test.YtfmfeagfinnmmabVlK
namespace Go.Proofs.Ytfmfeagfinnmmab.Kd
open Vl (T)

/-- only the fields that its kind names are not zero, and they are what they may be -/
def good (x : T) : Prop :=
  (x.kind = 0 ∧ x.n = 0 ∧ x.text = .empty ∧ x.y = 0 ∧ x.m = 0 ∧ x.d = 0) ∨
  (x.kind = 1 ∧ x.text = .empty ∧ x.y = 0 ∧ x.m = 0 ∧ x.d = 0) ∨
  (x.kind = 2 ∧ x.n = 0 ∧ x.y = 0 ∧ x.m = 0 ∧ x.d = 0) ∨
  (x.kind = 3 ∧ (x.n = 0 ∨ x.n = 1) ∧ x.text = .empty ∧ x.y = 0 ∧ x.m = 0 ∧ x.d = 0) ∨
  (x.kind = 4 ∧ x.n = 0 ∧ x.text = .empty) ∨
  (x.kind = 5 ∧ 0 ≤ x.n ∧ x.text = .empty ∧ x.y = 0 ∧ x.m = 0 ∧ x.d = 0)
def goodB (x : T) : Bool :=
  decide (x.kind = 0 ∧ x.n = 0 ∧ x.text = .empty ∧ x.y = 0 ∧ x.m = 0 ∧ x.d = 0) ||
  decide (x.kind = 1 ∧ x.text = .empty ∧ x.y = 0 ∧ x.m = 0 ∧ x.d = 0) ||
  decide (x.kind = 2 ∧ x.n = 0 ∧ x.y = 0 ∧ x.m = 0 ∧ x.d = 0) ||
  decide (x.kind = 3 ∧ (x.n = 0 ∨ x.n = 1) ∧ x.text = .empty ∧ x.y = 0 ∧ x.m = 0 ∧ x.d = 0) ||
  decide (x.kind = 4 ∧ x.n = 0 ∧ x.text = .empty) ||
  decide (x.kind = 5 ∧ 0 ≤ x.n ∧ x.text = .empty ∧ x.y = 0 ∧ x.m = 0 ∧ x.d = 0)
theorem goodB_iff (x : T) : goodB x = true ↔ good x := by
  unfold goodB good
  simp only [Bool.or_eq_true, decide_eq_true_iff, or_assoc]
/-- what one value is refused for, within so many lists -/
def chk (x : T) (deep : Nat) : Int := if x.kind = 5 ∧ 16 ≤ deep then 2 else if x.kind < 0 ∨ 5 < x.kind then 17 else if goodB x = true then 0 else 1
theorem chk_deep {x : T} {deep : Nat} (h : x.kind = 5) (k : 16 ≤ deep) : chk x deep = 2 := if_pos ⟨h, k⟩
theorem chk_kind {x : T} {deep : Nat} (h : x.kind < 0 ∨ 5 < x.kind) : chk x deep = 17 := by
  unfold chk
  rw [if_neg (by omega), if_pos h]
theorem chk_good {x : T} {deep : Nat} (h : ¬ (x.kind = 5 ∧ 16 ≤ deep)) (k : good x) : chk x deep = 0 := by
  have hk := k
  unfold good at hk
  unfold chk
  rw [if_neg h, if_neg (by omega), if_pos ((goodB_iff x).2 k)]
theorem chk_bad {x : T} {deep : Nat} (h : ¬ (x.kind = 5 ∧ 16 ≤ deep)) (h0 : 0 ≤ x.kind) (h5 : x.kind ≤ 5) (k : ¬ good x) : chk x deep = 1 := by
  unfold chk
  rw [if_neg h, if_neg (by omega), if_neg (fun e => k ((goodB_iff x).1 e))]
/-- so many things, one behind the other: what is left behind them, or what is wrong -/
def many (g : List T → Int ⊕ List T) : Nat → List T → Int ⊕ List T
  | 0, l => .inr l
  | k + 1, l => match g l with
    | .inl e => .inl e
    | .inr r => many g k r
/-- one thing; f: 17 less the lists that it stands within -/
def walkL : Nat → List T → Int ⊕ List T
  | 0, _ => .inl 2
  | _ + 1, [] => .inl 3
  | f + 1, x :: l => if chk x (16 - f) ≠ 0 then .inl (chk x (16 - f)) else if x.kind = 5 then many (walkL f) x.n.toNat l else .inr l
def ofE (l : List T) : Int := if 200 < l.length then 2 else match walkL 17 l with
  | .inl e => e
  | .inr [] => 0
  | .inr (_ :: _) => 5
theorem walk_none (f : Nat) : walkL (f + 1) [] = .inl 3 := rfl
theorem walk_bad {f : Nat} {x : T} {l : List T} (h : chk x (16 - f) ≠ 0) : walkL (f + 1) (x :: l) = .inl (chk x (16 - f)) := by
  rw [walkL, if_pos h]
theorem walk_one {f : Nat} {x : T} {l : List T} (h : chk x (16 - f) = 0) (k : x.kind ≠ 5) : walkL (f + 1) (x :: l) = .inr l := by
  rw [walkL, if_neg (by rw [h]; simp), if_neg k]
theorem walk_list {f : Nat} {x : T} {l : List T} (h : chk x (16 - f) = 0) (k : x.kind = 5) : walkL (f + 1) (x :: l) = many (walkL f) x.n.toNat l := by
  rw [walkL, if_neg (by rw [h]; simp), if_pos k]
theorem many_bad {g : List T → Int ⊕ List T} {k : Nat} {l : List T} {e : Int} (h : g l = .inl e) : many g (k + 1) l = .inl e := by
  rw [many, h]
theorem many_step {g : List T → Int ⊕ List T} {k : Nat} {l r : List T} (h : g l = .inr r) : many g (k + 1) l = many g k r := by
  rw [many, h]
end Go.Proofs.Ytfmfeagfinnmmab.Kd
