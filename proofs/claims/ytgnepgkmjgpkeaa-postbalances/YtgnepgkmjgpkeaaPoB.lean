/- PLAIN LEAN: books of amounts that are not too large; no Go walked here. -/
import Derived.Test.YtgnepgkmjgpkeaaPoS
set_option linter.unusedVariables false
namespace Go.Proofs.Ytgnepgkmjgpkeaa.Po

/-- the amounts' sizes together -/
def mag : List Ba.T → Nat
  | [] => 0
  | a :: l => a.amt.natAbs + mag l
theorem mag_app : ∀ l m : List Ba.T, mag (l ++ m) = mag l + mag m
  | [], m => by rw [List.nil_append, mag]; omega
  | a :: l, m => by
    rw [List.cons_append, mag, mag, mag_app l m]
    omega
theorem part_mag (c : ByteArray) : ∀ l, (part c l).amt.natAbs ≤ mag l
  | [] => Nat.le_refl _
  | a :: l => by
    have := part_mag c l
    rw [part_cons, mag]
    split
    · omega
    · split
      · omega
      · show (0 : Int).natAbs ≤ _
        omega
theorem enter_mag (c : ByteArray) (n : Int) : ∀ l, mag (enter c n l) ≤ mag l + n.natAbs
  | [] => by
    rw [enter_nil, mag, mag]
    show (0 + n).natAbs + 0 ≤ 0 + n.natAbs
    omega
  | a :: l => by
    have := enter_mag c n l
    rcases lt_tri a.acct c with k | k | k
    · rw [enter_lt k, mag, mag]
      omega
    · rw [enter_eq k, mag, mag]
      show (a.amt + n).natAbs + mag l ≤ _
      omega
    · rw [enter_gt k, mag]
      show (0 + n).natAbs + mag (a :: l) ≤ _
      omega
theorem goE_small : ∀ (ls b : List Ba.T), mag b + mag ls ≤ 4611686018427387904 → goE ls b = 0
  | [], b, _ => rfl
  | x :: l, b, hm => by
    rw [mag] at hm
    have h1 := part_mag x.acct b
    have h2 := enter_mag x.acct x.amt b
    rw [goE, if_neg, goE_small l _ (by omega)]
    rw [Decidable.not_not]
    exact Mn.err_fit ⟨by omega, by omega⟩
theorem goL_mag : ∀ ls b : List Ba.T, mag (goL ls b) ≤ mag b + mag ls
  | [], b => by rw [goL, mag]; omega
  | x :: l, b => by
    have h2 := enter_mag x.acct x.amt b
    have h3 := goL_mag l (enter x.acct x.amt b)
    rw [goL, mag]
    omega
theorem mag_le {B : Nat} : ∀ {l : List Ba.T}, (∀ x ∈ l, x.amt.natAbs ≤ B) → mag l ≤ l.length * B
  | [], _ => by rw [mag]; omega
  | a :: l, h => by
    have h1 := h a (by simp)
    have h2 := mag_le (l := l) fun x hx => h x (by simp [hx])
    rw [mag, List.length_cons, Nat.succ_mul]
    omega
/-- rows of small amounts, entered into a book that is right -/
theorem ent_small {b l : List Ba.T} (hr : Sorted b) (hm : mag b + mag l ≤ 4611686018427387904) : entE b l = 0 ∧ entL b l = goL l b := by
  have h : entE b l = 0 := by rw [ent_go ((right_iff b).2 hr), goE_small l b hm]
  exact ⟨h, if_pos h⟩
theorem rows_app (c : ByteArray) : ∀ l m : List Ba.T, rows c (l ++ m) = rows c l + rows c m
  | [], m => by rw [List.nil_append, rows]; omega
  | a :: l, m => by
    rw [List.cons_append, rows, rows, rows_app c l m]
    omega
theorem named_app (c : ByteArray) (l m : List Ba.T) : named c (l ++ m) = (named c l || named c m) := by
  unfold named
  rw [List.any_append]
theorem rows_mag (c : ByteArray) : ∀ l : List Ba.T, (rows c l).natAbs ≤ mag l
  | [] => Nat.le_refl _
  | a :: l => by
    have := rows_mag c l
    rw [rows, mag]
    split <;> omega
theorem rows_one (c : ByteArray) (x : Ba.T) : rows c [x] = if x.acct = c then x.amt else 0 := by
  rw [rows, rows]
  omega
theorem named_one (c : ByteArray) (x : Ba.T) : named c [x] = decide (x.acct = c) := by simp [named]
theorem named_mem {c : ByteArray} {l : List Ba.T} : named c l = true ↔ ∃ x ∈ l, x.acct = c := by simp [named]
/-- a right book has an account as it is named -/
theorem has_named {c : ByteArray} {l : List Ba.T} (h : Sorted l) : has c l = named c l := by
  cases e : named c l with
  | true =>
    obtain ⟨x, hx, he⟩ := named_mem.1 e
    exact (look h hx he).2
  | false =>
    cases k : has c l with
    | false => rfl
    | true => rw [named_mem.2 (has_mem k)] at e; cases e
end Go.Proofs.Ytgnepgkmjgpkeaa.Po
