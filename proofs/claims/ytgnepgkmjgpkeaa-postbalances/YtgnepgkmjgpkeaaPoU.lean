/- PLAIN LEAN: rows entered and taken off again; no Go walked here. -/
import Derived.Test.YtgnepgkmjgpkeaaPoB
set_option linter.unusedVariables false
namespace Go.Proofs.Ytgnepgkmjgpkeaa.Po

def neg (x : Ba.T) : Ba.T := ⟨x.acct, -x.amt⟩
theorem mag_neg : ∀ l : List Ba.T, mag (l.map neg) = mag l
  | [] => rfl
  | a :: l => by
    rw [List.map_cons, mag, mag, mag_neg l]
    show (-a.amt).natAbs + _ = _
    omega
theorem rows_neg (c : ByteArray) : ∀ l : List Ba.T, rows c (l.map neg) = -rows c l
  | [] => rfl
  | a :: l => by
    rw [List.map_cons, rows, rows, rows_neg c l]
    show (if a.acct = c then -a.amt else 0) + _ = _
    split <;> omega
theorem enter_grow (c : ByteArray) (n : Int) : ∀ l : List Ba.T, l.length ≤ (enter c n l).length
  | [] => Nat.zero_le _
  | a :: l => by
    have := enter_grow c n l
    rcases lt_tri a.acct c with k | k | k
    · rw [enter_lt k, List.length_cons, List.length_cons]
      omega
    · rw [enter_eq k, List.length_cons, List.length_cons]
      omega
    · rw [enter_gt k]
      simp only [List.length_cons]
      omega
theorem goL_grow : ∀ ls b : List Ba.T, b.length ≤ (goL ls b).length
  | [], b => Nat.le_refl _
  | x :: l, b => by
    have h1 := goL_grow l (enter x.acct x.amt b)
    have h2 := enter_grow x.acct x.amt b
    rw [goL]
    omega
/-- what an account has behind rows and the same taken off -/
theorem undo_val (c : ByteArray) (P b : List Ba.T) : val c (goL (P.map neg) (goL P b)) = val c b := by
  have h1 := (val_goL c (P.map neg) (goL P b)).1
  have h2 := (val_goL c P b).1
  have h3 := rows_neg c P
  omega
/-- in a right book, what an account has is what its one row says, or 0 -/
theorem val_named {c : ByteArray} {l : List Ba.T} (h : Sorted l) : (if named c l = true then val c l else 0) = val c l := by
  split
  · rfl
  · rename_i hn
    exact (val_no (by rw [has_named h]; exact Bool.eq_false_iff.2 hn)).symm
theorem mag_take (l : List Ba.T) (k : Nat) : mag (l.take k) ≤ mag l := by
  have h := mag_app (l.take k) (l.drop k)
  rw [List.take_append_drop] at h
  omega
end Go.Proofs.Ytgnepgkmjgpkeaa.Po
