/- WHAT THE CALLS OF PACKAGE session ANSWER, as contracts say it. -/
import Derived.Test.YtfilanbjfnnknaaSp
import Derived.Test.YtfilanbjfnnknaaSnM
import Derived.Test.YtfilanbjfnnknaaRpK
set_option linter.unusedVariables false
namespace Go.Proofs.Ytfilanbjfnnknaa
open Go.RowKit

/-- the reply of a session -/
def Sp.rep (r : Sn.T) : Rp.T := ⟨r.why, r.num, r.gross⟩
def JoinE (w : World) (l : List Sn.T) (i : Int) (e : Ending) (w' : World) : Prop := ∃ v, e = .returned (.tuple #[v, .int .i64 (Sp.joinE l i)]) ∧ Sn.Own w' w.heap.size v (Sp.joinR l i) ∧ Below w.heap.size w w'
def LeaveE (w : World) (l : List Sn.T) (i : Int) (e : Ending) (w' : World) : Prop := ∃ v, e = .returned (.tuple #[v, .int .i64 (Sp.leaveE l i)]) ∧ Sn.Own w' w.heap.size v (Sp.leaveR l i) ∧ Below w.heap.size w w'
def LookE (w0 : World) (l : List Sn.T) (i q : Int) (e : Ending) (w' : World) : Prop := e = .returned (.tuple #[Rp.val (Sp.rep (Sp.lookT l i q)), .bool (Sp.lookO l i q), .int .i64 (Sp.lookE l i q)]) ∧ Below w0.heap.size w0 w'
def KeepE (w : World) (l : List Sn.T) (i q : Int) (r : Rp.T) (e : Ending) (w' : World) : Prop := ∃ v, e = .returned (.tuple #[v, .int .i64 (Sp.keepE l i q)]) ∧ Sn.Own w' w.heap.size v (Sp.keepR l i q r.why r.num r.gross) ∧ Below w.heap.size w w'
theorem Sn.short_new {i : Int} (h : Fit i) : Sn.Short (Sp.new i) := ⟨h, ⟨by show (-9223372036854775808 : Int) ≤ 0; omega, by show (0 : Int) ≤ 9223372036854775807; omega⟩, ⟨by show (-9223372036854775808 : Int) ≤ 0; omega, by show (0 : Int) ≤ 9223372036854775807; omega⟩, ⟨by show (-9223372036854775808 : Int) ≤ 0; omega, by show (0 : Int) ≤ 9223372036854775807; omega⟩, ⟨by show (-9223372036854775808 : Int) ≤ 0; omega, by show (0 : Int) ≤ 9223372036854775807; omega⟩⟩
theorem Sp.join_short {l : List Sn.T} {i : Int} (hs : ∀ r ∈ l, Sn.Short r) (hi : Fit i) : ∀ r ∈ Sp.joinR l i, Sn.Short r := by
  intro r hr
  unfold Sp.joinR at hr
  split at hr
  · rcases Sp.openL_mem.1 hr with rfl | hr
    · exact Sn.short_new hi
    · exact hs r hr
  · cases hr
theorem Sp.leave_short {l : List Sn.T} {i : Int} (hs : ∀ r ∈ l, Sn.Short r) : ∀ r ∈ Sp.leaveR l i, Sn.Short r := by
  intro r hr
  unfold Sp.leaveR at hr
  split at hr
  · exact hs r (Sp.cut_mem hr)
  · cases hr
theorem Sp.set_short {l : List Sn.T} {k : Nat} {r : Sn.T} (hs : ∀ r ∈ l, Sn.Short r) (hr : Sn.Short r) : ∀ x ∈ l.set k r, Sn.Short x := by
  intro x hx
  rcases List.mem_or_eq_of_mem_set hx with hx | rfl
  · exact hs x hx
  · exact hr
theorem Sp.keep_short {l : List Sn.T} {i q : Int} {r : Rp.T} (hs : ∀ r ∈ l, Sn.Short r) (hi : Fit i) (hq : Fit q) (hr : Rp.Short r) : ∀ x ∈ Sp.keepR l i q r.why r.num r.gross, Sn.Short x := by
  intro x hx
  unfold Sp.keepR at hx
  split at hx
  · exact Sp.set_short hs ⟨hi, hq, hr.1, hr.2.1, hr.2.2⟩ x hx
  · cases hx
theorem Sp.join_len (l : List Sn.T) (i : Int) : (Sp.joinR l i).length ≤ l.length + 1 := by
  unfold Sp.joinR
  split
  · rw [Sp.openL_len]
    exact Nat.le_refl _
  · exact Nat.zero_le _
theorem Sp.leave_len (l : List Sn.T) (i : Int) : (Sp.leaveR l i).length ≤ l.length := by
  unfold Sp.leaveR
  split
  · exact (Sp.cut_sub l _).length_le
  · exact Nat.zero_le _
theorem Sp.keep_len (l : List Sn.T) (i q y n g : Int) : (Sp.keepR l i q y n g).length ≤ l.length := by
  unfold Sp.keepR
  split
  · rw [List.length_set]
    exact Nat.le_refl _
  · exact Nat.zero_le _
end Go.Proofs.Ytfilanbjfnnknaa
