/- WHAT A WALK OVER NUMBERS ALONE NEEDS. -/
import Derived.Test.YtnelakpagjdcdaaRows
import Derived.WalkKit
import Derived.WalkLawsBesides
import Derived.Laws.BitsAllLaws
import Derived.Deep.QuietTactic
import Derived.BigQuiet
import Derived.WalkSmall
import Derived.WalkSpells
import Derived.Lib.Hide
namespace Go.Proofs.Ytnelakpagjdcdaa
open Go.RowKit

theorem ret_bool {a b : Bool} (h : a = b) : Ending.returned (.bool a) = .returned (.bool b) := by rw [h]
theorem ret_int {a b : Int} (h : a = b) : Ending.returned (.int .i64 a) = .returned (.int .i64 b) := by rw [h]
theorem ret_u64 {a b : Int} (h : a = b) : Ending.returned (.int .u64 a) = .returned (.int .u64 b) := by rw [h]
/-- two numbers answered -/
def both (v e : Int) : Ending := .returned (.tuple #[.int .i64 v, .int .i64 e])
theorem both_eq {a b c d : Int} (h : a = b) (k : c = d) : both a c = both b d := by rw [h, k]
def Fit (x : Int) : Prop := -9223372036854775808 ≤ x ∧ x ≤ 9223372036854775807
theorem fit_in {a : Int} (h : (Lit.int .i64 a).wf = true) : Fit a := by
  simpa [Lit.wf, IntKind.min, IntKind.max, IntKind.signed, IntKind.bits, Fit] using h
end Go.Proofs.Ytnelakpagjdcdaa
