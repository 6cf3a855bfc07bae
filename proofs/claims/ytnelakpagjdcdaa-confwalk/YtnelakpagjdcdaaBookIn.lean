/- CONTRACT OF impostbook.Within: a number in the bounds. -/
import Derived.Test.YtnelakpagjdcdaaPlain
namespace Go.Proofs.Ytnelakpagjdcdaa
open Go.RowKit

theorem bookWithin_any (n lo hi : Int) (w : World) (_hn : Fit n) (h0 : 0 ≤ lo) (h1 : lo ≤ hi) (h2 : hi ≤ 4611686018427387904) :
    Calls Try.prog 23 #[.int .i64 n, .int .i64 lo, .int .i64 hi] w fun e w' => (∃ r : Nat, e = .returned (.int .i64 (r : Int)) ∧ lo ≤ r ∧ r ≤ hi) ∧ w' = w := by
  have a1 : n.tmod (hi - lo + 1) < hi - lo + 1 := Int.tmod_lt_of_pos _ (by omega)
  have a2 : -(hi - lo + 1) < n.tmod (hi - lo + 1) := by
    have := Int.tmod_lt_of_pos (-n) (show 0 < hi - lo + 1 by omega)
    rw [Int.neg_tmod] at this
    omega
  go_enter Try.func23, Try.ntmps23
  go_wp2
  all_goals go_ret
  all_goals refine ⟨⟨Int.toNat _, ret_int (Int.toNat_of_nonneg ?_).symm, ?_, ?_⟩, rfl⟩
  all_goals omega
end Go.Proofs.Ytnelakpagjdcdaa
