/- CONTRACT OF impostbook.Within: a number in the bounds, the lower one below 0 or not. -/
import Derived.Test.YtgnepgkmjgpkeaaBookIn
namespace Go.Proofs.Ytgnepgkmjgpkeaa
open Go.RowKit

theorem bookWithin_z (n lo hi : Int) (w : World) (_hn : Fit n) (h0 : -1152921504606846976 ≤ lo) (h1 : lo ≤ hi) (h2 : hi ≤ 1152921504606846976) :
    Calls Try.prog 21 #[.int .i64 n, .int .i64 lo, .int .i64 hi] w fun e w' => (∃ r : Int, e = .returned (.int .i64 r) ∧ lo ≤ r ∧ r ≤ hi) ∧ w' = w := by
  have a1 : n.tmod (hi - lo + 1) < hi - lo + 1 := Int.tmod_lt_of_pos _ (by omega)
  have a2 : -(hi - lo + 1) < n.tmod (hi - lo + 1) := by
    have := Int.tmod_lt_of_pos (-n) (show 0 < hi - lo + 1 by omega)
    rw [Int.neg_tmod] at this
    omega
  go_enter Try.func21, Try.ntmps21
  go_wp2
  all_goals go_ret
  all_goals refine ⟨⟨_, ret_int rfl, ?_, ?_⟩, rfl⟩
  all_goals omega
end Go.Proofs.Ytgnepgkmjgpkeaa
