/- MERGED: RefBare. (By mg.py.) -/
import Derived.Test.YtndfhnaafaijcaaMGc
/- impostref8.Bare: a command with the fields that its kind names alone. (By genbare.py.) -/
namespace Go.Proofs.Ytndfhnaafaijcaa
open Go.RowKit
open Mem
set_option maxRecDepth 100000

set_option maxHeartbeats 8000000 in
theorem bare_1 (c : Cm.T) (w : World) (hk : c.kind = 1) :
    Calls Try.prog 19 #[Cm.val c] w fun e w' => e = .returned (.tuple #[Cm.val { Cm.T.zero with kind := 1, series := c.series, limit := c.limit }, .bool true]) ∧ Below w.heap.size w w' := by
  unfold Cm.val
  rw [hk]
  go_enter Try.func19, Try.ntmps19
  go_wp2_with (first | (with_reducible apply Cm.wpl_load; rfl; rfl; rfl; exact Cm.heap_third _ _ _ _; rfl) | (with_reducible apply Cm.wpl_store; rfl; rfl; rfl; exact Cm.size_two _ _ _; rfl; rfl; rfl; rfl) | (with_reducible apply Cm.wpl_store_mid; rfl; rfl; rfl; exact Cm.size_one _ _; rfl; rfl; rfl; rfl))
  go_region
  go_wp2_with (first | (with_reducible apply Cm.wpl_load; rfl; rfl; rfl; exact Cm.heap_third _ _ _ _; rfl) | (with_reducible apply Cm.wpl_store; rfl; rfl; rfl; exact Cm.size_two _ _ _; rfl; rfl; rfl; rfl) | (with_reducible apply Cm.wpl_store_mid; rfl; rfl; rfl; exact Cm.size_one _ _; rfl; rfl; rfl; rfl))
  refine bodyPost_ret (Cm.results_row2 Try.results19 rfl (Cm.heap_mid _ _ _ _) rfl) rfl ?_
  exact ⟨rfl, (below_box (below_box (below_box (Below.refl _ _) _) _) _).drew⟩
set_option maxHeartbeats 8000000 in
theorem bare_2 (c : Cm.T) (w : World) (hk : c.kind = 2) :
    Calls Try.prog 19 #[Cm.val c] w fun e w' => e = .returned (.tuple #[Cm.val { Cm.T.zero with kind := 2, series := c.series }, .bool true]) ∧ Below w.heap.size w w' := by
  unfold Cm.val
  rw [hk]
  go_enter Try.func19, Try.ntmps19
  go_wp2_with (first | (with_reducible apply Cm.wpl_load; rfl; rfl; rfl; exact Cm.heap_third _ _ _ _; rfl) | (with_reducible apply Cm.wpl_store; rfl; rfl; rfl; exact Cm.size_two _ _ _; rfl; rfl; rfl; rfl) | (with_reducible apply Cm.wpl_store_mid; rfl; rfl; rfl; exact Cm.size_one _ _; rfl; rfl; rfl; rfl))
  refine bodyPost_ret (Cm.results_row2 Try.results19 rfl (Cm.heap_mid _ _ _ _) rfl) rfl ?_
  exact ⟨rfl, below_box (below_box (below_box (Below.refl _ _) _) _) _⟩
set_option maxHeartbeats 8000000 in
theorem bare_6 (c : Cm.T) (w : World) (hk : c.kind = 6) :
    Calls Try.prog 19 #[Cm.val c] w fun e w' => e = .returned (.tuple #[Cm.val { Cm.T.zero with kind := 6 }, .bool true]) ∧ Below w.heap.size w w' := by
  unfold Cm.val
  rw [hk]
  go_enter Try.func19, Try.ntmps19
  go_wp2_with (first | (with_reducible apply Cm.wpl_load; rfl; rfl; rfl; exact Cm.heap_third _ _ _ _; rfl) | (with_reducible apply Cm.wpl_store; rfl; rfl; rfl; exact Cm.size_two _ _ _; rfl; rfl; rfl; rfl) | (with_reducible apply Cm.wpl_store_mid; rfl; rfl; rfl; exact Cm.size_one _ _; rfl; rfl; rfl; rfl))
  refine bodyPost_ret (Cm.results_row2 Try.results19 rfl (Cm.heap_mid _ _ _ _) rfl) rfl ?_
  exact ⟨rfl, below_box (below_box (below_box (Below.refl _ _) _) _) _⟩
set_option maxHeartbeats 8000000 in
theorem bare_7 (c : Cm.T) (w : World) (hk : c.kind = 7) :
    Calls Try.prog 19 #[Cm.val c] w fun e w' => e = .returned (.tuple #[Cm.val { Cm.T.zero with kind := 7, session := c.session }, .bool true]) ∧ Below w.heap.size w w' := by
  unfold Cm.val
  rw [hk]
  go_enter Try.func19, Try.ntmps19
  go_wp2_with (first | (with_reducible apply Cm.wpl_load; rfl; rfl; rfl; exact Cm.heap_third _ _ _ _; rfl) | (with_reducible apply Cm.wpl_store; rfl; rfl; rfl; exact Cm.size_two _ _ _; rfl; rfl; rfl; rfl) | (with_reducible apply Cm.wpl_store_mid; rfl; rfl; rfl; exact Cm.size_one _ _; rfl; rfl; rfl; rfl))
  refine bodyPost_ret (Cm.results_row2 Try.results19 rfl (Cm.heap_mid _ _ _ _) rfl) rfl ?_
  exact ⟨rfl, below_box (below_box (below_box (Below.refl _ _) _) _) _⟩
end Go.Proofs.Ytndfhnaafaijcaa
