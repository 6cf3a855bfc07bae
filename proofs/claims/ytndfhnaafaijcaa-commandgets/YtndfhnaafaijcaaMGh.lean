/- MERGED: CdFc, CdFd. (By mg.py.) -/
import Derived.Test.YtndfhnaafaijcaaMGd
/- CONTRACTS OF PACKAGE command: Flat. (By genflat.py.) -/
set_option linter.unusedVariables false
set_option maxRecDepth 100000
namespace Go.Proofs.Ytndfhnaafaijcaa
open Go.RowKit
open Mem
set_option maxHeartbeats 8000000 in
theorem flat_2 (series : ByteArray) (h_series : series.size ≤ 140737488355328) (w : World) :
    Calls Try.prog 12 #[Cm.cv (.iface 75 (.agg #[.string series]))] w fun e w' => e = .returned (.tuple #[Cm.val { Cm.T.zero with kind := 2, series := series }, .bool true]) ∧ Below w.heap.size w w' := by
  have HI : ∀ u, Hid (Cm.Is u (Cm.S.sht series) (.iface 75 (.agg #[.string series]))) := fun u => Lib.hid (.sht series h_series)
  have a_open := ask_shut_open
  have a_shut := ask_shut_shut
  unfold Cm.cv
  go_enter Try.func12, Try.ntmps12
  go_wp2_with fail
  refine (cmd_kind _ _ _ (HI _).out).mono ?_
  rintro e w1 ⟨rfl, rfl⟩
  rw [show (Cm.S.sht series).kind = 2 from rfl]
  clear HI
  go_wp2_with fail
  go_region
  go_wp2_with fail
  refine bodyPost_ret (Cm.results_row2 Try.results12 rfl (heap_old (heap_old (heap_old (Cm.heap_second _ _ _)))) rfl) rfl ⟨rfl, (below_box (below_box (below_box (below_box (below_box (Below.refl _ _) _) _) _) _) _).drew⟩
set_option maxHeartbeats 8000000 in
theorem flat_3 (cat : ByteArray) (fy : Int) (fm : Int) (fd : Int) (bp : Int) (h_cat : cat.size ≤ 140737488355328) (h_fy : Fit fy) (h_fm : Fit fm) (h_fd : Fit fd) (h_bp : Fit bp) (w : World) :
    Calls Try.prog 12 #[Cm.cv (.iface 77 (.agg #[.string cat, .int .i64 fy, .int .i64 fm, .int .i64 fd, .int .i64 bp]))] w fun e w' => e = .returned (.tuple #[Cm.val { Cm.T.zero with kind := 3, cat := cat, fy := fy, fm := fm, fd := fd, bp := bp }, .bool true]) ∧ Below w.heap.size w w' := by
  have HI : ∀ u, Hid (Cm.Is u (Cm.S.lvy cat fy fm fd bp) (.iface 77 (.agg #[.string cat, .int .i64 fy, .int .i64 fm, .int .i64 fd, .int .i64 bp]))) := fun u => Lib.hid (.lvy cat fy fm fd bp h_cat h_fy h_fm h_fd h_bp)
  have a_open := ask_levy_open
  have a_shut := ask_levy_shut
  have a_levy := ask_levy_levy
  unfold Cm.cv
  go_enter Try.func12, Try.ntmps12
  go_wp2_with fail
  refine (cmd_kind _ _ _ (HI _).out).mono ?_
  rintro e w1 ⟨rfl, rfl⟩
  rw [show (Cm.S.lvy cat fy fm fd bp).kind = 3 from rfl]
  clear HI
  go_wp2_with fail
  go_region
  go_wp2_with fail
  refine bodyPost_ret (Cm.results_row2 Try.results12 rfl (heap_old (heap_old (heap_old (Cm.heap_second _ _ _)))) rfl) rfl ⟨rfl, (below_box (below_box (below_box (below_box (below_box (Below.refl _ _) _) _) _) _) _).drew⟩
end Go.Proofs.Ytndfhnaafaijcaa

/- CONTRACTS OF PACKAGE command: Flat. (By genflat.py.) -/
set_option linter.unusedVariables false
set_option maxRecDepth 100000
namespace Go.Proofs.Ytndfhnaafaijcaa
open Go.RowKit
open Mem
set_option maxHeartbeats 8000000 in
theorem flat_7 (session : Int) (h_session : Fit session) (w : World) :
    Calls Try.prog 12 #[Cm.cv (.iface 84 (.agg #[.int .i64 session]))] w fun e w' => e = .returned (.tuple #[Cm.val { Cm.T.zero with kind := 7, session := session }, .bool true]) ∧ Below w.heap.size w w' := by
  have HI : ∀ u, Hid (Cm.Is u (Cm.S.lv session) (.iface 84 (.agg #[.int .i64 session]))) := fun u => Lib.hid (.lv session h_session)
  have a_open := ask_leave_open
  have a_shut := ask_leave_shut
  have a_levy := ask_leave_levy
  have a_Post := ask_leave_Post
  have a_credit := ask_leave_credit
  have a_leave := ask_leave_leave
  unfold Cm.cv
  go_enter Try.func12, Try.ntmps12
  go_wp2_with fail
  refine (cmd_kind _ _ _ (HI _).out).mono ?_
  rintro e w1 ⟨rfl, rfl⟩
  rw [show (Cm.S.lv session).kind = 7 from rfl]
  clear HI
  go_wp2_with fail
  go_region
  go_wp2_with fail
  refine bodyPost_ret (Cm.results_row2 Try.results12 rfl (heap_old (heap_old (heap_old (Cm.heap_second _ _ _)))) rfl) rfl ⟨rfl, (below_box (below_box (below_box (below_box (below_box (Below.refl _ _) _) _) _) _) _).drew⟩
set_option maxHeartbeats 8000000 in
theorem flat_8 (series : ByteArray) (h_series : series.size ≤ 140737488355328) (w : World) :
    Calls Try.prog 12 #[Cm.cv (.iface 85 (.agg #[.string series]))] w fun e w' => e = .returned (.tuple #[Cm.val { Cm.T.zero with kind := 8, series := series }, .bool true]) ∧ Below w.heap.size w w' := by
  have HI : ∀ u, Hid (Cm.Is u (Cm.S.sk series) (.iface 85 (.agg #[.string series]))) := fun u => Lib.hid (.sk series h_series)
  have a_open := ask_ask_open
  have a_shut := ask_ask_shut
  have a_levy := ask_ask_levy
  have a_Post := ask_ask_Post
  have a_credit := ask_ask_credit
  have a_leave := ask_ask_leave
  have a_ask := ask_ask_ask
  unfold Cm.cv
  go_enter Try.func12, Try.ntmps12
  go_wp2_with fail
  refine (cmd_kind _ _ _ (HI _).out).mono ?_
  rintro e w1 ⟨rfl, rfl⟩
  rw [show (Cm.S.sk series).kind = 8 from rfl]
  clear HI
  go_wp2_with fail
  go_region
  go_wp2_with fail
  refine bodyPost_ret (Cm.results_row2 Try.results12 rfl (heap_old (heap_old (heap_old (Cm.heap_second _ _ _)))) rfl) rfl ⟨rfl, (below_box (below_box (below_box (below_box (below_box (Below.refl _ _) _) _) _) _) _).drew⟩
end Go.Proofs.Ytndfhnaafaijcaa
