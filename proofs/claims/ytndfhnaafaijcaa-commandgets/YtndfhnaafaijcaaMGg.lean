/- MERGED: CdFa, CdFb. (By mg.py.) -/
import Derived.Test.YtndfhnaafaijcaaMGd
/- CONTRACTS OF PACKAGE command: Flat. (By genflat.py.) -/
set_option linter.unusedVariables false
set_option maxRecDepth 100000
namespace Go.Proofs.Ytndfhnaafaijcaa
open Go.RowKit
open Mem
set_option maxHeartbeats 8000000 in
theorem flat_1 (series : ByteArray) (limit : Int) (h_series : series.size ≤ 140737488355328) (h_limit : Fit limit) (w : World) :
    Calls Try.prog 12 #[Cm.cv (.iface 73 (.agg #[.string series, .int .i64 limit]))] w fun e w' => e = .returned (.tuple #[Cm.val { Cm.T.zero with kind := 1, series := series, limit := limit }, .bool true]) ∧ Below w.heap.size w w' := by
  have HI : ∀ u, Hid (Cm.Is u (Cm.S.opn series limit) (.iface 73 (.agg #[.string series, .int .i64 limit]))) := fun u => Lib.hid (.opn series limit h_series h_limit)
  have a_open := ask_open_open
  unfold Cm.cv
  go_enter Try.func12, Try.ntmps12
  go_wp2_with fail
  refine (cmd_kind _ _ _ (HI _).out).mono ?_
  rintro e w1 ⟨rfl, rfl⟩
  rw [show (Cm.S.opn series limit).kind = 1 from rfl]
  clear HI
  go_wp2_with fail
  go_region
  go_wp2_with fail
  go_region
  go_wp2_with fail
  refine bodyPost_ret (Cm.results_row2 Try.results12 rfl (heap_old (heap_old (heap_old (Cm.heap_second _ _ _)))) rfl) rfl ⟨rfl, (below_box (below_box (below_box (below_box (below_box (Below.refl _ _) _) _) _) _) _).drew.drew⟩
set_option maxHeartbeats 8000000 in
theorem flat_0 (w : World) :
    Calls Try.prog 12 #[Cm.cv (.nilIface)] w fun e w' => e = .returned (.tuple #[Cm.val Cm.T.zero, .bool false]) ∧ Below w.heap.size w w' := by
  have HI : ∀ u, Hid (Cm.Is u (Cm.S.zero) (.nilIface)) := fun u => Lib.hid (.none)
  have a_open := ask_nil_open
  have a_shut := ask_nil_shut
  have a_levy := ask_nil_levy
  have a_Post := ask_nil_Post
  have a_credit := ask_nil_credit
  have a_leave := ask_nil_leave
  have a_ask := ask_nil_ask
  unfold Cm.cv
  go_enter Try.func12, Try.ntmps12
  go_wp2_with fail
  refine (cmd_kind _ _ _ (HI _).out).mono ?_
  rintro e w1 ⟨rfl, rfl⟩
  rw [show (Cm.S.zero).kind = 0 from rfl]
  clear HI
  go_wp2_with fail
  go_region
  go_wp2_with fail
  refine bodyPost_ret (Cm.results_row2 Try.results12 rfl (heap_old (heap_old (Cm.heap_second _ _ _))) rfl) rfl ⟨rfl, (below_box (below_box (below_box (below_box (Below.refl _ _) _) _) _) _).drew⟩
end Go.Proofs.Ytndfhnaafaijcaa

/- CONTRACTS OF PACKAGE command: Flat. (By genflat.py.) -/
set_option linter.unusedVariables false
set_option maxRecDepth 100000
namespace Go.Proofs.Ytndfhnaafaijcaa
open Go.RowKit
open Mem
set_option maxHeartbeats 8000000 in
theorem flat_5 (series : ByteArray) (y : Int) (m : Int) (d : Int) (ofs : ByteArray) (ofn : Int) (h_series : series.size ≤ 140737488355328) (h_y : Fit y) (h_m : Fit m) (h_d : Fit d) (h_ofs : ofs.size ≤ 140737488355328) (h_ofn : Fit ofn) (w : World) :
    Calls Try.prog 12 #[Cm.cv (.iface 80 (.agg #[.string series, .int .i64 y, .int .i64 m, .int .i64 d, .string ofs, .int .i64 ofn]))] w fun e w' => e = .returned (.tuple #[Cm.val { Cm.T.zero with kind := 5, series := series, y := y, m := m, d := d, ofs := ofs, ofn := ofn }, .bool true]) ∧ Below w.heap.size w w' := by
  have HI : ∀ u, Hid (Cm.Is u (Cm.S.crd series y m d ofs ofn) (.iface 80 (.agg #[.string series, .int .i64 y, .int .i64 m, .int .i64 d, .string ofs, .int .i64 ofn]))) := fun u => Lib.hid (.crd series y m d ofs ofn h_series h_y h_m h_d h_ofs h_ofn)
  have a_open := ask_credit_open
  have a_shut := ask_credit_shut
  have a_levy := ask_credit_levy
  have a_Post := ask_credit_Post
  have a_credit := ask_credit_credit
  unfold Cm.cv
  go_enter Try.func12, Try.ntmps12
  go_wp2_with fail
  refine (cmd_kind _ _ _ (HI _).out).mono ?_
  rintro e w1 ⟨rfl, rfl⟩
  rw [show (Cm.S.crd series y m d ofs ofn).kind = 5 from rfl]
  clear HI
  go_wp2_with fail
  go_region
  go_wp2_with fail
  go_region
  go_wp2_with fail
  refine bodyPost_ret (Cm.results_row2 Try.results12 rfl (heap_old (heap_old (heap_old (Cm.heap_second _ _ _)))) rfl) rfl ⟨rfl, (below_box (below_box (below_box (below_box (below_box (Below.refl _ _) _) _) _) _) _).drew.drew⟩
set_option maxHeartbeats 8000000 in
theorem flat_6 (w : World) :
    Calls Try.prog 12 #[Cm.cv (.iface 82 (.agg #[]))] w fun e w' => e = .returned (.tuple #[Cm.val { Cm.T.zero with kind := 6 }, .bool true]) ∧ Below w.heap.size w w' := by
  have HI : ∀ u, Hid (Cm.Is u (Cm.S.jn) (.iface 82 (.agg #[]))) := fun u => Lib.hid (.jn)
  have a_open := ask_join_open
  have a_shut := ask_join_shut
  have a_levy := ask_join_levy
  have a_Post := ask_join_Post
  have a_credit := ask_join_credit
  have a_leave := ask_join_leave
  have a_ask := ask_join_ask
  unfold Cm.cv
  go_enter Try.func12, Try.ntmps12
  go_wp2_with fail
  refine (cmd_kind _ _ _ (HI _).out).mono ?_
  rintro e w1 ⟨rfl, rfl⟩
  rw [show (Cm.S.jn).kind = 6 from rfl]
  clear HI
  go_wp2_with fail
  go_region
  go_wp2_with fail
  refine bodyPost_ret (Cm.results_row2 Try.results12 rfl (heap_old (heap_old (Cm.heap_second _ _ _))) rfl) rfl ⟨rfl, (below_box (below_box (below_box (below_box (Below.refl _ _) _) _) _) _).drew⟩
end Go.Proofs.Ytndfhnaafaijcaa
