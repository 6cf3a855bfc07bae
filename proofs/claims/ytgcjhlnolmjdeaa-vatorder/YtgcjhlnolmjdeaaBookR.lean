/- CONTRACTS OF THE BOOK OF MEMORY over rows: Same (of the same rows). -/
import Derived.Test.YtgcjhlnolmjdeaaVSeg
import Derived.Lib.QuietBelow
namespace Go.Proofs.Ytgcjhlnolmjdeaa
open Go.RowKit
open Vt (Rt)
open Go.Sort (grow)

set_option maxHeartbeats 1000000 in
theorem same_rows (xs : List Rt) (ao bo : Option Addr) (n ca cb : Nat) (w0 w : World) (hw : Below w0.heap.size w0 w) (hA : Rts w ao n ca xs) (hB : Rts w bo n cb xs) :
    Calls Try.prog 22 #[.slice ao n ca, .slice bo n cb] w fun e w' => e = .returned (.bool true) ∧ Below w0.heap.size w0 w' := by
  have HW := Lib.hid hw
  have HA := Lib.hid hA
  have HB := Lib.hid hB
  have HN := Lib.hid hA.len
  have hca := hA.reach
  have hfa := hA.fits
  have hcb := hB.reach
  have hfb := hB.fits
  clear hw hA hB
  have hne : ((n : Int) != (n : Int)) = false := bne_self_eq_false _
  go_enter Try.func22, Try.ntmps22
  go_wp2
  go_loopw [5] (fun i wr => ∃ k : Nat, k ≤ n ∧ i = .int .i64 k ∧ Hid (Below w.heap.size w wr)) (fun i _ => n - (intOf i).toNat)
  case atStart => exact ⟨0, Nat.zero_le _, rfl, Lib.hid (Below.refl _ _)⟩
  case round =>
    obtain ⟨k, hk, rfl, HBz⟩ := hrel
    by_cases hlt : k < n
    · obtain ⟨a, oa, rfl⟩ := HA.out.at (by omega)
      obtain ⟨b, ob, rfl⟩ := HB.out.at (by omega)
      have hkr : k < xs.length := HN.out ▸ hlt
      obtain ⟨r, hr⟩ : ∃ r, xs[k] = r := ⟨_, rfl⟩
      have h1 := (HA.out.row k hkr).below HBz.out
      have h2 := (HB.out.row k hkr).below HBz.out
      rw [hr] at h1 h2
      clear hr
      obtain ⟨g0, g1, g2, g3, g4⟩ := h1
      obtain ⟨f0, f1, f2, f3, f4⟩ := h2
      have g0' := cell_regrown g0
      have g1' := cell_regrown g1
      have g2' := cell_regrown g2
      have g3' := cell_regrown g3
      have g4' := cell_regrown g4
      have f0' := cell_regrown f0
      have f1' := cell_regrown f1
      have f2' := cell_regrown f2
      have f3' := cell_regrown f3
      have f4' := cell_regrown f4
      have q0 : (r.cat.toList == r.cat.toList) = true := beq_self_eq_true _
      have q1 : (r.y == r.y) = true := beq_self_eq_true _
      have q2 : (r.m == r.m) = true := beq_self_eq_true _
      have q3 : (r.d == r.d) = true := beq_self_eq_true _
      have q4 : (r.bp == r.bp) = true := beq_self_eq_true _
      go_wp2
      refine wp_region_quiet_below (by kernel_rfl) (by kernel_rfl) ?_
      repeat (first | go_big_quiet_step (fail) | quiet_step (fail))
      refine wpQuiet_nil ?_
      intro _ hw'
      obtain ⟨⟨dq, osq⟩, hw''⟩ := hw'
      subst hw''
      have HBv := Lib.hid (bchain HBz.out (below_regrown wr dq osq))
      go_wp2
      go_roundw
      case rel => exact ⟨k + 1, by omega, by go_num, HBv⟩
      case measure => simp [intOf]; omega
    · obtain rfl : k = n := by omega
      go_wp2
      go_ret
      exact ⟨rfl, HW.out.trans (HBz.out.mono HW.out.size)⟩
end Go.Proofs.Ytgcjhlnolmjdeaa
