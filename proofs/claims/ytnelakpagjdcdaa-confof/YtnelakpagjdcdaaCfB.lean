/- CONTRACTS OF PACKAGE conf: List; chapter 21's runs. -/
import Derived.Test.YtnelakpagjdcdaaCfA
import Derived.Test.YtnelakpagjdcdaaCfN
set_option maxRecDepth 100000
set_option linter.unusedVariables false
namespace Go.Proofs.Ytnelakpagjdcdaa.Cf
open Go.RowKit
open Mem

/-- the first of a set's nodes -/
def upto (m : Int) : Nat → List Int
  | 0 => []
  | k + 1 => if has m k then upto m k ++ [(k : Int)] else upto m k
theorem upto_yes {m : Int} {k : Nat} (h : has m k = true) : upto m (k + 1) = upto m k ++ [(k : Int)] := by rw [upto, if_pos h]
theorem upto_no {m : Int} {k : Nat} (h : has m k = false) : upto m (k + 1) = upto m k := by
  rw [upto, h]
  rfl
theorem upto_len (m : Int) : ∀ k, (upto m k).length = up (has m) k
  | 0 => rfl
  | k + 1 => by
    have e := upto_len m k
    cases h : has m k with
    | true =>
      rw [upto_yes h, List.length_append, e, up, h]
      rfl
    | false =>
      rw [upto_no h, e, up, h]
      rfl
/-- what List answers: in memory of its own -/
def ListE (w : World) (m : Int) (e : Ending) (w' : World) : Prop := ∃ v, e = .returned v ∧ Ci.Own w' w.heap.size v (upto m 7) ∧ Below w.heap.size w w'
set_option maxHeartbeats 1000000 in
theorem cf_list (m : Int) (w : World) : Calls Try.prog 10 #[.int .i64 m] w (ListE w m) := by
  go_enter Try.func10, Try.ntmps10
  go_wp2
  go_loopw [3, 4, 5] (fun t _ i wr => ∃ k : Nat, k ≤ 7 ∧ i = .int .i64 k ∧ Hid (Ci.Own wr w.heap.size t (upto m k)) ∧ Hid (Below w.heap.size w wr)) (fun _ _ i _ => 7 - (intOf i).toNat)
  case atStart => exact ⟨0, by omega, rfl, Lib.hid (Ci.own_nil _ _), Lib.hid (Below.refl _ _)⟩
  case round =>
    rename World => wz
    obtain ⟨k, hk, rfl, HT, HB⟩ := hrel
    by_cases hlt : k < 7
    · have hlt' : (k : Int) < 7 := by omega
      have CH := Lib.hid (cf_has m k wz)
      rw [hasB_at m k hlt] at CH
      have hle : Hid ((upto m k).length ≤ 100000) := Lib.hid (by
        have := up_le (has m) k
        rw [upto_len]
        omega)
      cases hq : has m k
      · have HT1 : Hid (Ci.Own wz w.heap.size _ (upto m (k + 1))) := Lib.hid (by rw [upto_no hq]; exact HT.out)
        rw [hq] at CH
        clear hq HT
        go_wp2_with (go_at_call 17; refine CH.out.mono ?_; rintro e u ⟨rfl, hu⟩; rw [hu]; clear hu u)
        go_roundw
        case rel => exact ⟨k + 1, by omega, by go_num, HT1, HB⟩
        case measure => simp [intOf]; omega
      · have HK := Lib.hid (upto_yes hq)
        rw [hq] at CH
        clear hq
        go_wp2_with (first | (go_at_call 17; refine CH.out.mono ?_; rintro e u ⟨rfl, hu⟩; rw [hu]; clear hu u) | (at_builtin; go_must (refine Ci.app wz (k : Int) rfl (.tmp 11) (.tmp 13) rfl w.heap.size _ (upto m k) rfl HT.out rfl hle.out HB.out.size ?_)))
        intro v' w1 ho gr
        have HO1 : Hid (Ci.Own w1 w.heap.size v' (upto m (k + 1))) := Lib.hid (by rw [HK.out]; exact ho)
        have HB1 : Hid (Below w.heap.size w w1) := Lib.hid ((HB.out.alloc HB.out.size _).grown gr (by have := HB.out.size; simp; omega) (Ci.own_ge HT.out))
        clear ho gr HT
        go_wp2_with fail
        go_roundw
        case rel => exact ⟨k + 1, by omega, by go_num, HO1, HB1⟩
        case measure => simp [intOf]; omega
    · obtain rfl : k = 7 := by omega
      go_wp2
      go_ret
      exact ⟨_, rfl, HT.out, HB.out⟩
end Go.Proofs.Ytnelakpagjdcdaa.Cf
