/- CONTRACTS OF PACKAGE post: Right, place, has, order. -/
import Derived.Test.YtgnepgkmjgpkeaaPoP
import Derived.Test.YtgnepgkmjgpkeaaBaM
import Derived.Lib.QuietBelow
import Derived.Deep.RegionLaw
import Derived.Deep.DeepCutAuto
import Derived.Deep.CutBlock
set_option linter.unusedVariables false
namespace Go.Proofs.Ytgnepgkmjgpkeaa
open Go.RowKit
open Mem
open Go.Sort (grow)

set_option maxHeartbeats 2000000 in
theorem post_right (ls : List Ba.T) (ao : Option Addr) (n cap : Nat) (w0 w : World) (hw : Below w0.heap.size w0 w) (hL : Ba.Ls w ao n cap ls) :
    Calls Try.prog 17 #[.slice ao n cap] w fun e w' => e = .returned (.bool (Po.rightB ls)) ∧ Below w0.heap.size w0 w' := by
  have HW := Lib.hid hw
  have HL := Lib.hid hL
  have HN := Lib.hid hL.len
  have hcap := hL.reach
  have hfit := hL.fits
  clear hw hL
  go_enter Try.func17, Try.ntmps17
  go_wp2_with fail
  go_loopw [3] (fun i wr => ∃ k : Nat, k ≤ n ∧ i = .int .i64 ((k + 1 : Nat) : Int) ∧ Hid (∀ i, i < k → (hi : i + 1 < ls.length) → Po.lt ls[i].acct ls[i + 1].acct = true) ∧ Hid (Below w.heap.size w wr)) (fun i _ => n + 1 - (intOf i).toNat)
  case atStart => exact ⟨0, by omega, rfl, Lib.hid (fun i hi => by omega), Lib.hid (Below.refl _ _)⟩
  case round =>
    rename World => wz
    obtain ⟨k, hk, rfl, HK, HB⟩ := hrel
    by_cases hlt : k + 1 < n
    · obtain ⟨b, off, rfl⟩ := HL.out.at (by omega)
      have hk1 : k + 1 < ls.length := HN.out ▸ hlt
      have hr1 := (HL.out.row k (by omega)).below HB.out
      have hr2 := (HL.out.row (k + 1) hk1).below HB.out
      obtain ⟨x, hx⟩ : ∃ x, ls[k] = x := ⟨_, rfl⟩
      obtain ⟨y, hy⟩ : ∃ y, ls[k + 1] = y := ⟨_, rfl⟩
      have HX := Lib.hid hx
      have HY := Lib.hid hy
      rw [hx] at hr1
      rw [hy] at hr2
      obtain ⟨g0, g1⟩ := hr1
      obtain ⟨f0, f1⟩ := hr2
      have k0 := cell_regrown g0
      have l0 := cell_regrown f0
      clear hx hy
      cases hc : Op.bytesLess x.acct.toList y.acct.toList
      · have HE : Hid (Po.rightB ls = false) := Lib.hid (Po.right_no hk1 (by rw [HX.out, HY.out]; exact hc))
        go_wp2
        refine wp_region_quiet_below (by kernel_rfl) (by kernel_rfl) ?_
        repeat (first | go_big_quiet_step (fail) | quiet_step (fail))
        refine wpQuiet_nil ?_
        intro _ hw'
        obtain ⟨⟨dq, osq⟩, hw''⟩ := hw'
        subst hw''
        have HBv := Lib.hid (bchain HB.out (below_regrown wz dq osq))
        go_wp2
        go_ret
        exact ⟨ret_bool HE.out.symm, bchain HW.out HBv.out⟩
      · have HK2 : Hid (∀ i, i < k + 1 → (hi : i + 1 < ls.length) → Po.lt ls[i].acct ls[i + 1].acct = true) := Lib.hid (by
          intro i hi hil
          by_cases e : i < k
          · exact HK.out i e hil
          · obtain rfl : i = k := by omega
            rw [HX.out, HY.out]
            exact hc)
        go_wp2
        refine wp_region_quiet_below (by kernel_rfl) (by kernel_rfl) ?_
        repeat (first | go_big_quiet_step (fail) | quiet_step (fail))
        refine wpQuiet_nil ?_
        intro _ hw'
        obtain ⟨⟨dq, osq⟩, hw''⟩ := hw'
        subst hw''
        have HBv := Lib.hid (bchain HB.out (below_regrown wz dq osq))
        go_wp2
        go_roundw
        case rel => exact ⟨k + 1, by omega, by go_num, HK2, HBv⟩
        case measure => simp [intOf]; omega
    · have HE : Hid (Po.rightB ls = true) := Lib.hid (Po.right_yes fun i hi => HK.out i (by have := HN.out; omega) hi)
      have hnk : (n : Int) ≤ (k : Int) + 1 := by omega
      go_wp2
      go_ret
      exact ⟨ret_bool HE.out.symm, bchain HW.out HB.out⟩
set_option maxHeartbeats 2000000 in
theorem post_place (ls : List Ba.T) (c : ByteArray) (ao : Option Addr) (n cap : Nat) (w : World) (hL : Ba.Ls w ao n cap ls) (hS : Po.Sorted ls) :
    Calls Try.prog 24 #[.slice ao n cap, .string c] w fun e w' => e = .returned (.int .i64 ((Po.spot c ls : Nat) : Int)) ∧ w' = w := by
  have HL := Lib.hid hL
  have HN := Lib.hid hL.len
  have HS := Lib.hid hS
  have HP : Hid (Po.spot c ls ≤ n) := Lib.hid (by rw [hL.len]; exact Po.spot_le c ls)
  have hcap := hL.reach
  have hfit := hL.fits
  clear hL hS
  go_enter Try.func24, Try.ntmps24
  go_wp2_with fail
  go_loopw [5, 6, 7] (fun a b _ wr => ∃ i j : Nat, i ≤ j ∧ j ≤ n ∧ a = .int .i64 i ∧ b = .int .i64 j ∧ wr = w ∧ Hid (i ≤ Po.spot c ls ∧ Po.spot c ls ≤ j)) (fun a b _ _ => (intOf b).toNat - (intOf a).toNat)
  case atStart => exact ⟨0, n, by omega, by omega, rfl, rfl, rfl, Lib.hid ⟨Nat.zero_le _, HP.out⟩⟩
  case round =>
    obtain ⟨i, j, hij, hj, rfl, rfl, rfl, HI⟩ := hrel
    by_cases hlt : i < j
    · obtain ⟨m, hm⟩ : ∃ m, i + (j - i) / 2 = m := ⟨_, rfl⟩
      have hm1 : i ≤ m := by omega
      have hm2 : m < j := by omega
      obtain ⟨b, off, rfl⟩ := HL.out.at (by omega)
      have hml : m < ls.length := by have := HN.out; omega
      have hrow := HL.out.row m hml
      have HU : Hid (Po.lt ls[m].acct c = true → m + 1 ≤ Po.spot c ls) := Lib.hid (Po.half_up HS.out hml)
      have HD : Hid (Po.lt ls[m].acct c = false → Po.spot c ls ≤ m) := Lib.hid (Po.half_down hml)
      obtain ⟨x, hx⟩ : ∃ x, ls[m] = x := ⟨_, rfl⟩
      rw [hx] at hrow HU HD
      clear hx
      obtain ⟨r0, r1⟩ := hrow
      have hq : ((j : Int) - (i : Int)).tdiv 2 = (m : Int) - (i : Int) := by
        rw [Int.tdiv_eq_ediv_of_nonneg (by omega)]
        omega
      have hq' : ((j : Int) - (i : Int)) / 2 = (m : Int) - (i : Int) := by omega
      have hsum : (i : Int) + ((m : Int) - (i : Int)) = (m : Int) := by omega
      clear hm
      cases hc : Op.bytesLess x.acct.toList c.toList
      · have HE := Lib.hid (HD.out hc)
        go_wp2_with fail
        go_roundw
        case rel => exact ⟨i, m, hm1, by omega, rfl, by go_num, trivial, Lib.hid ⟨HI.out.1, HE.out⟩⟩
        case measure => simp [intOf]; omega
      · have HE := Lib.hid (HU.out hc)
        go_wp2_with fail
        go_roundw
        case rel => exact ⟨m + 1, j, by omega, hj, by go_num, rfl, trivial, Lib.hid ⟨HE.out, HI.out.2⟩⟩
        case measure => simp [intOf]; omega
    · obtain rfl : i = j := by omega
      have HE : Hid (Po.spot c ls = i) := Lib.hid (Nat.le_antisymm HI.out.2 HI.out.1)
      go_wp2_with fail
      go_ret
      exact ⟨by rw [HE.out]; rfl, rfl⟩
set_option maxHeartbeats 2000000 in
theorem post_has (ls : List Ba.T) (c : ByteArray) (ao : Option Addr) (n cap : Nat) (w : World) (hL : Ba.Ls w ao n cap ls) (hS : Po.Sorted ls) :
    Calls Try.prog 30 #[.slice ao n cap, .string c] w fun e w' => e = .returned (.bool (Po.has c ls)) ∧ w' = w := by
  have HL := Lib.hid hL
  have HN := Lib.hid hL.len
  have HP := Lib.hid (post_place ls c ao n cap w hL hS)
  have HH := Lib.hid (Po.has_spot c ls)
  have hcap := hL.reach
  have hfit := hL.fits
  clear hL hS
  obtain ⟨s, hs⟩ : ∃ s, Po.spot c ls = s := ⟨_, rfl⟩
  rw [hs] at HP HH
  clear hs
  go_enter Try.func30, Try.ntmps30
  go_wp2_with fail
  refine HP.out.mono ?_
  rintro e w1 ⟨rfl, rfl⟩
  rename World => u
  by_cases hlt : s < n
  · obtain ⟨b, off, rfl⟩ := HL.out.at (by omega)
    have hsl : s < ls.length := HN.out ▸ hlt
    have hrow := HL.out.row s hsl
    have HV : Hid (Po.has c ls = decide (ls[s].acct = c)) := Lib.hid (by rw [HH.out, List.getElem?_eq_getElem hsl])
    obtain ⟨x, hx⟩ : ∃ x, ls[s] = x := ⟨_, rfl⟩
    rw [hx] at hrow HV
    clear hx
    obtain ⟨r0, r1⟩ := hrow
    by_cases e : x.acct = c
    · have q0 : (x.acct.toList == c.toList) = true := beq_iff_eq.2 (by rw [e])
      have HE : Hid (Po.has c ls = true) := Lib.hid (by rw [HV.out]; exact decide_eq_true e)
      clear e
      go_wp2_with fail
      go_ret
      exact ⟨ret_bool HE.out.symm, rfl⟩
    · have q0 : (x.acct.toList == c.toList) = false := beq_eq_false_iff_ne.2 fun h => e (Vt.cat_ext h)
      have HE : Hid (Po.has c ls = false) := Lib.hid (by rw [HV.out]; exact decide_eq_false e)
      clear e
      go_wp2_with fail
      go_ret
      exact ⟨ret_bool HE.out.symm, rfl⟩
  · have HE : Hid (Po.has c ls = false) := Lib.hid (by rw [HH.out, List.getElem?_eq_none (by rw [← HN.out]; omega)])
    go_wp2_with fail
    go_ret
    exact ⟨ret_bool HE.out.symm, rfl⟩
end Go.Proofs.Ytgnepgkmjgpkeaa
