/- THE DOCUMENT's OWN ANSWER: impostref8's BookRight, Balanced. -/
import Derived.Test.YtgnepgkmjgpkeaaPo
import Derived.Test.YtgnepgkmjgpkeaaBaM
import Derived.Lib.QuietBelow
import Derived.Deep.RegionLaw
import Derived.Deep.DeepCutAuto
import Derived.Deep.CutBlock
set_option linter.unusedVariables false
namespace Go.Proofs.Ytgnepgkmjgpkeaa
open Go.RowKit
open Mem
open Go.Sort (grow)

set_option maxHeartbeats 2000000 in
theorem rbook_right (ls : List Ba.T) (ao : Option Addr) (n cap : Nat) (w0 w : World) (hw : Below w0.heap.size w0 w) (hL : Ba.Ls w ao n cap ls) :
    Calls Try.prog 18 #[.slice ao n cap] w fun e w' => e = .returned (.bool (Po.rightB ls)) ∧ Below w0.heap.size w0 w' := by
  have HW := Lib.hid hw
  have HL := Lib.hid hL
  have HN := Lib.hid hL.len
  have hcap := hL.reach
  have hfit := hL.fits
  clear hw hL
  go_enter Try.func18, Try.ntmps18
  go_wp2_with fail
  go_loopw [3] (fun i wr => ∃ k : Nat, k ≤ n ∧ i = .int .i64 ((k + 1 : Nat) : Int) ∧ Hid (∀ i, i < k → (hi : i + 1 < ls.length) → Po.lt ls[i].acct ls[i + 1].acct = true) ∧ Hid (Below w.heap.size w wr)) (fun i _ => n + 1 - (intOf i).toNat)
  case atStart => exact ⟨0, by omega, rfl, Lib.hid (fun i hi => by omega), Lib.hid (Below.refl _ _)⟩
  case round =>
    rename World => wz
    obtain ⟨k, hk, rfl, HK, HB⟩ := hrel
    by_cases hlt : k + 1 < n
    · obtain ⟨b, off, rfl⟩ := HL.out.at (by omega)
      have hk1 : k + 1 < ls.length := HN.out ▸ hlt
      have hr1 := (HL.out.row k (by omega)).below HB.out
      have hr2 := (HL.out.row (k + 1) hk1).below HB.out
      obtain ⟨x, hx⟩ : ∃ x, ls[k] = x := ⟨_, rfl⟩
      obtain ⟨y, hy⟩ : ∃ y, ls[k + 1] = y := ⟨_, rfl⟩
      have HX := Lib.hid hx
      have HY := Lib.hid hy
      rw [hx] at hr1
      rw [hy] at hr2
      obtain ⟨g0, g1⟩ := hr1
      obtain ⟨f0, f1⟩ := hr2
      have k0 := cell_regrown g0
      have l0 := cell_regrown f0
      clear hx hy
      cases hc : Op.bytesLess x.acct.toList y.acct.toList
      · have HE : Hid (Po.rightB ls = false) := Lib.hid (Po.right_no hk1 (by rw [HX.out, HY.out]; exact hc))
        go_wp2
        refine wp_region_quiet_below (by kernel_rfl) (by kernel_rfl) ?_
        repeat (first | go_big_quiet_step (fail) | quiet_step (fail))
        refine wpQuiet_nil ?_
        intro _ hw'
        obtain ⟨⟨dq, osq⟩, hw''⟩ := hw'
        subst hw''
        have HBv := Lib.hid (bchain HB.out (below_regrown wz dq osq))
        go_wp2
        go_ret
        exact ⟨ret_bool HE.out.symm, bchain HW.out HBv.out⟩
      · have HK2 : Hid (∀ i, i < k + 1 → (hi : i + 1 < ls.length) → Po.lt ls[i].acct ls[i + 1].acct = true) := Lib.hid (by
          intro i hi hil
          by_cases e : i < k
          · exact HK.out i e hil
          · obtain rfl : i = k := by omega
            rw [HX.out, HY.out]
            exact hc)
        go_wp2
        refine wp_region_quiet_below (by kernel_rfl) (by kernel_rfl) ?_
        repeat (first | go_big_quiet_step (fail) | quiet_step (fail))
        refine wpQuiet_nil ?_
        intro _ hw'
        obtain ⟨⟨dq, osq⟩, hw''⟩ := hw'
        subst hw''
        have HBv := Lib.hid (bchain HB.out (below_regrown wz dq osq))
        go_wp2
        go_roundw
        case rel => exact ⟨k + 1, by omega, by go_num, HK2, HBv⟩
        case measure => simp [intOf]; omega
    · have HE : Hid (Po.rightB ls = true) := Lib.hid (Po.right_yes fun i hi => HK.out i (by have := HN.out; omega) hi)
      have hnk : (n : Int) ≤ (k : Int) + 1 := by omega
      go_wp2
      go_ret
      exact ⟨ret_bool HE.out.symm, bchain HW.out HB.out⟩
/-- a number of two words in a block of its own -/
def Wd.At (u : World) (g : Nat) (hi lo : Int) : Prop := u.heap[g]? = some (.cells #[.int .i64 hi, .int .u64 lo] 61 (0, 0))
theorem Wd.At.lt {u : World} {g : Nat} {hi lo : Int} (h : Wd.At u g hi lo) : g < u.heap.size := by
  obtain ⟨hl, _⟩ := Array.getElem?_eq_some_iff.1 h
  exact hl
theorem Wd.At.below {u v : World} {g : Nat} {hi lo : Int} (h : Wd.At u g hi lo) (b : Below u.heap.size u v) : Wd.At v g hi lo := (b.block g h.lt).trans h
theorem Wd.At.cells {u : World} {g : Nat} {hi lo : Int} (h : Wd.At u g hi lo) : u.cell? ⟨g, 0, none⟩ = some (.int .i64 hi) ∧ u.cell? ⟨g, 1, none⟩ = some (.int .u64 lo) := by
  refine ⟨?_, ?_⟩
  all_goals
    rw [cell_of_row u g _ _ _ _ h]
    rfl
theorem Wd.At.frozen {u : World} {g : Nat} {hi lo : Int} (h : Wd.At u g hi lo) (k : Nat) : u.frozen? ⟨g, k, none⟩ = false := frozen_of_row u g k _ _ h
theorem Wd.At.set {u : World} {g : Nat} {hi lo : Int} (h : Wd.At u g hi lo) (a b : Int) : Wd.At ((u.setCell ⟨g, 0, none⟩ (.int .i64 a)).setCell ⟨g, 1, none⟩ (.int .u64 b)) g a b := by
  have h1 := heap_setCell_same u g 0 _ _ (.int .i64 a) h
  have h2 := heap_setCell_same _ g 1 _ _ (.int .u64 b) h1
  exact h2
theorem Wd.at_box (w : World) (hi lo : Int) : Wd.At (w.alloc (.cells #[.int .i64 hi, .int .u64 lo] 61)) w.heap.size hi lo := heap_alloc_new w _
set_option maxHeartbeats 2000000 in
theorem rplus (hi lo n : Int) (w : World) (h1 : -4611686018427387904 ≤ hi ∧ hi ≤ 4611686018427387904) (h2 : 0 ≤ lo ∧ lo < 18446744073709551616) (hn : Fit n) :
    Calls Try.prog 29 #[.agg #[.int .i64 hi, .int .u64 lo], .int .i64 n] w fun e w' => (∃ a b : Int, e = .returned (.agg #[.int .i64 a, .int .u64 b]) ∧ 0 ≤ b ∧ b < 18446744073709551616 ∧ a * 18446744073709551616 + b = hi * 18446744073709551616 + lo + n ∧ hi - 1 ≤ a ∧ a ≤ hi + 1) ∧ Below w.heap.size w w' := by
  obtain ⟨n1, n2⟩ := hn
  obtain ⟨l1, l2⟩ := h2
  obtain ⟨i1, i2⟩ := h1
  obtain ⟨u, s, c, hu, hs, hc, hsum, hs0, hs1⟩ : ∃ u s : Int, ∃ c : Bool, IntKind.u64.wrap n = u ∧ IntKind.u64.wrap (lo + u) = s ∧ decide (s < lo) = c ∧ s = lo + n + (if n < 0 then (if c = true then 0 else 18446744073709551616) else (if c = true then -18446744073709551616 else 0)) ∧ 0 ≤ s ∧ s < 18446744073709551616 := by
    refine ⟨_, _, _, rfl, rfl, rfl, ?_, ?_, ?_⟩
    · rw [IntKind.wrap_u64, IntKind.wrap_u64]
      by_cases h : n < 0
      · rw [if_pos h]
        by_cases k : 0 ≤ lo + n
        · rw [if_pos (decide_eq_true (by omega))]
          omega
        · rw [if_neg (by rw [decide_eq_true_iff]; omega)]
          omega
      · rw [if_neg h]
        by_cases k : lo + n < 18446744073709551616
        · rw [if_neg (by rw [decide_eq_true_iff]; omega)]
          omega
        · rw [if_pos (decide_eq_true (by omega))]
          omega
    · rw [IntKind.wrap_u64]
      omega
    · rw [IntKind.wrap_u64]
      omega
  have HS := Lib.hid hsum
  clear hsum
  obtain ⟨W, hW⟩ : ∃ W, (w.alloc (.cells #[.int .i64 hi, .int .u64 lo] 61)).alloc (.cells #[.int .i64 0, .int .u64 0] 61) = W := ⟨_, rfl⟩
  have hb1 : Below w.heap.size w (w.alloc (.cells #[.int .i64 hi, .int .u64 lo] 61)) := (Below.refl _ _).alloc (Nat.le_refl _) _
  have hb2 : Below (w.alloc (.cells #[.int .i64 hi, .int .u64 lo] 61)).heap.size (w.alloc (.cells #[.int .i64 hi, .int .u64 lo] 61)) W := hW ▸ (Below.refl _ _).alloc (Nat.le_refl _) _
  have hA := (Wd.at_box w hi lo).below hb2
  have hZ := Wd.at_box (w.alloc (.cells #[.int .i64 hi, .int .u64 lo] 61)) 0 0
  rw [hW, show (w.alloc (.cells #[.int .i64 hi, .int .u64 lo] 61)).heap.size = w.heap.size + 1 by simp] at hZ
  have HB := Lib.hid (bchain hb1 hb2)
  obtain ⟨a0, a1⟩ := hA.cells
  obtain ⟨z0, z1⟩ := hZ.cells
  have f0 := hZ.frozen 0
  have f1 := hZ.frozen 1
  clear hb1 hb2 hA hZ
  cases c
  · have hc' : ¬ s < lo := of_decide_eq_false hc
    by_cases hn0 : n < 0
    · have HE : Hid (s = lo + n + 18446744073709551616) := Lib.hid (by have h := HS.out; rw [if_pos hn0] at h; simpa using h)
      go_enter Try.func29, Try.ntmps29
      go_wp2_with fail
      exact bodyPost_ret (v := .agg #[.int .i64 (hi - 1), .int .u64 s]) (by simp [results, Try.results29, go_sem, z0, z1]) rfl ⟨⟨hi - 1, s, rfl, hs0, hs1, by have := HE.out; omega, by omega, by omega⟩, bset (bset HB.out (by omega) _ _) (by omega) _ _⟩
    · have HE : Hid (s = lo + n) := Lib.hid (by have h := HS.out; rw [if_neg hn0] at h; simpa using h)
      go_enter Try.func29, Try.ntmps29
      go_wp2_with fail
      exact bodyPost_ret (v := .agg #[.int .i64 hi, .int .u64 s]) (by simp [results, Try.results29, go_sem, z0, z1]) rfl ⟨⟨hi, s, rfl, hs0, hs1, by have := HE.out; omega, by omega, by omega⟩, bset (bset HB.out (by omega) _ _) (by omega) _ _⟩
  · have hc' : s < lo := of_decide_eq_true hc
    by_cases hn0 : n < 0
    · have HE : Hid (s = lo + n) := Lib.hid (by have h := HS.out; rw [if_pos hn0] at h; simpa using h)
      go_enter Try.func29, Try.ntmps29
      go_wp2_with fail
      exact bodyPost_ret (v := .agg #[.int .i64 hi, .int .u64 s]) (by simp [results, Try.results29, go_sem, z0, z1]) rfl ⟨⟨hi, s, rfl, hs0, hs1, by have := HE.out; omega, by omega, by omega⟩, bset (bset HB.out (by omega) _ _) (by omega) _ _⟩
    · have HE : Hid (s = lo + n - 18446744073709551616) := Lib.hid (by have h := HS.out; rw [if_neg hn0] at h; simp at h; omega)
      go_enter Try.func29, Try.ntmps29
      go_wp2_with fail
      exact bodyPost_ret (v := .agg #[.int .i64 (hi + 1), .int .u64 s]) (by simp [results, Try.results29, go_sem, z0, z1]) rfl ⟨⟨hi + 1, s, rfl, hs0, hs1, by have := HE.out; omega, by omega, by omega⟩, bset (bset HB.out (by omega) _ _) (by omega) _ _⟩
end Go.Proofs.Ytgnepgkmjgpkeaa
