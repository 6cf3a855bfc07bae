/- CONTRACTS OF PACKAGE post: Balanced. -/
import Derived.Test.YtgnepgkmjgpkeaaRfBal
import Derived.Laws.Externs
set_option maxRecDepth 100000
set_option linter.unusedVariables false
namespace Go.Proofs.Ytgnepgkmjgpkeaa
open Go.RowKit
open Mem
open Go.Sort (grow)

theorem add_two (x y c : Int) (hx : 0 ≤ x) (hy : 0 ≤ y) (hc0 : 0 ≤ c) (hc : c ≤ 1) (w : World) : (callFunc 26 #[.int .u64 x, .int .u64 y, .int .u64 c]).run Try.prog w = .ok (.value (.tuple #[.int .u64 ((x + y + c) % 18446744073709551616), .int .u64 ((x + y + c) / 18446744073709551616)])) w := by
  rw [run_callFunc_extern Try.func26 (by kernel_rfl) (by kernel_rfl) (by kernel_rfl) (e := add64Entry) (by kernel_rfl), run_add64 x y c hx hy hc0 hc]
  rfl
/-- two words that hold a sum -/
structure Two (hi lo s : Int) : Prop where
  h0 : 0 ≤ hi
  h1 : hi < 18446744073709551616
  l0 : 0 ≤ lo
  l1 : lo < 18446744073709551616
  sum : ∃ m : Int, hi * 18446744073709551616 + lo = s + m * 340282366920938463463374607431768211456
theorem Two.step {hi lo s n u t : Int} (h : Two hi lo s) (hu : 0 ≤ u ∧ u < 18446744073709551616) (ht : 0 ≤ t ∧ t < 18446744073709551616) (hn : ∃ k : Int, t * 18446744073709551616 + u = n + k * 340282366920938463463374607431768211456) :
    Two ((hi + t + (lo + u) / 18446744073709551616) % 18446744073709551616) ((lo + u) % 18446744073709551616) (s + n) := by
  obtain ⟨h0, h1, l0, l1, m, hm⟩ := h
  obtain ⟨k, hk⟩ := hn
  refine ⟨by omega, by omega, by omega, by omega, m + k - (hi + t + (lo + u) / 18446744073709551616) / 18446744073709551616, ?_⟩
  omega
theorem Two.zero {hi lo s : Int} (h : Two hi lo s) (h1 : -170141183460469231731687303715884105728 < s) (h2 : s < 170141183460469231731687303715884105728) : (hi = 0 ∧ lo = 0) ↔ s = 0 := by
  obtain ⟨a0, a1, l0, l1, m, hm⟩ := h
  constructor
  · rintro ⟨rfl, rfl⟩
    omega
  · intro e
    subst e
    constructor <;> omega
set_option maxHeartbeats 4000000 in
theorem post_balanced (ls : List Ba.T) (ao : Option Addr) (n cap : Nat) (w0 w : World) (hw : Below w0.heap.size w0 w) (hL : Ba.Ls w ao n cap ls) (hn : n ≤ 1000) :
    Calls Try.prog 12 #[.slice ao n cap] w fun e w' => e = .returned (.bool (Po.balB ls)) ∧ Below w0.heap.size w0 w' := by
  have HW := Lib.hid hw
  have HL := Lib.hid hL
  have HN := Lib.hid hL.len
  have hcap := hL.reach
  have hfit := hL.fits
  clear hw hL
  go_enter Try.func12, Try.ntmps12
  go_wp2_with fail
  go_loopw [3, 4, 6, 7, 10] (fun a b _ _ i wr => ∃ (k : Nat) (hi lo : Int), k ≤ n ∧ i = .int .i64 k ∧ a = .int .u64 hi ∧ b = .int .u64 lo ∧ Hid (Below w.heap.size w wr) ∧ Hid (Two hi lo (Po.sumA (ls.take k)) ∧ -((k : Int) * 9223372036854775808) ≤ Po.sumA (ls.take k) ∧ Po.sumA (ls.take k) ≤ (k : Int) * 9223372036854775808)) (fun _ _ _ _ i _ => n - (intOf i).toNat)
  case atStart => exact ⟨0, 0, 0, by omega, rfl, rfl, rfl, Lib.hid (Below.refl _ _), Lib.hid ⟨⟨by omega, by omega, by omega, by omega, 0, rfl⟩, by show -((0 : Int) * _) ≤ 0; omega, by show (0 : Int) ≤ 0 * _; omega⟩⟩
  case round =>
    rename World => wz
    obtain ⟨k, hi, lo, hk, rfl, rfl, rfl, HB, HS⟩ := hrel
    by_cases hlt : k < n
    · obtain ⟨b, off, rfl⟩ := HL.out.at (by omega)
      have hkl : k < ls.length := HN.out ▸ hlt
      have hrow := (HL.out.row k hkl).below HB.out
      have HSt := Lib.hid (sum_take hkl)
      have HSh := Lib.hid (HL.out.short _ (List.getElem_mem hkl))
      obtain ⟨x, hx⟩ : ∃ x, ls[k] = x := ⟨_, rfl⟩
      rw [hx] at hrow HSt HSh
      clear hx
      obtain ⟨r0, r1⟩ := hrow
      obtain ⟨W, hW, hbW, hA⟩ := Ba.boxed1 wz x
      have HBW := Lib.hid (bchain HB.out hbW)
      unfold Ba.C at hA
      obtain ⟨a0, a1⟩ := hA
      clear hbW
      have hT := HS.out.1
      by_cases hneg : x.amt < 0
      · have HStep := Lib.hid (hT.step (n := x.amt) (u := x.amt + 18446744073709551616) (t := 18446744073709551615) (by have := HSh.out.2.1; omega) (by omega) ⟨1, by omega⟩)
        have e1 : IntKind.u64.wrap x.amt = x.amt + 18446744073709551616 := by
          rw [IntKind.wrap_u64]
          have := HSh.out.2.1
          omega
        have e2 : x.amt / 9223372036854775808 = -1 := by
          have := HSh.out.2.1
          omega
        have add1 := add_two lo (x.amt + 18446744073709551616) 0 hT.l0 (by have := HSh.out.2.1; omega) (by omega) (by omega)
        have e3 : IntKind.u64.wrap (-1) = 18446744073709551615 := by rw [IntKind.wrap_u64]; rfl
        have add2 := add_two hi 18446744073709551615 ((lo + (x.amt + 18446744073709551616)) / 18446744073709551616) hT.h0 (by omega) (by have := HSh.out.2.1; have := hT.l0; omega) (by have := hT.l1; omega)
        rw [Int.add_zero] at add1
        obtain ⟨c, hc⟩ : ∃ c, (lo + (x.amt + 18446744073709551616)) / 18446744073709551616 = c := ⟨_, rfl⟩
        obtain ⟨l, hl⟩ : ∃ l, (lo + (x.amt + 18446744073709551616)) % 18446744073709551616 = l := ⟨_, rfl⟩
        rw [hc, hl] at add1 HStep
        rw [hc] at add2
        obtain ⟨H, hH⟩ : ∃ H, (hi + 18446744073709551615 + c) % 18446744073709551616 = H := ⟨_, rfl⟩
        rw [hH] at add2 HStep
        clear hc hl hH hT
        go_wp2_with (simp only [e3, add1, add2])
        go_roundw
        case rel => exact ⟨k + 1, H, l, by omega, by go_num, rfl, rfl, HBW, Lib.hid ⟨by rw [HSt.out]; exact HStep.out, by rw [HSt.out]; have h1 := HS.out.2; have h2 := HSh.out.2.1; omega, by rw [HSt.out]; have h1 := HS.out.2; have h2 := HSh.out.2.2; omega⟩⟩
        case measure => simp [intOf]; omega
      · have HStep := Lib.hid (hT.step (n := x.amt) (u := x.amt) (t := 0) (by have := HSh.out.2.2; omega) (by omega) ⟨0, by omega⟩)
        have e1 : IntKind.u64.wrap x.amt = x.amt := by
          rw [IntKind.wrap_u64]
          have := HSh.out.2.2
          omega
        have e2 : x.amt / 9223372036854775808 = 0 := by
          have := HSh.out.2.2
          omega
        have add1 := add_two lo x.amt 0 hT.l0 (by omega) (by omega) (by omega)
        have add2 := add_two hi 0 ((lo + x.amt) / 18446744073709551616) hT.h0 (by omega) (by have := hT.l0; omega) (by have := hT.l1; have := HSh.out.2.2; omega)
        rw [Int.add_zero] at add1
        obtain ⟨c, hc⟩ : ∃ c, (lo + x.amt) / 18446744073709551616 = c := ⟨_, rfl⟩
        obtain ⟨l, hl⟩ : ∃ l, (lo + x.amt) % 18446744073709551616 = l := ⟨_, rfl⟩
        rw [hc, hl] at add1 HStep
        rw [hc] at add2
        obtain ⟨H, hH⟩ : ∃ H, (hi + 0 + c) % 18446744073709551616 = H := ⟨_, rfl⟩
        rw [hH] at add2 HStep
        clear hc hl hH hT
        go_wp2_with (simp only [add1, add2])
        go_roundw
        case rel => exact ⟨k + 1, H, l, by omega, by go_num, rfl, rfl, HBW, Lib.hid ⟨by rw [HSt.out]; exact HStep.out, by rw [HSt.out]; have h1 := HS.out.2; have h2 := HSh.out.2.1; omega, by rw [HSt.out]; have h1 := HS.out.2; have h2 := HSh.out.2.2; omega⟩⟩
        case measure => simp [intOf]; omega
    · obtain rfl : k = n := by omega
      have HT : Hid ((hi = 0 ∧ lo = 0) ↔ Po.sumA ls = 0) := Lib.hid (by
        have h := HS.out
        rw [List.take_of_length_le (Nat.le_of_eq HN.out.symm)] at h
        exact h.1.zero (by have := h.2.1; omega) (by have := h.2.2; omega))
      by_cases e1 : hi = 0
      · by_cases e2 : lo = 0
        · have HE : Hid (Po.balB ls = true) := Lib.hid (decide_eq_true (HT.out.1 ⟨e1, e2⟩))
          subst e1 e2
          go_wp2_with fail
          go_ret
          exact ⟨ret_bool HE.out.symm, bchain HW.out HB.out⟩
        · have HE : Hid (Po.balB ls = false) := Lib.hid (decide_eq_false fun h => e2 (HT.out.2 h).2)
          have q2 : (lo == 0) = false := beq_eq_false_iff_ne.2 e2
          subst e1
          go_wp2_with fail
          go_ret
          exact ⟨ret_bool HE.out.symm, bchain HW.out HB.out⟩
      · have HE : Hid (Po.balB ls = false) := Lib.hid (decide_eq_false fun h => e1 (HT.out.2 h).1)
        have q1 : (hi == 0) = false := beq_eq_false_iff_ne.2 e1
        go_wp2_with fail
        go_ret
        exact ⟨ret_bool HE.out.symm, bchain HW.out HB.out⟩
end Go.Proofs.Ytgnepgkmjgpkeaa
