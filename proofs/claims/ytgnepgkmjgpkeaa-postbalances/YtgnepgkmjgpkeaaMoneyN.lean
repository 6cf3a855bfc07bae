/- CONTRACTS OF PACKAGE money: Add, Sub, fits, Mul. -/
import Derived.Test.YtgnepgkmjgpkeaaPlain
import Derived.Test.YtgnepgkmjgpkeaaMnyN
namespace Go.Proofs.Ytgnepgkmjgpkeaa
open Go.RowKit

theorem both_fit {x : Int} (h : Mn.Fit x) : both (Mn.amt x) (Mn.err x) = both x 0 := by rw [Mn.amt_fit h, Mn.err_fit h]
theorem both_not {x : Int} (h : ¬ Mn.Fit x) : both (Mn.amt x) (Mn.err x) = both 0 7 := by rw [Mn.amt_not h, Mn.err_not h]

theorem add_any (a b : Int) (w : World) (ha : Mn.Fit a) (hb : Mn.Fit b) :
    Calls Try.prog 25 #[.int .i64 a, .int .i64 b] w fun e w' => e = both (Mn.amt (a + b)) (Mn.err (a + b)) ∧ w' = w := by
  obtain ⟨ha0, ha1⟩ := ha
  obtain ⟨hb0, hb1⟩ := hb
  go_enter Try.func25, Try.ntmps25
  by_cases hf : Mn.Fit (a + b)
  · rw [both_fit hf]
    obtain ⟨hf0, hf1⟩ := hf
    by_cases h1 : 0 < b
    · have h2 : ¬ 9223372036854775807 - b < a := by omega
      have h3 : ¬ b < 0 := by omega
      go_wp2
      go_ret2
      exact ⟨rfl, rfl⟩
    · by_cases h3 : b < 0
      · have h2 : ¬ a < -9223372036854775808 - b := by omega
        go_wp2
        go_ret2
        exact ⟨rfl, rfl⟩
      · go_wp2
        go_ret2
        exact ⟨rfl, rfl⟩
  · rw [both_not hf]
    by_cases h1 : 0 < b
    · have h2 : 9223372036854775807 - b < a := by unfold Mn.Fit at hf; omega
      clear hf
      go_wp2
      go_ret2
      exact ⟨rfl, rfl⟩
    · have h3 : b < 0 := by unfold Mn.Fit at hf; omega
      have h2 : a < -9223372036854775808 - b := by unfold Mn.Fit at hf; omega
      clear hf
      go_wp2
      go_ret2
      exact ⟨rfl, rfl⟩
theorem sub_any (a b : Int) (w : World) (ha : Mn.Fit a) (hb : Mn.Fit b) :
    Calls Try.prog 22 #[.int .i64 a, .int .i64 b] w fun e w' => e = both (Mn.amt (a - b)) (Mn.err (a - b)) ∧ w' = w := by
  obtain ⟨ha0, ha1⟩ := ha
  obtain ⟨hb0, hb1⟩ := hb
  go_enter Try.func22, Try.ntmps22
  by_cases hf : Mn.Fit (a - b)
  · rw [both_fit hf]
    obtain ⟨hf0, hf1⟩ := hf
    by_cases h1 : 0 < b
    · have h2 : ¬ a < -9223372036854775808 + b := by omega
      have h3 : ¬ b < 0 := by omega
      go_wp2
      go_ret2
      exact ⟨rfl, rfl⟩
    · by_cases h3 : b < 0
      · have h2 : ¬ 9223372036854775807 + b < a := by omega
        go_wp2
        go_ret2
        exact ⟨rfl, rfl⟩
      · go_wp2
        go_ret2
        exact ⟨rfl, rfl⟩
  · rw [both_not hf]
    by_cases h1 : 0 < b
    · have h2 : a < -9223372036854775808 + b := by unfold Mn.Fit at hf; omega
      clear hf
      go_wp2
      go_ret2
      exact ⟨rfl, rfl⟩
    · have h3 : b < 0 := by unfold Mn.Fit at hf; omega
      have h2 : 9223372036854775807 + b < a := by unfold Mn.Fit at hf; omega
      clear hf
      go_wp2
      go_ret2
      exact ⟨rfl, rfl⟩
end Go.Proofs.Ytgnepgkmjgpkeaa
