/- THE DOCUMENT's OWN ANSWER: impostref8.Put. (By genrput.py.) -/
import Derived.Test.YtndfhnaafaijcaaRfS
import Derived.Test.YtndfhnaafaijcaaMGf
set_option linter.unusedVariables false
set_option maxRecDepth 100000
namespace Go.Proofs.Ytndfhnaafaijcaa
open Go.RowKit
open Mem Pk Cm

/-- what is asked of the document's Put -/
def RPutE (s : S) (w : World) (e : Ending) (w' : World) : Prop :=
  (∃ ao n cap, e = .returned (.tuple #[.slice ao n cap, .int .i64 s.putE]) ∧ By.Ls w' ao n cap s.putB) ∧ Below w.heap.size w w'
theorem rput_long {s : S} {w w' : World} (hk : 1 ≤ s.kind ∧ s.kind ≤ 8) (hl : s.long = true ∨ 1024 < s.bytes.length) (hb : Below w.heap.size w w') : RPutE s w (.returned (.tuple #[.slice none 0 0, .int .i64 2])) w' := by
  have e := putE_long hk hl
  unfold RPutE
  rw [e, putB_no (by rw [e]; omega)]
  exact ⟨⟨none, 0, 0, rfl, By.ls_nil _⟩, hb⟩
theorem rput_ok {s : S} {w w' : World} {a : Option Addr} {N c' : Nat} (hk : 1 ≤ s.kind ∧ s.kind ≤ 8) (hl : s.long = false) (h : By.Ls w' a N c' s.bytes) (hN : ¬ 1024 < N) (hb : Below w.heap.size w w') : RPutE s w (.returned (.tuple #[.slice a N c', .int .i64 0])) w' := by
  have e := putE_ok hk (by
    rintro (x | x)
    · rw [hl] at x
      cases x
    · rw [← h.len] at x
      exact hN x)
  unfold RPutE
  rw [e, putB_ok e]
  exact ⟨⟨a, N, c', rfl, h⟩, hb⟩
theorem rput_big {s : S} {w w' : World} {a : Option Addr} {N c' : Nat} (hk : 1 ≤ s.kind ∧ s.kind ≤ 8) (h : By.Ls w' a N c' s.bytes) (hN : 1024 < N) (hb : Below w.heap.size w w') : RPutE s w (.returned (.tuple #[.slice none 0 0, .int .i64 2])) w' :=
  rput_long hk (.inr (by rw [← h.len]; exact hN)) hb
theorem keepD {u v : World} (k : Below u.heap.size u v) {b o : Nat} {x : Value} (h : u.cell? ⟨b, o, none⟩ = some x) : v.cell? ⟨b, o, none⟩ = some x := by
  rw [(bcell k).1 _ _ (cell_lt h)]
  exact h
theorem strs1 (w : World) (s : ByteArray) : ∀ (k : Nat) (hk : k < [s].length), (w.alloc (.cells #[.string s] 9)).cell? ⟨w.heap.size, k, none⟩ = some (.string [s][k]) := by
  intro k hk
  obtain rfl : k = 0 := by simpa using hk
  simp [go_sem]
theorem strs2 (w : World) (s t : ByteArray) : ∀ (k : Nat) (hk : k < [s, t].length), (w.alloc (.cells #[.string s, .string t] 9)).cell? ⟨w.heap.size, k, none⟩ = some (.string [s, t][k]) := by
  intro k hk
  have : k = 0 ∨ k = 1 := by simp at hk; omega
  rcases this with rfl | rfl
  all_goals simp [go_sem]
end Go.Proofs.Ytndfhnaafaijcaa
