/- THE FOUR NAMES OF SeriesGapless AND SeriesApart; impostbook.Within carried over memory. -/
import Derived.Test.YtemifminohdhbaaSeRn
import Derived.Test.YtemifminohdhbaaBookIn
namespace Go.Proofs.Ytemifminohdhbaa
open Go.RowKit
open Mem

/-- the four names -/
def nm : Nat → ByteArray
  | 0 => ⟨#[97]⟩
  | 1 => ⟨#[98]⟩
  | 2 => ⟨#[82, 111, 116]⟩
  | _ => ⟨#[122, 45, 57]⟩
theorem nm_size (k : Nat) : (nm k).size ≤ 140737488355328 := by
  unfold nm
  split <;> decide
theorem nm_name (k : Nat) : Rn.name (txt (nm k)) = true := by
  unfold nm
  split <;> decide +kernel
theorem nm_inj : ∀ {i j : Nat}, i ≤ 3 → j ≤ 3 → nm i = nm j → i = j := by
  have h : (List.range 4).all (fun i => (List.range 4).all fun j => decide (nm i = nm j → i = j)) = true := by decide +kernel
  intro i j hi hj e
  have h1 := List.all_eq_true.1 (List.all_eq_true.1 h i (List.mem_range.2 (by omega))) j (List.mem_range.2 (by omega))
  exact of_decide_eq_true h1 e
/-- the four names lie in a block -/
def NamesAt (u : World) (g : Nat) : Prop := ∀ k, k ≤ 3 → u.cell? ⟨g, k, none⟩ = some (.string (nm k))
theorem NamesAt.below {u v : World} {g : Nat} (h : NamesAt u g) (k : Below u.heap.size u v) : NamesAt v g := by
  intro i hi
  rw [(bcell k).1 _ _ (cell_lt (h i hi))]
  exact h i hi
theorem names_at (w : World) : NamesAt (w.alloc (.cells #[.string ⟨#[97]⟩, .string ⟨#[98]⟩, .string ⟨#[82, 111, 116]⟩, .string ⟨#[122, 45, 57]⟩] 9)) w.heap.size := by
  intro k hk
  have h4 : k = 0 ∨ k = 1 ∨ k = 2 ∨ k = 3 := by omega
  rcases h4 with rfl | rfl | rfl | rfl
  all_goals simp [go_sem, nm]
theorem within_gen (n lo hi : Int) (w0 w : World) (hw : Below w0.heap.size w0 w) (hn : Fit n) (h0 : 0 ≤ lo) (h1 : lo ≤ hi) (h2 : hi ≤ 4611686018427387904) :
    Calls Try.prog 21 #[.int .i64 n, .int .i64 lo, .int .i64 hi] w fun e w' => (∃ r : Nat, e = .returned (.int .i64 (r : Int)) ∧ lo ≤ r ∧ r ≤ hi) ∧ Below w0.heap.size w0 w' :=
  (bookWithin_any n lo hi w hn h0 h1 h2).mono fun _ _ ⟨k1, k2⟩ => ⟨k1, k2 ▸ hw⟩
theorem open_cases {l : List Sr.T} {s : ByteArray} {n : Int} (h : Se.rightB l = true) (k : Rn.name (txt s) = true) (m : Se.lim n = true) :
    (Se.openE l s n = 0 ∧ Se.openR l s n = Se.openL l ⟨s, 1, n, false⟩ ∧ Se.rightB (Se.openL l ⟨s, 1, n, false⟩) = true ∧ l.length < 8 ∧ ¬ Se.ix s l < l.length) ∨ (Se.openE l s n ≠ 0 ∧ Se.openR l s n = [] ∧ (Se.ix s l < l.length ∨ 8 ≤ l.length)) := by
  by_cases i : Se.ix s l < l.length
  · have e := Se.open_taken h k m i
    exact .inr ⟨by rw [e.1]; omega, e.2, .inl i⟩
  · by_cases j : l.length < 8
    · have e := Se.open_ok h k m i j
      exact .inl ⟨e.1, e.2, Se.open_right h k m i j, j, i⟩
    · have e := Se.open_full h k m i (by omega)
      exact .inr ⟨by rw [e.1]; omega, e.2, .inr (by omega)⟩
theorem lim_small {r : Nat} (h1 : 1 ≤ (r : Int)) (h2 : (r : Int) ≤ 9) : Se.lim (r : Int) = true := Se.lim_iff.2 ⟨h1, by omega⟩
theorem open_short {L : List Sr.T} {s : ByteArray} {m : Int} (hL : ∀ r ∈ L, Sr.Short r) (hs : s.size ≤ 140737488355328) (hm : Fit m) : ∀ r ∈ Se.openL L ⟨s, 1, m, false⟩, Sr.Short r := by
  intro r hr
  rcases Se.openL_mem.1 hr with rfl | hr
  · exact ⟨hs, fit_lit rfl, hm⟩
  · exact hL r hr
theorem fit_small {r : Nat} (h2 : (r : Int) ≤ 9) : Fit (r : Int) := ⟨by omega, by omega⟩
end Go.Proofs.Ytemifminohdhbaa
