/- CONTRACTS OF PACKAGE date: Before. -/
import Derived.Test.YtgcjhlnolmjdeaaDateR
import Derived.Deep.RegionHeld3
namespace Go.Proofs.Ytgcjhlnolmjdeaa
open Go.RowKit

/-- are both right, and is the first ahead? -/
def aheadB (y m d z n e : Int) : Bool := Dt.rightB y m d && Dt.rightB z n e && decide (Dt.num y m d < Dt.num z n e)
theorem ahead_not1 {y m d z n e : Int} (h : Dt.rightB y m d = false) : aheadB y m d z n e = false := by
  unfold aheadB
  rw [h]
  rfl
theorem ahead_not2 {y m d z n e : Int} (h : Dt.rightB z n e = false) : aheadB y m d z n e = false := by
  unfold aheadB
  rw [h, Bool.and_false]
  rfl
theorem ahead_both {y m d z n e : Int} (h : Dt.rightB y m d = true) (k : Dt.rightB z n e = true) : aheadB y m d z n e = decide (Dt.days y m d < Dt.days z n e) := by
  unfold aheadB
  rw [h, k, Dt.days_right h, Dt.days_right k]
  rfl
set_option maxHeartbeats 1000000 in
theorem before_date (y m d z n e : Int) (w0 w : World) (hw : Below w0.heap.size w0 w) (hy : Fit y) (hm : Fit m) (hd : Fit d) (hz : Fit z) (hn : Fit n) (he : Fit e) :
    Calls Try.prog 31 #[dayV y m d, dayV z n e] w fun en w' => en = .returned (.bool (aheadB y m d z n e)) ∧ Below w0.heap.size w0 w' := by
  have HW := Lib.hid hw
  have HF := Lib.hid (And.intro hy (And.intro hm (And.intro hd (And.intro hz (And.intro hn he)))))
  clear hw hy hm hd hz hn he
  unfold dayV
  obtain ⟨W, hW⟩ : ∃ W, (w.alloc (.cells #[.int .i64 y, .int .i64 m, .int .i64 d] 23)).alloc (.cells #[.int .i64 z, .int .i64 n, .int .i64 e] 23) = W := ⟨_, rfl⟩
  have HBW : Hid (Below w0.heap.size w0 W) := Lib.hid (hW ▸ below_box (below_box HW.out _) _)
  have l0 : ∀ u, Below W.heap.size W u → u.cell? ⟨w.heap.size, 0, none⟩ = some (.int .i64 y) ∧ u.cell? ⟨w.heap.size, 1, none⟩ = some (.int .i64 m) ∧ u.cell? ⟨w.heap.size, 2, none⟩ = some (.int .i64 d) := fun u hb => by
    rw [(bcell hb).1 _ _ (by rw [← hW]; simp; omega), (bcell hb).1 _ _ (by rw [← hW]; simp; omega), (bcell hb).1 _ _ (by rw [← hW]; simp; omega), ← hW]
    simp [go_sem]
  have l1 : ∀ u, Below W.heap.size W u → u.cell? ⟨w.heap.size + 1, 0, none⟩ = some (.int .i64 z) ∧ u.cell? ⟨w.heap.size + 1, 1, none⟩ = some (.int .i64 n) ∧ u.cell? ⟨w.heap.size + 1, 2, none⟩ = some (.int .i64 e) := fun u hb => by
    rw [(bcell hb).1 _ _ (by rw [← hW]; simp), (bcell hb).1 _ _ (by rw [← hW]; simp), (bcell hb).1 _ _ (by rw [← hW]; simp), ← hW]
    simp [go_sem]
  by_cases h1 : Dt.rightB y m d = true
  · by_cases h2 : Dt.rightB z n e = true
    · rw [ahead_both h1 h2]
      go_enter Try.func31, Try.ntmps31
      go_wp2
      go_region_held3 (fun u => Below W.heap.size W u) (first | assumption | exact (Below.refl _ _).drew) (first | (go_at_call 30; refine (right_date _ _ _ W _ (by assumption) (by first | exact HF.out.1 | exact HF.out.2.1 | exact HF.out.2.2.1 | exact HF.out.2.2.2.1 | exact HF.out.2.2.2.2.1 | exact HF.out.2.2.2.2.2) (by first | exact HF.out.1 | exact HF.out.2.1 | exact HF.out.2.2.1 | exact HF.out.2.2.2.1 | exact HF.out.2.2.2.2.1 | exact HF.out.2.2.2.2.2) (by first | exact HF.out.1 | exact HF.out.2.1 | exact HF.out.2.2.1 | exact HF.out.2.2.2.1 | exact HF.out.2.2.2.2.1 | exact HF.out.2.2.2.2.2)).mono ?_; rintro en w' ⟨rfl, b⟩) | (go_at_call 39; refine (days_date _ _ _ W _ (by assumption) (by first | exact HF.out.1 | exact HF.out.2.1 | exact HF.out.2.2.1 | exact HF.out.2.2.2.1 | exact HF.out.2.2.2.2.1 | exact HF.out.2.2.2.2.2) (by first | exact HF.out.1 | exact HF.out.2.1 | exact HF.out.2.2.1 | exact HF.out.2.2.2.1 | exact HF.out.2.2.2.2.1 | exact HF.out.2.2.2.2.2) (by first | exact HF.out.1 | exact HF.out.2.1 | exact HF.out.2.2.1 | exact HF.out.2.2.2.1 | exact HF.out.2.2.2.2.1 | exact HF.out.2.2.2.2.2)).mono ?_; rintro en w' ⟨rfl, b⟩))
      go_wp2
      go_ret
      exact ⟨rfl, HBW.out.trans (b.mono HBW.out.size)⟩
    · have h2' : Dt.rightB z n e = false := by simpa using h2
      clear h2
      rw [ahead_not2 h2']
      go_enter Try.func31, Try.ntmps31
      go_wp2
      obtain ⟨g0, g1, g2⟩ := l0 W.drew (Below.refl _ _).drew
      obtain ⟨g3, g4, g5⟩ := l1 W.drew (Below.refl _ _).drew
      go_region_with (go_at_call 30; refine (right_date _ _ _ W _ (by first | assumption | exact (Below.refl _ _).drew) (by first | exact HF.out.1 | exact HF.out.2.1 | exact HF.out.2.2.1 | exact HF.out.2.2.2.1 | exact HF.out.2.2.2.2.1 | exact HF.out.2.2.2.2.2) (by first | exact HF.out.1 | exact HF.out.2.1 | exact HF.out.2.2.1 | exact HF.out.2.2.2.1 | exact HF.out.2.2.2.2.1 | exact HF.out.2.2.2.2.2) (by first | exact HF.out.1 | exact HF.out.2.1 | exact HF.out.2.2.1 | exact HF.out.2.2.2.1 | exact HF.out.2.2.2.2.1 | exact HF.out.2.2.2.2.2)).mono ?_; rintro en w' ⟨rfl, b⟩; obtain ⟨k0, k1, k2⟩ := l0 _ b; obtain ⟨k3, k4, k5⟩ := l1 _ b; first | rw [h1] | rw [h2'])
      all_goals
        go_wp2
        go_ret
        exact ⟨rfl, HBW.out.trans (b.mono HBW.out.size)⟩
  · have h1' : Dt.rightB y m d = false := by simpa using h1
    clear h1
    rw [ahead_not1 h1']
    go_enter Try.func31, Try.ntmps31
    go_wp2
    obtain ⟨g0, g1, g2⟩ := l0 W.drew (Below.refl _ _).drew
    obtain ⟨g3, g4, g5⟩ := l1 W.drew (Below.refl _ _).drew
    go_region_with (go_at_call 30; refine (right_date _ _ _ W _ (by first | assumption | exact (Below.refl _ _).drew) (by first | exact HF.out.1 | exact HF.out.2.1 | exact HF.out.2.2.1 | exact HF.out.2.2.2.1 | exact HF.out.2.2.2.2.1 | exact HF.out.2.2.2.2.2) (by first | exact HF.out.1 | exact HF.out.2.1 | exact HF.out.2.2.1 | exact HF.out.2.2.2.1 | exact HF.out.2.2.2.2.1 | exact HF.out.2.2.2.2.2) (by first | exact HF.out.1 | exact HF.out.2.1 | exact HF.out.2.2.1 | exact HF.out.2.2.2.1 | exact HF.out.2.2.2.2.1 | exact HF.out.2.2.2.2.2)).mono ?_; rintro en w' ⟨rfl, b⟩; obtain ⟨k0, k1, k2⟩ := l0 _ b; obtain ⟨k3, k4, k5⟩ := l1 _ b; rw [h1'])
    all_goals
      go_wp2
      go_ret
      exact ⟨rfl, HBW.out.trans (b.mono HBW.out.size)⟩
end Go.Proofs.Ytgcjhlnolmjdeaa
