/- THE WALK OF DateReads. -/
import Derived.Test.YtekegbnmmjhfiaaDLaws
import Derived.Test.YtekegbnmmjhfiaaDAggR
namespace Go.Proofs.Ytekegbnmmjhfiaa
open Go.RowKit

theorem cut_run (s : ByteArray) (h : 100 < s.size) : ∃ p : ByteArray, p.size = 100 ∧ s.extract 0 100 = p := by
  refine ⟨_, ?_, rfl⟩
  rw [ByteArray.size_extract]
  omega
set_option maxHeartbeats 2000000 in
theorem reads_core (s : ByteArray) (w : World) (hs : s.size ≤ 140737488355328) (hc : ¬ 100 < s.size) :
    Calls Try.prog 6 #[.string s] w fun e w' => e = .returned (.bool true) ∧ Below w.heap.size w w' := by
  obtain ⟨⟨y, m, d, k⟩, ht⟩ : ∃ t, Dt.told (txt s) = t := ⟨_, rfl⟩
  have HT := Lib.hid ht
  clear ht
  go_enter Try.func6, Try.ntmps6
  go_wp2_with fail
  refine (read_date s w _ (Below.refl _ _) hs).mono ?_
  rintro e w1 ⟨rfl, b1⟩
  have HB1 := Lib.hid b1
  clear b1
  rw [HT.out]
  unfold dayE dayV
  dsimp only
  go_wp2_with fail
  refine (refRead_any s _ _ (Below.refl _ _) hs).mono ?_
  rintro e w2 ⟨rfl, b2⟩
  obtain ⟨W, hW, bW, lW⟩ := boxed w1 y m d
  have HBW := Lib.hid (chain HB1.out bW)
  rw [hW] at b2
  obtain ⟨k0, k1, k2⟩ := lW w2 b2
  have hz : w1.heap.size < w2.heap.size := by have := b2.size; have := congrArg (fun u : World => u.heap.size) hW; simp at this; omega
  have HB2 := Lib.hid b2
  clear b2 hW lW bW
  rw [HT.out]
  unfold dayE dayV
  dsimp only
  go_wp2_with fail
  refine (runs_any w _ (below_box (chain HBW.out HB2.out) _)).mono ?_
  rintro e w3 ⟨rfl, b3⟩
  have HB3 := Lib.hid b3
  clear b3
  go_wp2_with fail
  go_ret
  exact ⟨rfl, HB3.out⟩
set_option maxHeartbeats 2000000 in
theorem reads_cut (s : ByteArray) (w : World) (hs : s.size ≤ 140737488355328) (hc : 100 < s.size) :
    Calls Try.prog 6 #[.string s] w fun e w' => e = .returned (.bool true) ∧ Below w.heap.size w w' := by
  obtain ⟨p, hp, he⟩ := cut_run s hc
  obtain ⟨⟨y, m, d, k⟩, ht⟩ : ∃ t, Dt.told (txt p) = t := ⟨_, rfl⟩
  have HT := Lib.hid ht
  clear ht
  go_enter Try.func6, Try.ntmps6
  go_wp2_with fail
  refine (read_date p w _ (Below.refl _ _) (by omega)).mono ?_
  rintro e w1 ⟨rfl, b1⟩
  have HB1 := Lib.hid b1
  clear b1
  rw [HT.out]
  unfold dayE dayV
  dsimp only
  go_wp2_with fail
  refine (refRead_any p _ _ (Below.refl _ _) (by omega)).mono ?_
  rintro e w2 ⟨rfl, b2⟩
  obtain ⟨W, hW, bW, lW⟩ := boxed w1 y m d
  have HBW := Lib.hid (chain HB1.out bW)
  rw [hW] at b2
  obtain ⟨k0, k1, k2⟩ := lW w2 b2
  have hz : w1.heap.size < w2.heap.size := by have := b2.size; have := congrArg (fun u : World => u.heap.size) hW; simp at this; omega
  have HB2 := Lib.hid b2
  clear b2 hW lW bW
  rw [HT.out]
  unfold dayE dayV
  dsimp only
  go_wp2_with fail
  refine (runs_any w _ (below_box (chain HBW.out HB2.out) _)).mono ?_
  rintro e w3 ⟨rfl, b3⟩
  have HB3 := Lib.hid b3
  clear b3
  go_wp2_with fail
  go_ret
  exact ⟨rfl, HB3.out⟩
theorem dateReads_walk (s : ByteArray) (w : World) (h : s.data.toList.length ≤ reachBytes) :
    Calls Try.prog 6 #[.string s] w fun e w' => e = .returned (.bool true) ∧ Below w.heap.size w w' := by
  by_cases hc : 100 < s.size
  · exact reads_cut s w (fits h) hc
  · exact reads_core s w (fits h) hc
end Go.Proofs.Ytekegbnmmjhfiaa
