/- THE WALK OF DateNumbers. -/
import Derived.Test.YtekegbnmmjhfiaaDLaws
import Derived.Test.YtekegbnmmjhfiaaDAggR
namespace Go.Proofs.Ytekegbnmmjhfiaa
open Go.RowKit

set_option maxHeartbeats 2000000 in
theorem dateNumbers_walk (n : Int) (w : World) (hn : (Lit.int .i64 n).wf = true) :
    Calls Try.prog 5 #[.int .i64 n] w fun e w' => e = .returned (.bool true) ∧ Below w.heap.size w w' := by
  have HN := Lib.hid (fit_in hn)
  clear hn
  by_cases h : 0 ≤ n ∧ n ≤ 3652058
  · obtain ⟨h0, h1⟩ := h
    go_enter Try.func5, Try.ntmps5
    go_wp2_with fail
    refine (of_yes n w _ (Below.refl _ _) h0 h1).mono ?_
    rintro e w1 ⟨⟨y, m, d, rfl, hr, hn⟩, b1⟩
    have HR := Lib.hid hr
    have HE := Lib.hid hn
    have HB1 := Lib.hid b1
    clear hr hn b1
    unfold dayB dayV
    obtain ⟨W, hW, bW, lW⟩ := boxed w1 y m d
    have HBW := Lib.hid (chain HB1.out bW)
    go_wp2_with fail
    refine (refOf_yes n W _ (Below.refl _ _) h0 h1).mono ?_
    rintro e w2 ⟨⟨y', m', d', rfl, hr, hn⟩, b2⟩
    obtain ⟨rfl, rfl, rfl⟩ := Dt.num_inj HR.out hr (HE.out.trans hn.symm)
    obtain ⟨k0, k1, k2⟩ := lW w2 b2
    have hz : w1.heap.size < w2.heap.size := by have := b2.size; have := congrArg (fun u : World => u.heap.size) hW; simp at this; omega
    have HB2 := Lib.hid b2
    clear hr hn b2 hW lW bW
    unfold dayB dayV
    go_wp2_with fail
    refine (runs_any w _ (below_box (chain HBW.out HB2.out) _)).mono ?_
    rintro e w3 ⟨rfl, b3⟩
    have HB3 := Lib.hid b3
    clear b3
    go_wp2_with fail
    go_ret
    exact ⟨rfl, HB3.out⟩
  · have h' : n < 0 ∨ 3652058 < n := by omega
    clear h
    go_enter Try.func5, Try.ntmps5
    go_wp2_with fail
    refine (of_no n w _ (Below.refl _ _) HN.out h').mono ?_
    rintro e w1 ⟨rfl, b1⟩
    have HB1 := Lib.hid b1
    clear b1
    unfold dayB dayV
    go_wp2_with fail
    refine (refOf_no n _ _ (Below.refl _ _) h').mono ?_
    rintro e w2 ⟨rfl, b2⟩
    obtain ⟨W, hW, bW, lW⟩ := boxed w1 0 0 0
    have HBW := Lib.hid (chain HB1.out bW)
    rw [hW] at b2
    obtain ⟨k0, k1, k2⟩ := lW w2 b2
    have hz : w1.heap.size < w2.heap.size := by have := b2.size; have := congrArg (fun u : World => u.heap.size) hW; simp at this; omega
    have HB2 := Lib.hid b2
    clear b2 hW lW bW
    unfold dayB dayV
    go_wp2_with fail
    refine (runs_any w _ (below_box (chain HBW.out HB2.out) _)).mono ?_
    rintro e w3 ⟨rfl, b3⟩
    have HB3 := Lib.hid b3
    clear b3
    go_wp2_with fail
    go_ret
    exact ⟨rfl, HB3.out⟩
end Go.Proofs.Ytekegbnmmjhfiaa
