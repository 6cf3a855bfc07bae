/- THE WALK OF MoneyBack. -/
import Derived.Test.YtagofjnckdhopaaDoorMRuns
namespace Go.Proofs.YtagofjnckdhopaaDoor
open Go.RowKit

theorem fit_in {a : Int} (h : (Lit.int .i64 a).wf = true) : Mn.Fit a := by
  simpa [Lit.wf, IntKind.min, IntKind.max, IntKind.signed, IntKind.bits, Mn.Fit] using h
theorem show_gen (n : Int) (w0 w : World) (hb : Below w0.heap.size w0 w) (ht : Tab w0) (hn : Mn.Fit n) :
    Calls Tryd.prog 9 #[.int .i64 n] w fun e w' => (∃ x : ByteArray, e = .returned (.string x) ∧ txt x = Mn.shown n ∧ x.size ≤ 25) ∧ Below w0.heap.size w0 w' :=
  (show_any n w hn (ht.below hb)).mono fun _ _ ⟨h1, h3⟩ => ⟨h1, hb.trans (h3.mono hb.size)⟩
set_option maxHeartbeats 2000000 in
theorem moneyBack_walk (n : Int) (s : ByteArray) (w : World) (hn : (Lit.int .i64 n).wf = true) (hs : s.data.toList.length ≤ reachBytes) (ht : Tab w) :
    Calls Tryd.prog 7 #[.int .i64 n, .string s] w fun e w' => e = .returned (.bool true) ∧ Below w.heap.size w w' := by
  have HN := Lib.hid (fit_in hn)
  have hs' : s.size ≤ 140737488355328 := fits hs
  have HT := Lib.hid ht
  clear hn hs ht
  go_enter Tryd.func7, Tryd.ntmps7
  go_wp2_with fail
  refine (show_gen n w _ (Below.refl _ _) HT.out HN.out).mono ?_
  rintro e w1 ⟨⟨x, rfl, hx, hxs⟩, b1⟩
  have HB1 := Lib.hid b1
  have HX := Lib.hid hx
  clear b1 hx
  go_wp2_with fail
  refine (read_gen x w _ HB1.out (by omega)).mono ?_
  rintro e w2 ⟨rfl, b2⟩
  have HB2 := Lib.hid b2
  clear b2 HB1
  rw [HX.out, (Mn.val_shown n HN.out).1, (Mn.val_shown n HN.out).2]
  unfold both
  go_wp2_with fail
  refine (read_gen s w _ HB2.out hs').mono ?_
  rintro e w3 ⟨rfl, b3⟩
  have HB3 := Lib.hid b3
  clear b3 HB2
  have HV := Lib.hid (Mn.shown_val (txt s))
  have HZ := Lib.hid (Mn.val_none (txt s))
  have HVF := Lib.hid (Mn.val_fit (txt s))
  generalize Mn.val (txt s) = v at *
  generalize Mn.why (txt s) = k at *
  unfold both
  by_cases hk : k = 0
  · subst hk
    go_wp2_with fail
    refine (show_gen v w _ HB3.out HT.out HVF.out).mono ?_
    rintro e w4 ⟨⟨y, rfl, hy, hys⟩, b4⟩
    have HB4 := Lib.hid b4
    obtain rfl : y = s := txt_ext (by rw [hy]; exact HV.out trivial)
    clear b4 HB3 hy
    go_wp2_with fail
    refine (runs_from w _ HT.out HB4.out).mono ?_
    rintro e w5 ⟨rfl, b5⟩
    have HB5 := Lib.hid b5
    clear b5
    go_wp2_with fail
    go_ret
    exact ⟨rfl, HB5.out⟩
  · obtain rfl : v = 0 := HZ.out hk
    have hk1 : (k == 0) = false := beq_eq_false_iff_ne.2 hk
    have hk2 : (k != 0) = true := by simpa using hk
    go_wp2_with fail
    refine (runs_from w _ HT.out HB3.out).mono ?_
    rintro e w5 ⟨rfl, b5⟩
    have HB5 := Lib.hid b5
    clear b5
    go_wp2_with fail
    go_ret
    exact ⟨rfl, HB5.out⟩
end Go.Proofs.YtagofjnckdhopaaDoor
