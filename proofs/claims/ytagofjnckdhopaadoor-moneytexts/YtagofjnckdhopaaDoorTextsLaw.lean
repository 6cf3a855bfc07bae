/- THE WALK OF MoneyTexts. -/
import Derived.Test.YtagofjnckdhopaaDoorMRuns
import Derived.Test.YtagofjnckdhopaaDoorFmtUint
import Derived.Test.YtagofjnckdhopaaDoorRefRead
namespace Go.Proofs.YtagofjnckdhopaaDoor
open Go.RowKit

theorem fit_in {a : Int} (h : (Lit.int .i64 a).wf = true) : Mn.Fit a := by
  simpa [Lit.wf, IntKind.min, IntKind.max, IntKind.signed, IntKind.bits, Mn.Fit] using h
theorem show_gen (n : Int) (w0 w : World) (hb : Below w0.heap.size w0 w) (ht : Tab w0) (hn : Mn.Fit n) :
    Calls Tryd.prog 9 #[.int .i64 n] w fun e w' => (∃ x : ByteArray, e = .returned (.string x) ∧ txt x = Mn.shown n ∧ x.size ≤ 25) ∧ Below w0.heap.size w0 w' :=
  (show_any n w hn (ht.below hb)).mono fun _ _ ⟨h1, h3⟩ => ⟨h1, hb.trans (h3.mono hb.size)⟩
theorem refShow_gen (n : Int) (w0 w : World) (hb : Below w0.heap.size w0 w) (ht : Tab w0) (hn : Mn.Fit n) :
    Calls Tryd.prog 20 #[.int .i64 n] w fun e w' => (∃ x : ByteArray, e = .returned (.string x) ∧ txt x = Mn.shown n ∧ x.size ≤ 25) ∧ Below w0.heap.size w0 w' :=
  (refShow_any n w hn (ht.below hb)).mono fun _ _ ⟨h1, h3⟩ => ⟨h1, hb.trans (h3.mono hb.size)⟩
theorem refRead_gen (s : ByteArray) (w0 w : World) (hb : Below w0.heap.size w0 w) (hs : s.size ≤ 140737488355328) :
    Calls Tryd.prog 19 #[.string s] w fun e w' => e = both (Mn.val (txt s)) (Mn.why (txt s)) ∧ Below w0.heap.size w0 w' :=
  (refRead_any s w hs).mono fun _ _ ⟨h1, h2⟩ => ⟨h1, hb.trans (h2.mono hb.size)⟩
set_option maxHeartbeats 2000000 in
theorem moneyTexts_walk (n : Int) (s : ByteArray) (w : World) (hn : (Lit.int .i64 n).wf = true) (hs : s.data.toList.length ≤ reachBytes) (ht : Tab w) :
    Calls Tryd.prog 6 #[.int .i64 n, .string s] w fun e w' => e = .returned (.bool true) ∧ Below w.heap.size w w' := by
  have HN := Lib.hid (fit_in hn)
  have hs' : s.size ≤ 140737488355328 := fits hs
  have HT := Lib.hid ht
  clear hn hs ht
  go_enter Tryd.func6, Tryd.ntmps6
  have hcut : (¬ (200 : Int) < (s.size : Int) ∧ ∃ t : ByteArray, t = s ∧ t.size ≤ 140737488355328) ∨ ((200 : Int) < (s.size : Int) ∧ ∃ t : ByteArray, (∀ u, (Instr.slice 9 (.string s) none (some (.int .i64 200)) none).run Tryd.prog u = .ok (.string t) u) ∧ t.size ≤ 140737488355328) := by
    by_cases h : (200 : Int) < (s.size : Int)
    · obtain ⟨t, ht, hsl⟩ := slice_to s 200 (by omega) (by omega)
      refine .inr ⟨h, t, hsl, ?_⟩
      have := congrArg List.length ht
      rw [txt_len, List.length_take, txt_len] at this
      omega
    · exact .inl ⟨h, s, rfl, hs'⟩
  rcases hcut with ⟨h200, t, rfl, hts⟩ | ⟨h200, t, hsl, hts⟩
  all_goals (
    go_wp2_with fail
    refine (read_gen t w _ (Below.refl _ _) hts).mono ?_
    rintro e w1 ⟨rfl, b1⟩
    have HB1 := Lib.hid b1
    clear b1
    obtain ⟨v, hv⟩ : ∃ v, Mn.val (txt t) = v := ⟨_, rfl⟩
    obtain ⟨k, hk⟩ : ∃ k, Mn.why (txt t) = k := ⟨_, rfl⟩
    rw [hv, hk]
    unfold both
    go_wp2_with fail
    refine (refRead_gen t w _ HB1.out hts).mono ?_
    rintro e w2 ⟨rfl, b2⟩
    have HB2 := Lib.hid b2
    clear b2 HB1
    rw [hv, hk]
    clear hv hk
    unfold both
    go_wp2_with fail
    refine (show_gen n w _ HB2.out HT.out HN.out).mono ?_
    rintro e w3 ⟨⟨x, rfl, hx, hxs⟩, b3⟩
    have HB3 := Lib.hid b3
    have HX := Lib.hid hx
    clear b3 HB2 hx
    go_wp2_with fail
    refine (refShow_gen n w _ HB3.out HT.out HN.out).mono ?_
    rintro e w4 ⟨⟨y, rfl, hy, hys⟩, b4⟩
    have HB4 := Lib.hid b4
    obtain rfl : x = y := txt_ext (by rw [HX.out, hy])
    clear b4 HB3 hy HX
    go_wp2_with fail
    refine (runs_from w _ HT.out HB4.out).mono ?_
    rintro e w5 ⟨rfl, b5⟩
    have HB5 := Lib.hid b5
    clear b5
    go_wp2_with fail
    go_ret
    exact ⟨rfl, HB5.out⟩)
end Go.Proofs.YtagofjnckdhopaaDoor
