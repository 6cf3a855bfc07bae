/- THE WALK OF CommandPuts. -/
import Derived.Test.YtndfhnaafaijcaaMGn
import Derived.Test.YtndfhnaafaijcaaRfP
import Derived.Test.YtndfhnaafaijcaaMGa
set_option linter.unusedVariables false
set_option maxRecDepth 100000
namespace Go.Proofs.Ytndfhnaafaijcaa
open Go.RowKit
open Mem Pk Cm

theorem evT {a : Act} {t : Tmp} {v : Value} (h : a.tmps.toList[t]? = some v) : a.eval (.tmp t) = v := by
  show a.tmps.getD t undef = v
  rw [Array.getElem?_toList] at h
  simp [Array.getD_eq_getD_getElem?, h]
theorem few_n' (c : Cm.T) : c.few.n ≤ 100000 := by
  show min c.n 30 ≤ 100000
  omega
theorem bare_no {s : S} (h : ¬ (1 ≤ s.kind ∧ s.kind ≤ 8)) : s.bare.putE = 17 := by
  have e : s.bare.kind = 0 := by
    unfold S.bare
    rw [if_neg (by omega), if_neg (by omega), if_neg (by omega), if_neg (by omega), if_neg (by omega), if_neg (by omega), if_neg (by omega), if_neg (by omega)]
    rfl
  exact putE_no e
set_option maxHeartbeats 16000000 in
theorem commandPuts_walk (c : Cm.T) (ls : List Ln.T) (w : World) (hI : Cm.In w c ls) :
    Calls Try.prog 5 #[Cm.val c] w fun e w' => e = .returned (.bool true) ∧ Below w.heap.size w w' := by
  have HI := Lib.hid hI
  obtain ⟨L, hL⟩ : ∃ L, ls.take 30 = L := ⟨_, rfl⟩
  have HF : Hid (Cm.In w c.few L) := Lib.hid (hL ▸ hI.few)
  clear hL
  obtain ⟨W0, hW0, b0, hB0⟩ := Cm.boxV w c
  have HB0 := Lib.hid b0
  clear hI b0
  unfold Cm.val
  go_enter Try.func5, Try.ntmps5
  go_wp2_with (first | (with_reducible apply Cm.wplG_load (g := w.heap.size) (c := c); rfl; kernel_rfl; exact evT rfl; exact hB0))
  refine (few_any c ls W0 W0 (Below.refl _ _) (HI.out.below HB0.out)).mono ?_
  rintro e w1 ⟨rfl, b1⟩
  have hB1 := hB0.below b1
  obtain ⟨X, hX, hBX, hbX⟩ := Cm.rowW hB1 c.few
  have HBX := Lib.hid (hbX _ _ (bchain HB0.out b1) (Nat.le_refl _))
  have HIX := Lib.hid (HF.out.below HBX.out)
  clear hW0 hB0 b1 hbX
  go_wp2_with (first | (with_reducible apply Cm.wplG_load (g := w.heap.size) (c := c.few); rfl; kernel_rfl; exact evT rfl; exact hBX) | (with_reducible apply Cm.wplB_store (g := w.heap.size) (old := c) (c := c.few); rfl; rfl; kernel_rfl; kernel_rfl; exact hB1; rw [hX]))
  clear hX hB1
  refine (of_any c.few L X HIX.out (few_n' c)).mono ?_
  rintro e w2 ⟨⟨v, rfl, hV⟩, b2⟩
  obtain ⟨W2, hst, d2, k2⟩ := boxS w2 v hV.is.oneCell
  have HB2 := Lib.hid (bchain (bchain HBX.out b2) d2)
  have HV := Lib.hid (hV.is.below d2)
  have HI2 := Lib.hid ((HIX.out.below b2).below d2)
  have hB2 := (hBX.below b2).below d2
  have hck : c.few.kind = c.kind := rfl
  clear b2 d2 hV hBX
  unfold Cm.cv
  by_cases hk8 : 1 ≤ c.kind ∧ c.kind ≤ 8
  · have HE := Lib.hid (bare_put (c.few.sem L) hk8)
    rw [hck, ofE_yes hk8]
    clear hk8 hck
    go_wp2_with fail
    clear hst
    refine (put_any _ v W2 HV.out).mono ?_
    rintro e w3 ⟨⟨ao3, n3, cap3, rfl, hL3⟩, b3⟩
    rw [HE.out.1]
    rw [HE.out.2] at hL3
    have HB3 := Lib.hid (bchain HB2.out b3)
    have HI3 := Lib.hid (HI2.out.below b3)
    have hB3 := hB2.below b3
    have HL3 := Lib.hid hL3
    obtain ⟨x, hx⟩ : ∃ x, (c.few.sem L).putE = x := ⟨_, rfl⟩
    obtain ⟨bs, hbs⟩ : ∃ bs, (c.few.sem L).putB = bs := ⟨_, rfl⟩
    rw [hbs] at HL3
    rw [hx]
    have HX := Lib.hid hx
    have HBs := Lib.hid hbs
    clear b3 k2 hL3 hB2 hx hbs
    go_wp2_with (first | (with_reducible apply Cm.wplG_load (g := w.heap.size) (c := c.few); rfl; kernel_rfl; exact evT rfl; exact hB3))
    refine (rput_any c.few L w3 HI3.out).mono ?_
    rintro e w4 ⟨⟨ao4, n4, cap4, rfl, hL4⟩, b4⟩
    rw [HX.out]
    rw [HBs.out] at hL4
    have HB4 := Lib.hid (bchain HB3.out b4)
    have HL4 := Lib.hid hL4
    have HL3' := Lib.hid (HL3.out.below b4)
    clear b4 hL4 hB3
    go_wp2_with fail
    refine (By.same_any bs bs ao3 ao4 n3 n4 cap3 cap4 w4 HL3'.out HL4.out).mono ?_
    rintro e w5 ⟨rfl, b5⟩
    rw [show decide (bs = bs) = true from decide_eq_true rfl]
    have HB5 := Lib.hid (bchain HB4.out b5)
    clear b5
    go_wp2_with fail
    refine (cruns w5).mono ?_
    rintro e y5 ⟨rfl, b5⟩
    have HB6 := Lib.hid (bchain HB5.out b5)
    clear b5
    go_wp2_with fail
    go_ret
    exact ⟨rfl, HB6.out⟩
  · have HE : Hid ((c.few.sem L).bare.putE = 17) := Lib.hid (bare_no hk8)
    rw [hck, ofE_no hk8]
    clear hk8 hck
    go_wp2_with fail
    clear hst
    refine (put_any _ v W2 HV.out).mono ?_
    rintro e w3 ⟨⟨ao3, n3, cap3, rfl, hL3⟩, b3⟩
    rw [HE.out]
    have HB3 := Lib.hid (bchain HB2.out b3)
    clear b3 k2 hL3 hB2
    go_wp2_with fail
    refine (cruns w3).mono ?_
    rintro e y5 ⟨rfl, b5⟩
    have HB6 := Lib.hid (bchain HB3.out b5)
    clear b5
    go_wp2_with fail
    go_ret
    exact ⟨rfl, HB6.out⟩
end Go.Proofs.Ytndfhnaafaijcaa
