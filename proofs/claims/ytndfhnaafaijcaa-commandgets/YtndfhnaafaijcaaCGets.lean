/- THE WALK OF CommandGets. -/
import Derived.Test.YtndfhnaafaijcaaMGn
import Derived.Test.YtndfhnaafaijcaaRgG
import Derived.Test.YtndfhnaafaijcaaMGi
import Derived.Test.YtndfhnaafaijcaaMGs
import Derived.Test.YtndfhnaafaijcaaMGa
set_option linter.unusedVariables false
set_option maxRecDepth 100000
namespace Go.Proofs.Ytndfhnaafaijcaa
open Go.RowKit
open Mem Pk Cm

theorem evT {a : Act} {t : Tmp} {v : Value} (h : a.tmps.toList[t]? = some v) : a.eval (.tmp t) = v := by
  show a.tmps.getD t undef = v
  rw [Array.getElem?_toList] at h
  simp [Array.getD_eq_getD_getElem?, h]
set_option maxHeartbeats 16000000 in
theorem commandGets_walk (bs : List UInt8) (a1 : Option Addr) (len1 cap1 : Nat) (w : World) (hL1 : By.Ls w a1 len1 cap1 bs) (hn1 : len1 ≤ 140737488351232) :
    Calls Try.prog 6 #[.slice a1 len1 cap1] w fun e w' => e = .returned (.bool true) ∧ Below w.heap.size w w' := by
  have HL := Lib.hid hL1
  have hcap := hL1.reach
  have hfit := hL1.fits
  have HLen := Lib.hid hL1.len
  clear hL1
  go_enter Try.func6, Try.ntmps6
  go_wp2_with fail
  refine (By.roomy bs 12 a1 len1 cap1 w HL.out (by omega)).mono ?_
  rintro e w1 ⟨rfl, hB1, b1⟩
  have HF := hB1.ls (by rw [List.length_append, List.length_replicate, ← HLen.out]; omega)
  rw [List.length_append, List.length_replicate, ← HLen.out] at HF
  obtain ⟨hsl, hLb⟩ := HF.to len1 (by omega)
  rw [List.take_left' HLen.out.symm] at hLb
  have HLb := Lib.hid hLb
  have HB1 := Lib.hid b1
  have HBk := Lib.hid hB1
  clear b1 hB1 HF hLb
  go_wp2_with fail
  clear hsl
  refine (get_any bs _ len1 (len1 + 80) w1 HLb.out).mono ?_
  rintro e w2 ⟨⟨v, rfl, hV⟩, b2⟩
  obtain ⟨W2, hst, d2, k2⟩ := boxS w2 v hV.is.oneCell
  have HB2 := Lib.hid (bchain (bchain HB1.out b2) d2)
  have HV := Lib.hid (hV.is.below d2)
  have HBk2 := Lib.hid ((HBk.out.below b2).below d2)
  clear b2 d2 hV
  unfold Cm.cv
  go_wp2_with fail
  clear hst
  refine (rget_any bs a1 len1 cap1 W2 (HL.out.below HB2.out)).mono ?_
  rintro e w3 ⟨⟨c3, rfl, hI3, hs3, _⟩, b3⟩
  have HOk := Lib.hid (get_ok (bs := bs))
  have HZr := Lib.hid (get_zero (bs := bs))
  obtain ⟨⟨s, x⟩, hg⟩ : ∃ q, Cm.get bs = q := ⟨_, rfl⟩
  rw [hg] at HV HOk HZr hI3 hs3 ⊢
  dsimp only at HV HOk HZr hI3 hs3 ⊢
  obtain ⟨W3, hW3, d3, hB3⟩ := Cm.boxB w3 c3
  have HB3 := Lib.hid (bchain (bchain HB2.out b3) d3)
  have HV3 := Lib.hid ((HV.out.below b3).below d3)
  have HBk3 := Lib.hid ((HBk2.out.below b3).below d3)
  have HI3 := Lib.hid (hI3.below d3)
  have HS3 := Lib.hid hs3
  have k3 := keepC d3 (keepC b3 k2)
  have HK : Hid (decide (s.kind ≠ 0) = decide (x = 0)) := Lib.hid (by
    by_cases hx : x = 0
    · have g1 := (HOk.out hx).1
      rw [decide_eq_true hx]
      exact decide_eq_true (by have := g1.lo; omega)
    · rw [decide_eq_false hx]
      exact decide_eq_false (fun h => h (by rw [HZr.out hx]; rfl)))
  clear b3 d3 hI3 hs3 hg k2
  go_wp2_with (first | (with_reducible apply Cm.wplB_new (c := c3); rfl; rfl; kernel_rfl; rfl; kernel_rfl; kernel_rfl; rw [hW3]))
  clear hW3
  refine (By.intact bs 12 a1 w.heap.size len1 cap1 W3 (HL.out.below HB3.out) HBk3.out (by omega)).mono ?_
  rintro e w4 ⟨rfl, b4⟩
  have HB4 := Lib.hid (bchain HB3.out b4)
  have HV4 := Lib.hid (HV3.out.below b4)
  have HI4 := Lib.hid (HI3.out.below b4)
  have hB4 := hB3.below b4
  have k4 := keepC b4 k3
  clear b4 hB3 k3
  by_cases hx : x = 0
  · subst hx
    replace HK : Hid (decide (s.kind ≠ 0) = true) := HK
    go_wp2_with fail
    refine (flat_any s v w4 HV4.out).mono ?_
    rintro e w5 ⟨⟨c5, rfl, hI5, hs5, _⟩, b5⟩
    rw [HK.out]
    obtain ⟨W5, hW5, d5, hB5⟩ := Cm.boxB w5 c5
    have HB5 := Lib.hid (bchain (bchain HB4.out b5) d5)
    have HI5 := Lib.hid (hI5.below d5)
    have HS5 := Lib.hid hs5
    have HI3' := Lib.hid ((HI4.out.below b5).below d5)
    have hB3' := (hB4.below b5).below d5
    clear b5 d5 hI5 hs5 k4 hB4
    go_wp2_with (first | (with_reducible apply Cm.wplG_load (g := w5.heap.size) (c := c5); rfl; kernel_rfl; exact evT rfl; exact hB5) | (with_reducible apply Cm.wplG_load (g := w3.heap.size) (c := c3); rfl; kernel_rfl; exact evT rfl; exact hB3') | (with_reducible apply Cm.wplB_new (c := c5); rfl; rfl; kernel_rfl; rfl; kernel_rfl; kernel_rfl; rw [hW5]))
    clear hW5
    refine (cmds_any c5 c3 s.lines s.lines W5 W5 (Below.refl _ _) HI5.out HI3'.out).mono ?_
    rintro e w7 ⟨⟨t7, rfl, ht7⟩, b7⟩
    have e7 : t7 = true := ht7.2 (by rw [HS5.out, HS3.out])
    subst e7
    have HB7 := Lib.hid (bchain HB5.out b7)
    clear ht7 b7 hB3' hB5
    go_wp2_with fail
    refine (cruns w7).mono ?_
    rintro e y5 ⟨rfl, b5⟩
    have HB8 := Lib.hid (bchain HB7.out b5)
    clear b5
    go_wp2_with fail
    go_ret
    exact ⟨rfl, HB8.out⟩
  · replace HK : Hid (decide (s.kind ≠ 0) = false) := Lib.hid (by rw [HK.out, decide_eq_false hx])
    have qx : (x == 0) = false := beq_eq_false_iff_ne.2 hx
    clear hx
    go_wp2_with fail
    refine (flat_any s v w4 HV4.out).mono ?_
    rintro e w5 ⟨⟨c5, rfl, hI5, hs5, _⟩, b5⟩
    rw [HK.out]
    obtain ⟨W5, hW5, d5, hB5⟩ := Cm.boxB w5 c5
    have HB5 := Lib.hid (bchain (bchain HB4.out b5) d5)
    have HI5 := Lib.hid (hI5.below d5)
    have HS5 := Lib.hid hs5
    have HI3' := Lib.hid ((HI4.out.below b5).below d5)
    have hB3' := (hB4.below b5).below d5
    clear b5 d5 hI5 hs5 k4 hB4
    go_wp2_with (first | (with_reducible apply Cm.wplG_load (g := w5.heap.size) (c := c5); rfl; kernel_rfl; exact evT rfl; exact hB5) | (with_reducible apply Cm.wplG_load (g := w3.heap.size) (c := c3); rfl; kernel_rfl; exact evT rfl; exact hB3') | (with_reducible apply Cm.wplB_new (c := c5); rfl; rfl; kernel_rfl; rfl; kernel_rfl; kernel_rfl; rw [hW5]))
    clear hW5
    refine (cmds_any c5 c3 s.lines s.lines W5 W5 (Below.refl _ _) HI5.out HI3'.out).mono ?_
    rintro e w7 ⟨⟨t7, rfl, ht7⟩, b7⟩
    have e7 : t7 = true := ht7.2 (by rw [HS5.out, HS3.out])
    subst e7
    have HB7 := Lib.hid (bchain HB5.out b7)
    clear ht7 b7 hB3' hB5
    go_wp2_with fail
    refine (cruns w7).mono ?_
    rintro e y5 ⟨rfl, b5⟩
    have HB8 := Lib.hid (bchain HB7.out b5)
    clear b5
    go_wp2_with fail
    go_ret
    exact ⟨rfl, HB8.out⟩
end Go.Proofs.Ytndfhnaafaijcaa
