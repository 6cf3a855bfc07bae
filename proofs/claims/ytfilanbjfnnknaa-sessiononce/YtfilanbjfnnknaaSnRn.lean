/- THE WALK OF SessionRuns, from any world. (By gensnruns.py.) -/
import Derived.Test.YtfilanbjfnnknaaSnC
set_option maxRecDepth 100000
set_option linter.unusedVariables false
namespace Go.Proofs.Ytfilanbjfnnknaa
open Go.RowKit
open Mem

theorem fit_lit {n : Int} (h : (decide (-9223372036854775808 ≤ n) && decide (n ≤ 9223372036854775807)) = true) : Fit n := by
  rw [Bool.and_eq_true, decide_eq_true_eq, decide_eq_true_eq] at h
  exact h
theorem Sn.own_lit {w : World} {B n : Nat} {v : Value} {xs : List Sn.T} (h : Sn.Own w B v xs) (hs : ∀ r ∈ xs, Sn.Short r) (hn : xs.length = n) : ∃ ao cap, v = .slice ao n cap ∧ Sn.Ls w ao n cap xs ∧ n ≤ cap ∧ cap ≤ 9223372036854775807 := by
  obtain ⟨ao, cap, e, hL, _⟩ := Sn.own_ls h hs
  subst hn
  exact ⟨ao, cap, e, hL, hL.fits, hL.reach⟩
def sL1 : List Sn.T := [⟨3, 0, 0, 0, 0⟩]
def sL2 : List Sn.T := [⟨3, 5, 0, 7, 0⟩]
theorem sL_short {r : Sn.T} (h : r ∈ sL1 ∨ r ∈ sL2) : Sn.Short r := by
  rcases h with h | h
  · obtain rfl := List.mem_singleton.1 h
    exact ⟨fit_lit rfl, fit_lit rfl, fit_lit rfl, fit_lit rfl, fit_lit rfl⟩
  · obtain rfl := List.mem_singleton.1 h
    exact ⟨fit_lit rfl, fit_lit rfl, fit_lit rfl, fit_lit rfl, fit_lit rfl⟩
theorem s_join0 : Sp.joinE [] 3 = 0 ∧ Sp.joinR [] 3 = sL1 := ⟨by decide, rfl⟩
theorem s_keep1 : Sp.keepE sL1 3 5 = 0 ∧ Sp.keepR sL1 3 5 0 7 0 = sL2 := ⟨by decide, rfl⟩
theorem s_look5 : Sp.lookE sL2 3 5 = 0 ∧ Sp.lookO sL2 3 5 = true ∧ Sp.rep (Sp.lookT sL2 3 5) = ⟨0, 7, 0⟩ := ⟨by decide, by decide, by rfl⟩
theorem s_look4 : Sp.lookE sL2 3 4 = 16 ∧ Sp.lookO sL2 3 4 = false ∧ Sp.rep (Sp.lookT sL2 3 4) = ⟨0, 0, 0⟩ := ⟨by decide, by decide, by rfl⟩
theorem s_look6 : Sp.lookE sL2 3 6 = 0 ∧ Sp.lookO sL2 3 6 = false ∧ Sp.rep (Sp.lookT sL2 3 6) = ⟨0, 0, 0⟩ := ⟨by decide, by decide, by rfl⟩
theorem s_look9 : Sp.lookE sL2 9 1 = 15 ∧ Sp.lookO sL2 9 1 = false ∧ Sp.rep (Sp.lookT sL2 9 1) = ⟨0, 0, 0⟩ := ⟨by decide, by decide, by rfl⟩
theorem s_keep2 : Sp.keepE sL2 3 5 = 12 := by decide
theorem s_join3 : Sp.joinE sL2 3 = 12 := by decide
theorem s_leave9 : Sp.leaveE sL2 9 = 11 := by decide
set_option maxHeartbeats 4000000 in
theorem snruns (w0 w : World) (hw : Below w0.heap.size w0 w) :
    Calls Try.prog 3 #[] w fun e w' => e = .returned (.bool true) ∧ Below w0.heap.size w0 w' := by
  obtain ⟨U, hU, hbU, hCU⟩ := Rp.boxed1 w ⟨0, 7, 0⟩
  simp only at hU
  have HB0 := Lib.hid (bchain hw hbU)
  have HC0 := Lib.hid hCU
  have HU := Lib.hid hU
  clear hw hbU hCU hU
  go_enter Try.func3, Try.ntmps3
  go_wp2_with fail
  rw [HU.out]
  obtain ⟨g, hg⟩ : ∃ g, w.heap.size = g := ⟨_, rfl⟩
  rw [hg] at HC0
  try rw [hg]
  clear hg HU
  refine (ses_join [] 3 none 0 0 U (Sn.ls_nil _) (fit_lit rfl)).mono ?_
  rintro e w1 ⟨v1, rfl, o1, b1⟩
  rw [s_join0.1]
  rw [s_join0.2] at o1
  obtain ⟨ao1, c1, rfl, hL1, hf1, hr1⟩ := Sn.own_lit o1 (fun r hr => sL_short (.inl hr)) (n := 1) rfl
  have HB1 := Lib.hid (bchain HB0.out b1)
  have HL1 := Lib.hid hL1
  have HC1 := Lib.hid (HC0.out.below b1)
  have hC := HC1.out
  unfold Rp.C at hC
  obtain ⟨a0, a1, a2⟩ := hC
  simp only at a0 a1 a2
  clear o1 b1 hL1 HB0 HC0
  go_wp2_with fail
  clear a0 a1 a2
  refine (ses_keep sL1 3 5 ⟨0, 7, 0⟩ ao1 1 c1 w1 HL1.out (fit_lit rfl) (fit_lit rfl) ⟨fit_lit rfl, fit_lit rfl, fit_lit rfl⟩).mono ?_
  rintro e w2 ⟨v2, rfl, o2, b2⟩
  simp only at o2
  rw [s_keep1.1]
  rw [s_keep1.2] at o2
  obtain ⟨ao2, c2, rfl, hL2, hf2, hr2⟩ := Sn.own_lit o2 (fun r hr => sL_short (.inr hr)) (n := 1) rfl
  have HB := Lib.hid (bchain HB1.out b2)
  have HL := Lib.hid hL2
  have HC := Lib.hid (HC1.out.below b2)
  clear o2 b2 hL2 HB1 HC1 HL1
  go_wp2_with fail
  refine (ses_look sL2 3 5 ao2 1 c2 w2 _ (Below.refl _ _) HL.out (fit_lit rfl) (fit_lit rfl)).mono ?_
  rintro e w3 ⟨rfl, b3⟩
  rw [s_look5.1, s_look5.2.1, s_look5.2.2]
  obtain ⟨V3, hV3, hbV3, hCV3⟩ := Rp.boxed1 w3 ⟨0, 7, 0⟩
  simp only at hV3
  have HV3 := Lib.hid hV3
  replace HB := Lib.hid (bchain (bchain HB.out b3) hbV3)
  replace HC := Lib.hid ((HC.out.below b3).below hbV3)
  replace HL := Lib.hid ((HL.out.below b3).below hbV3)
  have HD := Lib.hid hCV3
  unfold Rp.val
  simp only
  clear b3 hbV3 hCV3 hV3
  go_wp2_with fail
  rw [HV3.out]
  clear HV3
  obtain ⟨g2, hg2⟩ : ∃ g2, w3.heap.size = g2 := ⟨_, rfl⟩
  rw [hg2] at HD
  try rw [hg2]
  clear hg2
  refine (ses_look sL2 3 4 ao2 1 c2 V3 _ (Below.refl _ _) HL.out (fit_lit rfl) (fit_lit rfl)).mono ?_
  rintro e w4 ⟨rfl, b4⟩
  rw [s_look4.1, s_look4.2.1, s_look4.2.2]
  obtain ⟨V4, hV4, hbV4, hCV4⟩ := Rp.boxed1 w4 ⟨0, 0, 0⟩
  simp only at hV4
  have HV4 := Lib.hid hV4
  replace HB := Lib.hid (bchain (bchain HB.out b4) hbV4)
  replace HC := Lib.hid ((HC.out.below b4).below hbV4)
  replace HL := Lib.hid ((HL.out.below b4).below hbV4)
  replace HD := Lib.hid ((HD.out.below b4).below hbV4)
  unfold Rp.val
  simp only
  clear b4 hbV4 hCV4 hV4
  go_wp2_with fail
  rw [HV4.out]
  clear HV4
  refine (ses_look sL2 3 6 ao2 1 c2 V4 _ (Below.refl _ _) HL.out (fit_lit rfl) (fit_lit rfl)).mono ?_
  rintro e w5 ⟨rfl, b5⟩
  rw [s_look6.1, s_look6.2.1, s_look6.2.2]
  obtain ⟨V5, hV5, hbV5, hCV5⟩ := Rp.boxed1 w5 ⟨0, 0, 0⟩
  simp only at hV5
  have HV5 := Lib.hid hV5
  replace HB := Lib.hid (bchain (bchain HB.out b5) hbV5)
  replace HC := Lib.hid ((HC.out.below b5).below hbV5)
  replace HL := Lib.hid ((HL.out.below b5).below hbV5)
  replace HD := Lib.hid ((HD.out.below b5).below hbV5)
  unfold Rp.val
  simp only
  clear b5 hbV5 hCV5 hV5
  go_wp2_with fail
  rw [HV5.out]
  clear HV5
  refine (ses_look sL2 9 1 ao2 1 c2 V5 _ (Below.refl _ _) HL.out (fit_lit rfl) (fit_lit rfl)).mono ?_
  rintro e w6 ⟨rfl, b6⟩
  rw [s_look9.1, s_look9.2.1, s_look9.2.2]
  obtain ⟨V6, hV6, hbV6, hCV6⟩ := Rp.boxed1 w6 ⟨0, 0, 0⟩
  simp only at hV6
  have HV6 := Lib.hid hV6
  replace HB := Lib.hid (bchain (bchain HB.out b6) hbV6)
  replace HC := Lib.hid ((HC.out.below b6).below hbV6)
  replace HL := Lib.hid ((HL.out.below b6).below hbV6)
  replace HD := Lib.hid ((HD.out.below b6).below hbV6)
  have hC := HC.out
  unfold Rp.C at hC
  obtain ⟨a0, a1, a2⟩ := hC
  simp only at a0 a1 a2
  rw [← HV6.out] at a0 a1 a2
  unfold Rp.val
  simp only
  clear b6 hbV6 hCV6 hV6
  go_wp2_with fail
  rw [HV6.out]
  clear HV6
  clear a0 a1 a2
  refine (ses_keep sL2 3 5 ⟨0, 7, 0⟩ ao2 1 c2 V6 HL.out (fit_lit rfl) (fit_lit rfl) ⟨fit_lit rfl, fit_lit rfl, fit_lit rfl⟩).mono ?_
  rintro e w7 ⟨v7, rfl, o7, b7⟩
  rw [s_keep2]
  replace HB := Lib.hid (bchain HB.out b7)
  replace HC := Lib.hid (HC.out.below b7)
  replace HL := Lib.hid (HL.out.below b7)
  replace HD := Lib.hid (HD.out.below b7)
  clear o7 b7
  go_wp2_with fail
  refine (ses_join sL2 3 ao2 1 c2 w7 HL.out (fit_lit rfl)).mono ?_
  rintro e w8 ⟨v8, rfl, o8, b8⟩
  rw [s_join3]
  replace HB := Lib.hid (bchain HB.out b8)
  replace HC := Lib.hid (HC.out.below b8)
  replace HL := Lib.hid (HL.out.below b8)
  replace HD := Lib.hid (HD.out.below b8)
  clear o8 b8
  go_wp2_with fail
  refine (ses_leave sL2 9 ao2 1 c2 w8 HL.out (fit_lit rfl)).mono ?_
  rintro e w9 ⟨v9, rfl, o9, b9⟩
  rw [s_leave9]
  replace HB := Lib.hid (bchain HB.out b9)
  replace HC := Lib.hid (HC.out.below b9)
  replace HD := Lib.hid (HD.out.below b9)
  clear o9 b9
  have hC := HC.out
  unfold Rp.C at hC
  obtain ⟨a0, a1, a2⟩ := hC
  simp only at a0 a1 a2
  have hD := HD.out
  unfold Rp.C at hD
  obtain ⟨d0, d1, d2⟩ := hD
  simp only at d0 d1 d2
  go_wp2_with fail
  go_ret
  exact ⟨rfl, HB.out⟩
theorem sessionRuns_walk (w : World) : Calls Try.prog 3 #[] w fun e w' => e = .returned (.bool true) ∧ Below w.heap.size w w' := snruns w w (Below.refl _ _)
end Go.Proofs.Ytfilanbjfnnknaa
