/- THE WALK OF InvoiceOne. -/
import Derived.Test.YthcaecinjmnlbaaIRn
import Derived.Test.YthcaecinjmnlbaaIvO
import Derived.Test.YthcaecinjmnlbaaBookZ
set_option maxRecDepth 100000
set_option linter.unusedVariables false
namespace Go.Proofs.Ythcaecinjmnlbaa
open Go.RowKit
open Vt (Rt)

theorem one_bounds {k x r : Int} (hk : 1 ≤ k ∧ k ≤ 1000) (hx : 0 ≤ x ∧ x ≤ 1073741824) (hr : 0 ≤ r ∧ r ≤ 100000) : 0 ≤ k * x ∧ k * x ≤ 1073741824000 ∧ 0 ≤ k * x * r ∧ k * x * r ≤ 107374182400000000 := by
  have h1 : 0 ≤ k * x := Int.mul_nonneg (by omega) hx.1
  have h2 : k * x ≤ 1000 * 1073741824 := Int.mul_le_mul hk.2 hx.2 hx.1 (by omega)
  have h3 : 0 ≤ k * x * r := Int.mul_nonneg h1 hr.1
  have h4 : k * x * r ≤ 1073741824000 * 100000 := Int.mul_le_mul (by omega) hr.2 hr.1 (by omega)
  exact ⟨h1, by omega, h3, by omega⟩
set_option maxHeartbeats 4000000 in
theorem invoiceOne_walk (a b c : Int) (w : World) (ha : (Lit.int .i64 a).wf = true) (hb : (Lit.int .i64 b).wf = true) (hc : (Lit.int .i64 c).wf = true) :
    Calls Try.prog 8 #[.int .i64 a, .int .i64 b, .int .i64 c] w fun e w' => e = .returned (.bool true) ∧ Below w.heap.size w w' := by
  have Ha := Lib.hid (fit_in ha)
  have Hb := Lib.hid (fit_in hb)
  have Hc := Lib.hid (fit_in hc)
  clear ha hb hc
  go_enter Try.func8, Try.ntmps8
  go_wp2_with fail
  refine (bookWithin_z a 0 100000 w Ha.out (by omega) (by omega) (by omega)).mono ?_
  rintro e w1 ⟨⟨r, rfl, hr0, hr1⟩, hw1⟩
  subst hw1
  have HR := Lib.hid (And.intro hr0 hr1)
  clear hr0 hr1
  go_wp2_with fail
  refine (bookWithin_z b 1 1000 w1 Hb.out (by omega) (by omega) (by omega)).mono ?_
  rintro e w2 ⟨⟨k, rfl, hk0, hk1⟩, hw2⟩
  subst hw2
  have HK := Lib.hid (And.intro hk0 hk1)
  clear hk0 hk1
  go_wp2_with fail
  refine (bookWithin_z c 0 1073741824 w2 Hc.out (by omega) (by omega) (by omega)).mono ?_
  rintro e w3 ⟨⟨x, rfl, hx0, hx1⟩, hw3⟩
  subst hw3
  have HX := Lib.hid (And.intro hx0 hx1)
  clear hx0 hx1
  go_wp2_with fail
  refine (row_any ⟨#[115, 116, 100]⟩ 2000 1 r w3 _ (Below.refl _ _)).mono ?_
  rintro e w4 ⟨rfl, b4⟩
  have HB4 := Lib.hid b4
  clear b4
  unfold rowV
  dsimp only
  have HSr : Hid (Short ⟨Iv.std, 2000, 1, 1, r⟩) := Lib.hid ⟨(by decide : Iv.std.size ≤ 140737488355328), fit_lit rfl, fit_lit rfl, fit_lit rfl, (⟨by have := HR.out; omega, by have := HR.out; omega⟩ : Fit r)⟩
  obtain ⟨V, hV⟩ : ∃ V, w4.alloc (.cells #[.string ⟨#[115, 116, 100]⟩, .int .i64 2000, .int .i64 1, .int .i64 1, .int .i64 r] 25) = V := ⟨_, rfl⟩
  have HRt : Hid (Rts V (some ⟨w4.heap.size, 0, none⟩) 1 1 [⟨Iv.std, 2000, 1, 1, r⟩]) := Lib.hid (hV ▸ rts_one w4 ⟨Iv.std, 2000, 1, 1, r⟩ HSr.out)
  have HBV : Hid (Below w3.heap.size w3 V) := Lib.hid (hV ▸ below_box HB4.out _)
  go_wp2_with fail
  refine (line_any k x ⟨#[115, 116, 100]⟩ V _ (Below.refl _ _)).mono ?_
  rintro e w5 ⟨rfl, b5⟩
  have HRt5 := Lib.hid (HRt.out.below b5)
  have HB5 := Lib.hid (bchain HBV.out b5)
  clear b5 hV HRt HBV
  unfold Ln.val
  dsimp only
  have HSl : Hid (Ln.Short ⟨⟨#[]⟩, Iv.std, k, x⟩) := Lib.hid ⟨(by decide : (⟨#[]⟩ : ByteArray).size ≤ 140737488355328), (by decide : Iv.std.size ≤ 140737488355328), ⟨by have := HK.out; show _ ≤ k; omega, by have := HK.out; show k ≤ _; omega⟩, ⟨by have := HX.out; show _ ≤ x; omega, by have := HX.out; show x ≤ _; omega⟩⟩
  obtain ⟨Y, hY⟩ : ∃ Y, w5.alloc (.cells #[.string ⟨#[]⟩, .string ⟨#[115, 116, 100]⟩, .int .i64 k, .int .i64 x] 35) = Y := ⟨_, rfl⟩
  have HLs : Hid (Ln.Ls Y (some ⟨w5.heap.size, 0, none⟩) 1 1 [⟨⟨#[]⟩, Iv.std, k, x⟩]) := Lib.hid (hY ▸ lns_one w5 ⟨⟨#[]⟩, Iv.std, k, x⟩ HSl.out)
  have hbY : Below w5.heap.size w5 Y := hY ▸ (Below.refl _ _).alloc (Nat.le_refl _) _
  have HRt6 := Lib.hid (HRt5.out.below hbY)
  have HBY := Lib.hid (bchain HB5.out hbY)
  clear hbY
  go_wp2_with fail
  refine (inv_total _ _ _ _ 1 1 1 1 2026 11 15 Y HRt6.out HLs.out (fit_lit rfl) (fit_lit rfl) (fit_lit rfl)).mono ?_
  rintro e w6 ⟨v, rfl, hO, b6⟩
  have hT := Iv.tot_one HR.out HK.out HX.out
  rw [hT.1, hT.2.1, hT.2.2.1, hT.2.2.2]
  obtain ⟨vo, vn, vc, rfl⟩ := Pt.own_slice hO
  have HB6 := Lib.hid (bchain HBY.out b6)
  have HBd := Lib.hid (one_bounds HK.out HX.out HR.out)
  obtain ⟨q1, q2, q3, q4⟩ := HBd.out
  obtain ⟨hk0, hk1⟩ := HK.out
  obtain ⟨hx0, hx1⟩ := HX.out
  obtain ⟨hr0, hr1⟩ := HR.out
  obtain ⟨N, hN⟩ : ∃ N, k * x = N := ⟨_, rfl⟩
  rw [hN] at q1 q2 q3 q4 ⊢
  obtain ⟨Z, hZ⟩ : ∃ Z, N * r = Z := ⟨_, rfl⟩
  rw [hZ] at q3 q4 ⊢
  have hdv : (Z + 5000).tdiv 10000 = (Z + 5000) / 10000 := Int.tdiv_eq_ediv_of_nonneg (by omega)
  have q5 : 0 ≤ (Z + 5000) / 10000 := by omega
  have q6 : (Z + 5000) / 10000 ≤ 10737418240001 := by omega
  obtain ⟨D, hD⟩ : ∃ D, (Z + 5000) / 10000 = D := ⟨_, rfl⟩
  rw [hD] at hdv q5 q6 ⊢
  clear hT hO b6 hY HRt5 HRt6 HLs hD
  unfold Tt.val
  go_wp2_with fail
  refine (iruns w3 _ (below_box HB6.out _)).mono ?_
  rintro e w7 ⟨rfl, b7⟩
  have HB7 := Lib.hid b7
  clear b7
  go_wp2_with fail
  go_ret
  exact ⟨rfl, HB7.out⟩
end Go.Proofs.Ythcaecinjmnlbaa
