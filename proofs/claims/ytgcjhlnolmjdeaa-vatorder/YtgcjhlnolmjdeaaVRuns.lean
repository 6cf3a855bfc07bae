/- THE WALK OF VatRuns. -/
import Derived.Test.YtgcjhlnolmjdeaaVLaw
namespace Go.Proofs.Ytgcjhlnolmjdeaa
open Go.RowKit
open Vt (Rt)

theorem rts_three (u : World) (a b c : Rt) (ha : Short a) (hb : Short b) (hc : Short c) : Rts (u.alloc (.cells #[.string a.cat, .int .i64 a.y, .int .i64 a.m, .int .i64 a.d, .int .i64 a.bp, .string b.cat, .int .i64 b.y, .int .i64 b.m, .int .i64 b.d, .int .i64 b.bp, .string c.cat, .int .i64 c.y, .int .i64 c.m, .int .i64 c.d, .int .i64 c.bp] 25)) (some ⟨u.heap.size, 0, none⟩) 3 3 [a, b, c] := by
  have hs : ∀ r ∈ [a, b, c], Short r := by
    intro r hr
    simp only [List.mem_cons, List.not_mem_nil, or_false] at hr
    rcases hr with rfl | rfl | rfl
    · exact ha
    · exact hb
    · exact hc
  refine ⟨rfl, Nat.le_refl _, by omega, (fun h => by cases h), .inr ⟨u.heap.size, 0, rfl, fun k hk => ?_⟩, hs⟩
  have h3 : k = 0 ∨ k = 1 ∨ k = 2 := by
    simp only [List.length_cons, List.length_nil] at hk
    omega
  rcases h3 with rfl | rfl | rfl
  all_goals refine ⟨?_, ?_, ?_, ?_, ?_⟩
  all_goals simp [go_sem]
theorem fit_lit {n : Int} (h : (decide (-9223372036854775808 ≤ n) && decide (n ≤ 9223372036854775807)) = true) : Fit n := by
  rw [Bool.and_eq_true, decide_eq_true_eq, decide_eq_true_eq] at h
  exact h
theorem short_lit {c : ByteArray} {y m d bp : Int} (hc : c.size ≤ 140737488355328) (hy : (decide (-9223372036854775808 ≤ y) && decide (y ≤ 9223372036854775807)) = true) (hm : (decide (-9223372036854775808 ≤ m) && decide (m ≤ 9223372036854775807)) = true) (hd : (decide (-9223372036854775808 ≤ d) && decide (d ≤ 9223372036854775807)) = true) (hb : (decide (-9223372036854775808 ≤ bp) && decide (bp ≤ 9223372036854775807)) = true) : Short ⟨c, y, m, d, bp⟩ :=
  ⟨hc, fit_lit hy, fit_lit hm, fit_lit hd, fit_lit hb⟩
def food : ByteArray := ⟨#[102, 111, 111, 100]⟩
def ra : Rt := ⟨⟨#[102, 111, 111, 100]⟩, 2000, 1, 1, 700⟩
def rb : Rt := ⟨⟨#[102, 111, 111, 100]⟩, 2020, 7, 1, 500⟩
def rc : Rt := ⟨⟨#[115, 116, 100]⟩, 2000, 1, 1, 1900⟩
def rd : Rt := ⟨⟨#[102, 111, 111, 100]⟩, 2010, 1, 1, 600⟩
def re : Rt := ⟨⟨#[102, 111, 111, 100]⟩, 2000, 1, 1, 1⟩
def rf : Rt := ⟨⟨#[55, 97]⟩, 2000, 1, 1, 1⟩
theorem short_a : Short ra := short_lit (by decide) rfl rfl rfl rfl
theorem short_b : Short rb := short_lit (by decide) rfl rfl rfl rfl
theorem short_c : Short rc := short_lit (by decide) rfl rfl rfl rfl
theorem short_d : Short rd := short_lit (by decide) rfl rfl rfl rfl
theorem short_e : Short re := short_lit (by decide) rfl rfl rfl rfl
theorem short_f : Short rf := short_lit (by decide) rfl rfl rfl rfl
theorem run_table : Vt.tableB [ra, rb, rc] = true := by decide +kernel
theorem run_find1 : decide (Vt.find [ra, rb, rc] ⟨#[102, 111, 111, 100]⟩ 2020 6 30 = (700, true)) = true := by decide +kernel
theorem run_find2 : decide (Vt.find [ra, rb, rc] ⟨#[102, 111, 111, 100]⟩ 2020 7 1 = (500, true)) = true := by decide +kernel
theorem run_find3 : decide (Vt.find [ra, rb, rc] ⟨#[102, 111, 111, 100]⟩ 1999 12 31 = (0, false)) = true := by decide +kernel
theorem run_find4 : decide (Vt.find [ra, rb, rc] ⟨#[114, 101, 110, 116]⟩ 2020 1 1 = (0, false)) = true := by decide +kernel
theorem run_put1 : Vt.putE [ra, rb, rc] rd = 0 := by decide +kernel
theorem run_len : (Vt.putR [ra, rb, rc] rd).length = 4 := by decide +kernel
theorem run_find5 : decide (Vt.find (Vt.putR [ra, rb, rc] rd) ⟨#[102, 111, 111, 100]⟩ 2015 1 1 = (600, true)) = true := by decide +kernel
theorem run_put2 : Vt.putE [ra, rb, rc] re = 12 := by decide +kernel
theorem run_put3 : Vt.putE [ra, rb, rc] rf = 8 := by decide +kernel
theorem run_short : ∀ r ∈ Vt.putR [ra, rb, rc] rd, Short r := by
  intro r hr
  rcases Vt.putR_mem hr with rfl | hr
  · exact short_d
  · simp only [List.mem_cons, List.not_mem_nil, or_false] at hr
    rcases hr with rfl | rfl | rfl
    · exact short_a
    · exact short_b
    · exact short_c
set_option maxHeartbeats 2000000 in
theorem vruns_any (w0 w : World) (hw : Below w0.heap.size w0 w) :
    Calls Try.prog 3 #[] w fun e w' => e = .returned (.bool true) ∧ Below w0.heap.size w0 w' := by
  have HB0 := Lib.hid hw
  clear hw
  go_enter Try.func3, Try.ntmps3
  go_wp2_with fail
  refine (row_any ⟨#[102, 111, 111, 100]⟩ 2000 1 1 700 w0 _ HB0.out).mono ?_
  rintro e w1 ⟨rfl, b1⟩
  have HB1 := Lib.hid b1
  clear b1
  unfold rowV
  dsimp only
  go_wp2_with fail
  refine (row_any ⟨#[102, 111, 111, 100]⟩ 2020 7 1 500 w0 _ HB1.out).mono ?_
  rintro e w2 ⟨rfl, b2⟩
  have HB2 := Lib.hid b2
  clear b2
  unfold rowV
  dsimp only
  go_wp2_with fail
  refine (row_any ⟨#[115, 116, 100]⟩ 2000 1 1 1900 w0 _ HB2.out).mono ?_
  rintro e w3 ⟨rfl, b3⟩
  have HB3 := Lib.hid b3
  clear b3
  unfold rowV
  dsimp only
  have HL := Lib.hid (rts_three w3 ra rb rc short_a short_b short_c)
  obtain ⟨W, hW⟩ : ∃ W, w3.alloc (.cells #[.string ra.cat, .int .i64 ra.y, .int .i64 ra.m, .int .i64 ra.d, .int .i64 ra.bp, .string rb.cat, .int .i64 rb.y, .int .i64 rb.m, .int .i64 rb.d, .int .i64 rb.bp, .string rc.cat, .int .i64 rc.y, .int .i64 rc.m, .int .i64 rc.d, .int .i64 rc.bp] 25) = W := ⟨_, rfl⟩
  have HBW : Hid (Below w0.heap.size w0 W) := Lib.hid (hW ▸ below_box HB3.out _)
  rw [hW] at HL
  unfold ra rb rc at hW
  dsimp only at hW
  go_wp2_with fail
  refine (vat_right [ra, rb, rc] _ 3 3 W _ (Below.refl _ _) HL.out).mono ?_
  rintro e w4 ⟨rfl, b4⟩
  have HB4 := Lib.hid b4
  clear b4
  rw [run_table]
  go_wp2_with fail
  refine (finds_any [ra, rb, rc] _ 3 3 ⟨#[102, 111, 111, 100]⟩ 2020 6 30 700 true W _ HB4.out (HL.out.below HB4.out) (fit_lit rfl) (fit_lit rfl) (fit_lit rfl)).mono ?_
  rintro e w5 ⟨rfl, b5⟩
  have HB5 := Lib.hid b5
  clear b5
  rw [run_find1]
  go_wp2_with fail
  refine (finds_any [ra, rb, rc] _ 3 3 ⟨#[102, 111, 111, 100]⟩ 2020 7 1 500 true W _ HB5.out (HL.out.below HB5.out) (fit_lit rfl) (fit_lit rfl) (fit_lit rfl)).mono ?_
  rintro e w6 ⟨rfl, b6⟩
  have HB6 := Lib.hid b6
  clear b6
  rw [run_find2]
  go_wp2_with fail
  refine (finds_any [ra, rb, rc] _ 3 3 ⟨#[102, 111, 111, 100]⟩ 1999 12 31 0 false W _ HB6.out (HL.out.below HB6.out) (fit_lit rfl) (fit_lit rfl) (fit_lit rfl)).mono ?_
  rintro e w7 ⟨rfl, b7⟩
  have HB7 := Lib.hid b7
  clear b7
  rw [run_find3]
  go_wp2_with fail
  refine (finds_any [ra, rb, rc] _ 3 3 ⟨#[114, 101, 110, 116]⟩ 2020 1 1 0 false W _ HB7.out (HL.out.below HB7.out) (fit_lit rfl) (fit_lit rfl) (fit_lit rfl)).mono ?_
  rintro e w8 ⟨rfl, b8⟩
  have HB8 := Lib.hid b8
  clear b8
  rw [run_find4]
  go_wp2_with fail
  refine (row_any ⟨#[102, 111, 111, 100]⟩ 2010 1 1 600 W _ HB8.out).mono ?_
  rintro e w9 ⟨rfl, b9⟩
  have HB9 := Lib.hid b9
  clear b9
  unfold rowV
  dsimp only
  go_wp2_with fail
  refine (vat_put [ra, rb, rc] _ 3 3 rd _ (HL.out.below HB9.out) short_d).mono ?_
  rintro e w10 ⟨v, rfl, o10, b10⟩
  obtain ⟨va, vc, rfl, hv, _⟩ := own_rts o10 run_short
  have HV := Lib.hid hv
  have HB10 := Lib.hid (bchain HB9.out b10)
  clear hv b10 o10
  rw [run_put1]
  rw [run_len] at HV ⊢
  go_wp2_with fail
  refine (row_any ⟨#[102, 111, 111, 100]⟩ 2000 1 1 1 w10 _ (Below.refl _ _)).mono ?_
  rintro e w11 ⟨rfl, b11⟩
  have HB11 := Lib.hid b11
  clear b11
  unfold rowV
  dsimp only
  go_wp2_with fail
  refine (vat_put [ra, rb, rc] _ 3 3 re _ (HL.out.below (bchain HB10.out HB11.out)) short_e).mono ?_
  rintro e w12 ⟨v2, rfl, _, b12⟩
  have HB12 := Lib.hid (bchain HB11.out b12)
  clear b12
  rw [run_put2]
  go_wp2_with fail
  refine (row_any ⟨#[55, 97]⟩ 2000 1 1 1 w10 _ HB12.out).mono ?_
  rintro e w13 ⟨rfl, b13⟩
  have HB13 := Lib.hid b13
  clear b13
  unfold rowV
  dsimp only
  go_wp2_with fail
  refine (vat_put [ra, rb, rc] _ 3 3 rf _ (HL.out.below (bchain HB10.out HB13.out)) short_f).mono ?_
  rintro e w14 ⟨v3, rfl, _, b14⟩
  have HB14 := Lib.hid (bchain HB13.out b14)
  clear b14
  rw [run_put3]
  go_wp2_with fail
  refine (finds_any (Vt.putR [ra, rb, rc] rd) _ 4 vc ⟨#[102, 111, 111, 100]⟩ 2015 1 1 600 true w10 _ HB14.out (HV.out.below HB14.out) (fit_lit rfl) (fit_lit rfl) (fit_lit rfl)).mono ?_
  rintro e w15 ⟨rfl, b15⟩
  have HB15 := Lib.hid b15
  clear b15
  rw [run_find5]
  go_wp2_with fail
  go_ret
  exact ⟨rfl, bchain (bchain HBW.out HB10.out) HB15.out⟩
theorem vatRuns_walk (w : World) :
    Calls Try.prog 3 #[] w fun e w' => e = .returned (.bool true) ∧ Below w.heap.size w w' := vruns_any w w (Below.refl _ _)
end Go.Proofs.Ytgcjhlnolmjdeaa
