/- THE WALK OF PostRuns, from any world; to, few. (By genpruns.py.) -/
import Derived.Test.YtgnepgkmjgpkeaaPoC
import Derived.Test.YtgnepgkmjgpkeaaBaB
set_option maxRecDepth 100000
set_option linter.unusedVariables false
namespace Go.Proofs.Ytgnepgkmjgpkeaa
open Go.RowKit
open Mem

theorem fit_lit {n : Int} (h : (decide (-9223372036854775808 ≤ n) && decide (n ≤ 9223372036854775807)) = true) : Fit n := by
  rw [Bool.and_eq_true, decide_eq_true_eq, decide_eq_true_eq] at h
  exact h
theorem to_any (a : ByteArray) (n : Int) (w0 w : World) (hw : Below w0.heap.size w0 w) :
    Calls Try.prog 10 #[.string a, .int .i64 n] w fun e w' => e = .returned (Ba.val ⟨a, n⟩) ∧ Below w0.heap.size w0 w' := by
  have HW := Lib.hid hw
  clear hw
  unfold Ba.val
  go_enter Try.func10, Try.ntmps10
  go_wp2
  exact bodyPost_ret (v := Ba.val ⟨a, n⟩) (by simp [results, Ba.val, Try.results10, go_sem]) rfl ⟨rfl, below_box HW.out _⟩
theorem few_any (rs : List Ba.T) (ao : Option Addr) (n cap : Nat) (w : World) (hR : Ba.Ls w ao n cap rs) :
    Calls Try.prog 13 #[.slice ao n cap] w fun e w' => (∃ m, e = .returned (.slice ao m cap) ∧ Ba.Ls w ao m cap (rs.take 60) ∧ m ≤ 60) ∧ w' = w := by
  have HR := Lib.hid hR
  have hfit := hR.fits
  have hcap := hR.reach
  clear hR
  by_cases h : 60 < n
  · obtain ⟨hs, hT⟩ := HR.out.to 60 (by omega)
    have HT := Lib.hid hT
    clear hT
    go_enter Try.func13, Try.ntmps13
    go_wp2
    go_ret
    exact ⟨⟨60, rfl, HT.out, Nat.le_refl _⟩, rfl⟩
  · go_enter Try.func13, Try.ntmps13
    go_wp2
    go_ret
    refine ⟨⟨n, rfl, ?_, by omega⟩, rfl⟩
    rw [List.take_of_length_le (by have := HR.out.len; omega)]
    exact HR.out
theorem Ba.own_lit {w : World} {B n : Nat} {v : Value} {xs : List Ba.T} (h : Ba.Own w B v xs) (hs : ∀ r ∈ xs, Ba.Short r) (hn : xs.length = n) : ∃ ao cap, v = .slice ao n cap ∧ Ba.Ls w ao n cap xs ∧ n ≤ cap ∧ cap ≤ 9223372036854775807 := by
  obtain ⟨ao, cap, e, hL, _⟩ := Ba.own_ls h hs
  subst hn
  exact ⟨ao, cap, e, hL, hL.fits, hL.reach⟩
theorem Ba.ls_block {w : World} {g n : Nat} {xs : List Ba.T} (h : Ba.Block w g xs) (hs : ∀ r ∈ xs, Ba.Short r) (hn : xs.length = n) (hm : n ≤ 1000) : Ba.Ls w (some ⟨g, 0, none⟩) n n xs :=
  Ba.Block.ls (zs := []) (by rw [List.append_nil]; exact h) n n hn.symm (Nat.le_refl _) (by omega) hs
def pL : List Ba.T := [⟨⟨#[111, 119, 101, 100]⟩, 119⟩, ⟨⟨#[110, 101, 116, 47, 115, 116, 100]⟩, -100⟩, ⟨⟨#[116, 97, 120, 47, 115, 116, 100]⟩, -19⟩]
def pB0 : List Ba.T := [⟨⟨#[111, 119, 101, 100]⟩, 5⟩]
def pB1 : List Ba.T := [⟨⟨#[110, 101, 116, 47, 115, 116, 100]⟩, -100⟩, ⟨⟨#[111, 119, 101, 100]⟩, 124⟩, ⟨⟨#[116, 97, 120, 47, 115, 116, 100]⟩, -19⟩]
def pZ : List Ba.T := [⟨⟨#[97]⟩, 9223372036854775807⟩, ⟨⟨#[98]⟩, 1⟩, ⟨⟨#[99]⟩, -9223372036854775808⟩]
def pP : List Pt.T := [⟨⟨#[115, 116, 100]⟩, 1900, 100, 19⟩]
theorem pL_short : ∀ r ∈ pL, Ba.Short r := by
  intro r hr
  unfold pL at hr
  simp only [List.mem_cons, List.not_mem_nil, or_false] at hr
  rcases hr with rfl | rfl | rfl
  · exact ⟨by decide, fit_lit rfl⟩
  · exact ⟨by decide, fit_lit rfl⟩
  · exact ⟨by decide, fit_lit rfl⟩
theorem pB0_short : ∀ r ∈ pB0, Ba.Short r := by
  intro r hr
  unfold pB0 at hr
  simp only [List.mem_cons, List.not_mem_nil, or_false] at hr
  subst hr
  · exact ⟨by decide, fit_lit rfl⟩
theorem pB1_short : ∀ r ∈ pB1, Ba.Short r := by
  intro r hr
  unfold pB1 at hr
  simp only [List.mem_cons, List.not_mem_nil, or_false] at hr
  rcases hr with rfl | rfl | rfl
  · exact ⟨by decide, fit_lit rfl⟩
  · exact ⟨by decide, fit_lit rfl⟩
  · exact ⟨by decide, fit_lit rfl⟩
theorem pZ_short : ∀ r ∈ pZ, Ba.Short r := by
  intro r hr
  unfold pZ at hr
  simp only [List.mem_cons, List.not_mem_nil, or_false] at hr
  rcases hr with rfl | rfl | rfl
  · exact ⟨by decide, fit_lit rfl⟩
  · exact ⟨by decide, fit_lit rfl⟩
  · exact ⟨by decide, fit_lit rfl⟩
theorem pP_short : ∀ r ∈ pP, Pt.Short r := by
  intro r hr
  unfold pP at hr
  simp only [List.mem_cons, List.not_mem_nil, or_false] at hr
  subst hr
  exact ⟨by decide, fit_lit rfl, fit_lit rfl, fit_lit rfl⟩
theorem pr_1 : Po.entrE pP = 0 := by decide +kernel
theorem pr_2 : Po.entrR 119 pP = pL := (Ba.sameB_iff _ _).1 (by decide +kernel)
theorem pr_3 : Po.entE pB0 pL = 0 := by decide +kernel
theorem pr_4 : Po.entL pB0 pL = pB1 := (Ba.sameB_iff _ _).1 (by decide +kernel)
theorem pr_5 : Po.balB pL = true := by decide +kernel
theorem pr_6 : Po.balB pZ = true := by decide +kernel
theorem pr_7 : Po.balB pB1 = false := by decide +kernel
set_option maxHeartbeats 4000000 in
theorem pruns (w0 w : World) (hw : Below w0.heap.size w0 w) :
    Calls Try.prog 3 #[] w fun e w' => e = .returned (.bool true) ∧ Below w0.heap.size w0 w' := by
  have HB0 := Lib.hid hw
  clear hw
  obtain ⟨U, hU⟩ : ∃ U, w.alloc (.cells #[.string ⟨#[115, 116, 100]⟩, .int .i64 1900, .int .i64 100, .int .i64 19] 27) = U := ⟨_, rfl⟩
  have HPl : Hid (Pt.Ls U (some ⟨w.heap.size, 0, none⟩) 1 1 pP) := Lib.hid (Pt.Block.ls (zs := []) (by rw [← hU]; exact heap_alloc_new w _) 1 1 rfl (Nat.le_refl _) (by omega) pP_short)
  have HBU : Hid (Below w0.heap.size w0 U) := Lib.hid (hU ▸ below_box HB0.out _)
  have HUs := Lib.hid hU
  clear hU
  go_enter Try.func3, Try.ntmps3
  go_wp2_with fail
  rw [HUs.out]
  refine (post_entries 100 19 119 pP _ 1 1 U HPl.out (fit_lit rfl) (by omega) (by intro x hx; unfold pP at hx; obtain rfl := List.mem_singleton.1 hx; show (3 : Nat) ≤ _; omega)).mono ?_
  rintro e w1 ⟨v, rfl, o, b⟩
  rw [pr_1]
  rw [pr_2] at o
  obtain ⟨lo, lc, rfl, hL, hlf, hlc⟩ := Ba.own_lit (n := 3) o pL_short rfl
  have HL := Lib.hid hL
  have HB := Lib.hid (bchain HBU.out b)
  clear o b hL HUs
  go_wp2_with fail
  refine (to_any ⟨#[111, 119, 101, 100]⟩ 5 w1 _ (Below.refl _ _)).mono ?_
  rintro e w2 ⟨rfl, b⟩
  replace HB := Lib.hid (bchain HB.out b)
  replace HL := Lib.hid (HL.out.below b)
  clear b
  unfold Ba.val
  dsimp only
  obtain ⟨w3, hV⟩ : ∃ V, w2.alloc (.cells #[.string ⟨#[111, 119, 101, 100]⟩, .int .i64 5] 33) = V := ⟨_, rfl⟩
  have hbV : Below w2.heap.size w2 w3 := hV ▸ (Below.refl _ _).alloc (Nat.le_refl _) _
  have HS : Hid (Ba.Ls w3 (some ⟨w2.heap.size, 0, none⟩) 1 1 pB0) := Lib.hid (Ba.ls_block (by rw [← hV]; exact heap_alloc_new w2 _) pB0_short rfl (by omega))
  replace HB := Lib.hid (bchain HB.out hbV)
  replace HL := Lib.hid (HL.out.below hbV)
  clear hbV
  go_wp2_with fail
  clear hV
  refine (post_enter pB0 pL _ lo 1 1 3 lc w3 HS.out HL.out (by omega) (by omega)).mono ?_
  rintro e w4 ⟨v, rfl, o, b⟩
  rw [pr_3]
  rw [pr_4] at o
  obtain ⟨bo, bc, rfl, hL, hbf, hbc⟩ := Ba.own_lit (n := 3) o pB1_short rfl
  have HK := Lib.hid hL
  replace HB := Lib.hid (bchain HB.out b)
  replace HL := Lib.hid (HL.out.below b)
  clear o b hL HS
  go_wp2_with fail
  refine (to_any ⟨#[111, 119, 101, 100]⟩ 119 w4 _ (Below.refl _ _)).mono ?_
  rintro e w5 ⟨rfl, b⟩
  replace HB := Lib.hid (bchain HB.out b)
  replace HL := Lib.hid (HL.out.below b)
  replace HK := Lib.hid (HK.out.below b)
  clear b
  unfold Ba.val
  dsimp only
  go_wp2_with fail
  refine (to_any ⟨#[110, 101, 116, 47, 115, 116, 100]⟩ (-100) w5 _ (Below.refl _ _)).mono ?_
  rintro e w6 ⟨rfl, b⟩
  replace HB := Lib.hid (bchain HB.out b)
  replace HL := Lib.hid (HL.out.below b)
  replace HK := Lib.hid (HK.out.below b)
  clear b
  unfold Ba.val
  dsimp only
  go_wp2_with fail
  refine (to_any ⟨#[116, 97, 120, 47, 115, 116, 100]⟩ (-19) w6 _ (Below.refl _ _)).mono ?_
  rintro e w7 ⟨rfl, b⟩
  replace HB := Lib.hid (bchain HB.out b)
  replace HL := Lib.hid (HL.out.below b)
  replace HK := Lib.hid (HK.out.below b)
  clear b
  unfold Ba.val
  dsimp only
  obtain ⟨w8, hV⟩ : ∃ V, w7.alloc (.cells #[.string ⟨#[111, 119, 101, 100]⟩, .int .i64 119, .string ⟨#[110, 101, 116, 47, 115, 116, 100]⟩, .int .i64 (-100), .string ⟨#[116, 97, 120, 47, 115, 116, 100]⟩, .int .i64 (-19)] 33) = V := ⟨_, rfl⟩
  have hbV : Below w7.heap.size w7 w8 := hV ▸ (Below.refl _ _).alloc (Nat.le_refl _) _
  have HS : Hid (Ba.Ls w8 (some ⟨w7.heap.size, 0, none⟩) 3 3 pL) := Lib.hid (Ba.ls_block (by rw [← hV]; exact heap_alloc_new w7 _) pL_short rfl (by omega))
  replace HB := Lib.hid (bchain HB.out hbV)
  replace HL := Lib.hid (HL.out.below hbV)
  replace HK := Lib.hid (HK.out.below hbV)
  clear hbV
  go_wp2_with fail
  clear hV
  refine (Ba.same_rows pL lo _ 3 lc 3 w8 _ (Below.refl _ _) HL.out HS.out).mono ?_
  rintro e w9 ⟨rfl, b⟩
  replace HB := Lib.hid (bchain HB.out b)
  replace HL := Lib.hid (HL.out.below b)
  replace HK := Lib.hid (HK.out.below b)
  clear b HS
  go_wp2_with fail
  refine (to_any ⟨#[110, 101, 116, 47, 115, 116, 100]⟩ (-100) w9 _ (Below.refl _ _)).mono ?_
  rintro e w10 ⟨rfl, b⟩
  replace HB := Lib.hid (bchain HB.out b)
  replace HL := Lib.hid (HL.out.below b)
  replace HK := Lib.hid (HK.out.below b)
  clear b
  unfold Ba.val
  dsimp only
  go_wp2_with fail
  refine (to_any ⟨#[111, 119, 101, 100]⟩ 124 w10 _ (Below.refl _ _)).mono ?_
  rintro e w11 ⟨rfl, b⟩
  replace HB := Lib.hid (bchain HB.out b)
  replace HL := Lib.hid (HL.out.below b)
  replace HK := Lib.hid (HK.out.below b)
  clear b
  unfold Ba.val
  dsimp only
  go_wp2_with fail
  refine (to_any ⟨#[116, 97, 120, 47, 115, 116, 100]⟩ (-19) w11 _ (Below.refl _ _)).mono ?_
  rintro e w12 ⟨rfl, b⟩
  replace HB := Lib.hid (bchain HB.out b)
  replace HL := Lib.hid (HL.out.below b)
  replace HK := Lib.hid (HK.out.below b)
  clear b
  unfold Ba.val
  dsimp only
  obtain ⟨w13, hV⟩ : ∃ V, w12.alloc (.cells #[.string ⟨#[110, 101, 116, 47, 115, 116, 100]⟩, .int .i64 (-100), .string ⟨#[111, 119, 101, 100]⟩, .int .i64 124, .string ⟨#[116, 97, 120, 47, 115, 116, 100]⟩, .int .i64 (-19)] 33) = V := ⟨_, rfl⟩
  have hbV : Below w12.heap.size w12 w13 := hV ▸ (Below.refl _ _).alloc (Nat.le_refl _) _
  have HS : Hid (Ba.Ls w13 (some ⟨w12.heap.size, 0, none⟩) 3 3 pB1) := Lib.hid (Ba.ls_block (by rw [← hV]; exact heap_alloc_new w12 _) pB1_short rfl (by omega))
  replace HB := Lib.hid (bchain HB.out hbV)
  replace HL := Lib.hid (HL.out.below hbV)
  replace HK := Lib.hid (HK.out.below hbV)
  clear hbV
  go_wp2_with fail
  clear hV
  refine (Ba.same_rows pB1 bo _ 3 bc 3 w13 _ (Below.refl _ _) HK.out HS.out).mono ?_
  rintro e w14 ⟨rfl, b⟩
  replace HB := Lib.hid (bchain HB.out b)
  replace HL := Lib.hid (HL.out.below b)
  replace HK := Lib.hid (HK.out.below b)
  clear b HS
  go_wp2_with fail
  refine (post_balanced pL lo 3 lc w14 _ (Below.refl _ _) HL.out (by omega)).mono ?_
  rintro e w15 ⟨rfl, b⟩
  rw [pr_5]
  replace HB := Lib.hid (bchain HB.out b)
  replace HL := Lib.hid (HL.out.below b)
  replace HK := Lib.hid (HK.out.below b)
  clear b
  go_wp2_with fail
  refine (to_any ⟨#[97]⟩ 9223372036854775807 w15 _ (Below.refl _ _)).mono ?_
  rintro e w16 ⟨rfl, b⟩
  replace HB := Lib.hid (bchain HB.out b)
  replace HL := Lib.hid (HL.out.below b)
  replace HK := Lib.hid (HK.out.below b)
  clear b
  unfold Ba.val
  dsimp only
  go_wp2_with fail
  refine (to_any ⟨#[98]⟩ 1 w16 _ (Below.refl _ _)).mono ?_
  rintro e w17 ⟨rfl, b⟩
  replace HB := Lib.hid (bchain HB.out b)
  replace HL := Lib.hid (HL.out.below b)
  replace HK := Lib.hid (HK.out.below b)
  clear b
  unfold Ba.val
  dsimp only
  go_wp2_with fail
  refine (to_any ⟨#[99]⟩ (-9223372036854775808) w17 _ (Below.refl _ _)).mono ?_
  rintro e w18 ⟨rfl, b⟩
  replace HB := Lib.hid (bchain HB.out b)
  replace HL := Lib.hid (HL.out.below b)
  replace HK := Lib.hid (HK.out.below b)
  clear b
  unfold Ba.val
  dsimp only
  obtain ⟨w19, hV⟩ : ∃ V, w18.alloc (.cells #[.string ⟨#[97]⟩, .int .i64 9223372036854775807, .string ⟨#[98]⟩, .int .i64 1, .string ⟨#[99]⟩, .int .i64 (-9223372036854775808)] 33) = V := ⟨_, rfl⟩
  have hbV : Below w18.heap.size w18 w19 := hV ▸ (Below.refl _ _).alloc (Nat.le_refl _) _
  have HS : Hid (Ba.Ls w19 (some ⟨w18.heap.size, 0, none⟩) 3 3 pZ) := Lib.hid (Ba.ls_block (by rw [← hV]; exact heap_alloc_new w18 _) pZ_short rfl (by omega))
  replace HB := Lib.hid (bchain HB.out hbV)
  replace HL := Lib.hid (HL.out.below hbV)
  replace HK := Lib.hid (HK.out.below hbV)
  clear hbV
  go_wp2_with fail
  clear hV
  refine (post_balanced pZ _ 3 3 w19 _ (Below.refl _ _) HS.out (by omega)).mono ?_
  rintro e w20 ⟨rfl, b⟩
  rw [pr_6]
  replace HB := Lib.hid (bchain HB.out b)
  replace HL := Lib.hid (HL.out.below b)
  replace HK := Lib.hid (HK.out.below b)
  clear b
  clear HS
  go_wp2_with fail
  refine (post_balanced pB1 bo 3 bc w20 _ (Below.refl _ _) HK.out (by omega)).mono ?_
  rintro e w21 ⟨rfl, b⟩
  rw [pr_7]
  replace HB := Lib.hid (bchain HB.out b)
  replace HL := Lib.hid (HL.out.below b)
  replace HK := Lib.hid (HK.out.below b)
  clear b
  go_wp2_with fail
  go_ret
  exact ⟨rfl, HB.out⟩
theorem postRuns_walk (w : World) : Calls Try.prog 3 #[] w fun e w' => e = .returned (.bool true) ∧ Below w.heap.size w w' := pruns w w (Below.refl _ _)
end Go.Proofs.Ytgnepgkmjgpkeaa
