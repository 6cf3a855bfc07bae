/- THE WALK OF SeriesRuns, from any world; few. (By genseruns.py.) -/
import Derived.Test.YtemifminohdhbaaSsS
import Derived.Test.YtemifminohdhbaaSrB
namespace Go.Proofs.Ytemifminohdhbaa
open Go.RowKit
open Mem

theorem Sr.own_lit {w : World} {B n : Nat} {v : Value} {xs : List Sr.T} (h : Sr.Own w B v xs) (hs : ∀ r ∈ xs, Sr.Short r) (hn : xs.length = n) : ∃ ao cap, v = .slice ao n cap ∧ Sr.Ls w ao n cap xs ∧ n ≤ cap ∧ cap ≤ 9223372036854775807 := by
  obtain ⟨ao, cap, e, hL, _⟩ := Sr.own_ls h hs
  subst hn
  exact ⟨ao, cap, e, hL, hL.fits, hL.reach⟩
theorem fit_lit {n : Int} (h : (decide (-9223372036854775808 ≤ n) && decide (n ≤ 9223372036854775807)) = true) : Fit n := by
  rw [Bool.and_eq_true, decide_eq_true_eq, decide_eq_true_eq] at h
  exact h
theorem few_any (rs : List Sr.T) (ao : Option Addr) (n cap : Nat) (w : World) (hR : Sr.Ls w ao n cap rs) :
    Calls Try.prog 11 #[.slice ao n cap] w fun e w' => (∃ m, e = .returned (.slice ao m cap) ∧ Sr.Ls w ao m cap (rs.take 20) ∧ m ≤ 20) ∧ w' = w := by
  have HR := Lib.hid hR
  have hfit := hR.fits
  have hcap := hR.reach
  clear hR
  by_cases h : 20 < n
  · obtain ⟨hs, hT⟩ := HR.out.to 20 (by omega)
    have HT := Lib.hid hT
    clear hT
    go_enter Try.func11, Try.ntmps11
    go_wp2
    go_ret
    exact ⟨⟨20, rfl, HT.out, Nat.le_refl _⟩, rfl⟩
  · go_enter Try.func11, Try.ntmps11
    go_wp2
    go_ret
    refine ⟨⟨n, rfl, ?_, by omega⟩, rfl⟩
    rw [List.take_of_length_le (by have := HR.out.len; omega)]
    exact HR.out
def rl0 : List Sr.T := []
def rl1 : List Sr.T := [⟨⟨#[98]⟩, 1, 2, false⟩]
def rl2 : List Sr.T := [⟨⟨#[97]⟩, 1, 9, false⟩, ⟨⟨#[98]⟩, 1, 2, false⟩]
def rl3 : List Sr.T := [⟨⟨#[97]⟩, 1, 9, false⟩, ⟨⟨#[98]⟩, 2, 2, false⟩]
def rl4 : List Sr.T := [⟨⟨#[97]⟩, 1, 9, false⟩, ⟨⟨#[98]⟩, 3, 2, false⟩]
def rl5 : List Sr.T := [⟨⟨#[97]⟩, 1, 9, true⟩, ⟨⟨#[98]⟩, 3, 2, false⟩]
theorem short_lit {c : ByteArray} {a b : Int} {f : Bool} (hc : c.size ≤ 140737488355328) (ha : (decide (-9223372036854775808 ≤ a) && decide (a ≤ 9223372036854775807)) = true) (hb : (decide (-9223372036854775808 ≤ b) && decide (b ≤ 9223372036854775807)) = true) : Sr.Short ⟨c, a, b, f⟩ := ⟨hc, fit_lit ha, fit_lit hb⟩
theorem rl1_len : rl1.length = 1 := rfl
theorem rl1_short : ∀ r ∈ rl1, Sr.Short r := by
  intro r hr
  unfold rl1 at hr
  simp only [List.mem_cons, List.not_mem_nil, or_false] at hr
  rcases hr with rfl
  · exact short_lit (by decide) rfl rfl
theorem rl2_len : rl2.length = 2 := rfl
theorem rl2_short : ∀ r ∈ rl2, Sr.Short r := by
  intro r hr
  unfold rl2 at hr
  simp only [List.mem_cons, List.not_mem_nil, or_false] at hr
  rcases hr with rfl | rfl
  · exact short_lit (by decide) rfl rfl
  · exact short_lit (by decide) rfl rfl
theorem rl3_len : rl3.length = 2 := rfl
theorem rl3_short : ∀ r ∈ rl3, Sr.Short r := by
  intro r hr
  unfold rl3 at hr
  simp only [List.mem_cons, List.not_mem_nil, or_false] at hr
  rcases hr with rfl | rfl
  · exact short_lit (by decide) rfl rfl
  · exact short_lit (by decide) rfl rfl
theorem rl4_len : rl4.length = 2 := rfl
theorem rl4_short : ∀ r ∈ rl4, Sr.Short r := by
  intro r hr
  unfold rl4 at hr
  simp only [List.mem_cons, List.not_mem_nil, or_false] at hr
  rcases hr with rfl | rfl
  · exact short_lit (by decide) rfl rfl
  · exact short_lit (by decide) rfl rfl
theorem rl5_len : rl5.length = 2 := rfl
theorem rl5_short : ∀ r ∈ rl5, Sr.Short r := by
  intro r hr
  unfold rl5 at hr
  simp only [List.mem_cons, List.not_mem_nil, or_false] at hr
  rcases hr with rfl | rfl
  · exact short_lit (by decide) rfl rfl
  · exact short_lit (by decide) rfl rfl
theorem re0 : Se.openE rl0 ⟨#[98]⟩ 2 = 0 := by decide +kernel
theorem rr0 : Se.openR rl0 ⟨#[98]⟩ 2 = rl1 := (Sr.sameB_iff _ _).1 (by decide +kernel)
theorem re1 : Se.openE rl1 ⟨#[97]⟩ 9 = 0 := by decide +kernel
theorem rr1 : Se.openR rl1 ⟨#[97]⟩ 9 = rl2 := (Sr.sameB_iff _ _).1 (by decide +kernel)
theorem re2 : Se.takeE rl2 ⟨#[98]⟩ = 0 := by decide +kernel
theorem rn2 : Se.takeN rl2 ⟨#[98]⟩ = 1 := by decide +kernel
theorem rr2 : Se.takeR rl2 ⟨#[98]⟩ = rl3 := (Sr.sameB_iff _ _).1 (by decide +kernel)
theorem re3 : Se.takeE rl3 ⟨#[98]⟩ = 0 := by decide +kernel
theorem rn3 : Se.takeN rl3 ⟨#[98]⟩ = 2 := by decide +kernel
theorem rr3 : Se.takeR rl3 ⟨#[98]⟩ = rl4 := (Sr.sameB_iff _ _).1 (by decide +kernel)
theorem re4 : Se.takeE rl4 ⟨#[98]⟩ = 14 := by decide +kernel
theorem rn4 : Se.takeN rl4 ⟨#[98]⟩ = 0 := by decide +kernel
theorem rr4 : Se.takeR rl4 ⟨#[98]⟩ = rl0 := (Sr.sameB_iff _ _).1 (by decide +kernel)
theorem re5 : Se.unE rl4 ⟨#[97]⟩ = 0 := by decide +kernel
theorem rr5 : Se.shutR rl4 ⟨#[97]⟩ = rl5 := (Sr.sameB_iff _ _).1 (by decide +kernel)
theorem re6 : Se.takeE rl5 ⟨#[97]⟩ = 13 := by decide +kernel
theorem rn6 : Se.takeN rl5 ⟨#[97]⟩ = 0 := by decide +kernel
theorem rr6 : Se.takeR rl5 ⟨#[97]⟩ = rl0 := (Sr.sameB_iff _ _).1 (by decide +kernel)
theorem re7 : Se.unE rl5 ⟨#[97]⟩ = 13 := by decide +kernel
theorem rr7 : Se.shutR rl5 ⟨#[97]⟩ = rl0 := (Sr.sameB_iff _ _).1 (by decide +kernel)
theorem re8 : Se.openE rl5 ⟨#[97]⟩ 1 = 12 := by decide +kernel
theorem rr8 : Se.openR rl5 ⟨#[97]⟩ 1 = rl0 := (Sr.sameB_iff _ _).1 (by decide +kernel)
theorem re9 : Se.takeE rl5 ⟨#[99]⟩ = 11 := by decide +kernel
theorem rn9 : Se.takeN rl5 ⟨#[99]⟩ = 0 := by decide +kernel
theorem rr9 : Se.takeR rl5 ⟨#[99]⟩ = rl0 := (Sr.sameB_iff _ _).1 (by decide +kernel)
set_option maxHeartbeats 4000000 in
theorem sruns (w0 w : World) (hw : Below w0.heap.size w0 w) :
    Calls Try.prog 3 #[] w fun e w' => e = .returned (.bool true) ∧ Below w0.heap.size w0 w' := by
  have HW := Lib.hid hw
  clear hw
  go_enter Try.func3, Try.ntmps3
  go_wp2_with fail
  refine (ser_open rl0 ⟨#[98]⟩ 2 none 0 0 _ (Sr.ls_nil _) (by decide)).mono ?_
  rintro e w0 ⟨v, rfl, o, b⟩
  rw [re0]
  rw [rr0] at o
  have HB0 := Lib.hid (bchain HW.out b)
  obtain ⟨a1, c1, rfl, hL, hf1, hc1⟩ := Sr.own_lit o rl1_short rl1_len
  have HL1 := Lib.hid hL
  clear hL o b
  go_wp2_with fail
  refine (ser_open rl1 ⟨#[97]⟩ 9 a1 1 c1 _ HL1.out (by decide)).mono ?_
  rintro e w1 ⟨v, rfl, o, b⟩
  rw [re1]
  rw [rr1] at o
  have HB1 := Lib.hid (bchain HB0.out b)
  obtain ⟨a2, c2, rfl, hL, hf2, hc2⟩ := Sr.own_lit o rl2_short rl2_len
  have HL2 := Lib.hid hL
  clear hL o b
  go_wp2_with fail
  refine (ser_take rl2 ⟨#[98]⟩ a2 2 c2 _ HL2.out).mono ?_
  rintro e w2 ⟨v, rfl, o, b⟩
  rw [re2, rn2]
  rw [rr2] at o
  have HB2 := Lib.hid (bchain HB1.out b)
  obtain ⟨a3, c3, rfl, hL, hf3, hc3⟩ := Sr.own_lit o rl3_short rl3_len
  have HL3 := Lib.hid hL
  clear hL o b
  go_wp2_with fail
  refine (ser_take rl3 ⟨#[98]⟩ a3 2 c3 _ HL3.out).mono ?_
  rintro e w3 ⟨v, rfl, o, b⟩
  rw [re3, rn3]
  rw [rr3] at o
  have HB3 := Lib.hid (bchain HB2.out b)
  obtain ⟨a4, c4, rfl, hL, hf4, hc4⟩ := Sr.own_lit o rl4_short rl4_len
  have HL4 := Lib.hid hL
  clear hL o b
  go_wp2_with fail
  refine (ser_take rl4 ⟨#[98]⟩ a4 2 c4 _ HL4.out).mono ?_
  rintro e w4 ⟨v, rfl, o, b⟩
  rw [re4, rn4]
  rw [rr4] at o
  have HB4 := Lib.hid (bchain HB3.out b)
  replace HL4 := Lib.hid (HL4.out.below b)
  obtain ⟨ax, cx, rfl, hL, _, _⟩ := Sr.own_lit o (by intro r hr; cases hr) rfl
  clear hL o b
  go_wp2_with fail
  refine (ser_shut rl4 ⟨#[97]⟩ a4 2 c4 _ HL4.out).mono ?_
  rintro e w5 ⟨v, rfl, o, b⟩
  rw [re5]
  rw [rr5] at o
  have HB5 := Lib.hid (bchain HB4.out b)
  obtain ⟨a5, c5, rfl, hL, hf5, hc5⟩ := Sr.own_lit o rl5_short rl5_len
  have HL5 := Lib.hid hL
  clear hL o b
  go_wp2_with fail
  refine (ser_take rl5 ⟨#[97]⟩ a5 2 c5 _ HL5.out).mono ?_
  rintro e w6 ⟨v, rfl, o, b⟩
  rw [re6, rn6]
  rw [rr6] at o
  have HB6 := Lib.hid (bchain HB5.out b)
  replace HL5 := Lib.hid (HL5.out.below b)
  obtain ⟨ax, cx, rfl, hL, _, _⟩ := Sr.own_lit o (by intro r hr; cases hr) rfl
  clear hL o b
  go_wp2_with fail
  refine (ser_shut rl5 ⟨#[97]⟩ a5 2 c5 _ HL5.out).mono ?_
  rintro e w7 ⟨v, rfl, o, b⟩
  rw [re7]
  rw [rr7] at o
  have HB7 := Lib.hid (bchain HB6.out b)
  replace HL5 := Lib.hid (HL5.out.below b)
  obtain ⟨ax, cx, rfl, hL, _, _⟩ := Sr.own_lit o (by intro r hr; cases hr) rfl
  clear hL o b
  go_wp2_with fail
  refine (ser_open rl5 ⟨#[97]⟩ 1 a5 2 c5 _ HL5.out (by decide)).mono ?_
  rintro e w8 ⟨v, rfl, o, b⟩
  rw [re8]
  rw [rr8] at o
  have HB8 := Lib.hid (bchain HB7.out b)
  replace HL5 := Lib.hid (HL5.out.below b)
  obtain ⟨ax, cx, rfl, hL, _, _⟩ := Sr.own_lit o (by intro r hr; cases hr) rfl
  clear hL o b
  go_wp2_with fail
  refine (ser_take rl5 ⟨#[99]⟩ a5 2 c5 _ HL5.out).mono ?_
  rintro e w9 ⟨v, rfl, o, b⟩
  rw [re9, rn9]
  rw [rr9] at o
  have HB9 := Lib.hid (bchain HB8.out b)
  obtain ⟨ax, cx, rfl, hL, _, _⟩ := Sr.own_lit o (by intro r hr; cases hr) rfl
  clear hL o b
  go_wp2_with fail
  go_ret
  exact ⟨rfl, HB9.out⟩
theorem seriesRuns_walk (w : World) : Calls Try.prog 3 #[] w fun e w' => e = .returned (.bool true) ∧ Below w.heap.size w w' := sruns w w (Below.refl _ _)
end Go.Proofs.Ytemifminohdhbaa
