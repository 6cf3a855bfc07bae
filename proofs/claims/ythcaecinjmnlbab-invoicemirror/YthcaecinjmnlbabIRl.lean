/- THE ROWS AND LINES OF CHAPTER 11's RUNS. -/
import Derived.Test.YthcaecinjmnlbabInT
import Derived.Test.YthcaecinjmnlbabInBk
import Derived.Test.YthcaecinjmnlbabHf
import Derived.Test.YthcaecinjmnlbabHc
set_option linter.unusedVariables false
namespace Go.Proofs.Ythcaecinjmnlbab
open Go.RowKit
open Vt (Rt)

theorem rts_three (u : World) (a b c : Rt) (ha : Short a) (hb : Short b) (hc : Short c) : Rts (u.alloc (.cells #[.string a.cat, .int .i64 a.y, .int .i64 a.m, .int .i64 a.d, .int .i64 a.bp, .string b.cat, .int .i64 b.y, .int .i64 b.m, .int .i64 b.d, .int .i64 b.bp, .string c.cat, .int .i64 c.y, .int .i64 c.m, .int .i64 c.d, .int .i64 c.bp] 45)) (some ⟨u.heap.size, 0, none⟩) 3 3 [a, b, c] := by
  have hs : ∀ r ∈ [a, b, c], Short r := by
    intro r hr
    simp only [List.mem_cons, List.not_mem_nil, or_false] at hr
    rcases hr with rfl | rfl | rfl
    · exact ha
    · exact hb
    · exact hc
  refine ⟨rfl, Nat.le_refl _, by omega, (fun h => by cases h), .inr ⟨u.heap.size, 0, rfl, fun k hk => ?_⟩, hs⟩
  have h3 : k = 0 ∨ k = 1 ∨ k = 2 := by
    simp only [List.length_cons, List.length_nil] at hk
    omega
  rcases h3 with rfl | rfl | rfl
  all_goals refine ⟨?_, ?_, ?_, ?_, ?_⟩
  all_goals simp [go_sem]
theorem rts_one (u : World) (a : Rt) (ha : Short a) : Rts (u.alloc (.cells #[.string a.cat, .int .i64 a.y, .int .i64 a.m, .int .i64 a.d, .int .i64 a.bp] 45)) (some ⟨u.heap.size, 0, none⟩) 1 1 [a] := by
  refine ⟨rfl, Nat.le_refl _, by omega, (fun h => by cases h), .inr ⟨u.heap.size, 0, rfl, fun k hk => ?_⟩, fun r hr => (List.mem_singleton.1 hr) ▸ ha⟩
  obtain rfl : k = 0 := by
    simp only [List.length_cons, List.length_nil] at hk
    omega
  refine ⟨?_, ?_, ?_, ?_, ?_⟩
  all_goals simp [go_sem]
theorem fit_lit {n : Int} (h : (decide (-9223372036854775808 ≤ n) && decide (n ≤ 9223372036854775807)) = true) : Fit n := by
  rw [Bool.and_eq_true, decide_eq_true_eq, decide_eq_true_eq] at h
  exact h
theorem short_rt {c : ByteArray} {y m d bp : Int} (hc : c.size ≤ 140737488355328) (hy : (decide (-9223372036854775808 ≤ y) && decide (y ≤ 9223372036854775807)) = true) (hm : (decide (-9223372036854775808 ≤ m) && decide (m ≤ 9223372036854775807)) = true) (hd : (decide (-9223372036854775808 ≤ d) && decide (d ≤ 9223372036854775807)) = true) (hb : (decide (-9223372036854775808 ≤ bp) && decide (bp ≤ 9223372036854775807)) = true) : Short ⟨c, y, m, d, bp⟩ :=
  ⟨hc, fit_lit hy, fit_lit hm, fit_lit hd, fit_lit hb⟩
theorem short_ln {a c : ByteArray} {n p : Int} (ha : a.size ≤ 140737488355328) (hc : c.size ≤ 140737488355328) (hn : (decide (-9223372036854775808 ≤ n) && decide (n ≤ 9223372036854775807)) = true) (hp : (decide (-9223372036854775808 ≤ p) && decide (p ≤ 9223372036854775807)) = true) : Ln.Short ⟨a, c, n, p⟩ := ⟨ha, hc, fit_lit hn, fit_lit hp⟩
theorem short_pt {c : ByteArray} {b n t : Int} (hc : c.size ≤ 140737488355328) (hb : (decide (-9223372036854775808 ≤ b) && decide (b ≤ 9223372036854775807)) = true) (hn : (decide (-9223372036854775808 ≤ n) && decide (n ≤ 9223372036854775807)) = true) (ht : (decide (-9223372036854775808 ≤ t) && decide (t ≤ 9223372036854775807)) = true) : Pt.Short ⟨c, b, n, t⟩ := ⟨hc, fit_lit hb, fit_lit hn, fit_lit ht⟩
theorem lns_two (u : World) (a b : Ln.T) (ha : Ln.Short a) (hb : Ln.Short b) : Ln.Ls (u.alloc (.cells #[.string a.text, .string a.category, .int .i64 a.count, .int .i64 a.price, .string b.text, .string b.category, .int .i64 b.count, .int .i64 b.price] 30)) (some ⟨u.heap.size, 0, none⟩) 2 2 [a, b] := by
  have hs : ∀ r ∈ [a, b], Ln.Short r := by
    intro r hr
    simp only [List.mem_cons, List.not_mem_nil, or_false] at hr
    rcases hr with rfl | rfl
    · exact ha
    · exact hb
  refine ⟨rfl, Nat.le_refl _, by omega, (fun h => by cases h), .inr ⟨u.heap.size, 0, rfl, fun k hk => ?_⟩, hs⟩
  have h3 : k = 0 ∨ k = 1 := by
    simp only [List.length_cons, List.length_nil] at hk
    omega
  rcases h3 with rfl | rfl
  all_goals refine ⟨?_, ?_, ?_, ?_⟩
  all_goals simp [go_sem]
theorem lns_one (u : World) (a : Ln.T) (ha : Ln.Short a) : Ln.Ls (u.alloc (.cells #[.string a.text, .string a.category, .int .i64 a.count, .int .i64 a.price] 30)) (some ⟨u.heap.size, 0, none⟩) 1 1 [a] := by
  refine ⟨rfl, Nat.le_refl _, by omega, (fun h => by cases h), .inr ⟨u.heap.size, 0, rfl, fun k hk => ?_⟩, fun r hr => (List.mem_singleton.1 hr) ▸ ha⟩
  obtain rfl : k = 0 := by
    simp only [List.length_cons, List.length_nil] at hk
    omega
  refine ⟨?_, ?_, ?_, ?_⟩
  all_goals simp [go_sem]
theorem pts_two (u : World) (a b : Pt.T) (ha : Pt.Short a) (hb : Pt.Short b) : Pt.Ls (u.alloc (.cells #[.string a.cat, .int .i64 a.bp, .int .i64 a.net, .int .i64 a.tax, .string b.cat, .int .i64 b.bp, .int .i64 b.net, .int .i64 b.tax] 55)) (some ⟨u.heap.size, 0, none⟩) 2 2 [a, b] := by
  have hs : ∀ r ∈ [a, b], Pt.Short r := by
    intro r hr
    simp only [List.mem_cons, List.not_mem_nil, or_false] at hr
    rcases hr with rfl | rfl
    · exact ha
    · exact hb
  refine ⟨rfl, Nat.le_refl _, by omega, (fun h => by cases h), .inr ⟨u.heap.size, 0, rfl, fun k hk => ?_⟩, hs⟩
  have h3 : k = 0 ∨ k = 1 := by
    simp only [List.length_cons, List.length_nil] at hk
    omega
  rcases h3 with rfl | rfl
  all_goals refine ⟨?_, ?_, ?_, ?_⟩
  all_goals simp [go_sem]
/-! ### the runs' own -/
def ra : Rt := ⟨⟨#[102, 111, 111, 100]⟩, 2000, 1, 1, 700⟩
def rb : Rt := ⟨⟨#[102, 111, 111, 100]⟩, 2020, 7, 1, 500⟩
def rc : Rt := ⟨⟨#[115, 116, 100]⟩, 2000, 1, 1, 1900⟩
theorem short_a : Short ra := short_rt (by decide) rfl rfl rfl rfl
theorem short_b : Short rb := short_rt (by decide) rfl rfl rfl rfl
theorem short_c : Short rc := short_rt (by decide) rfl rfl rfl rfl
def la : Ln.T := ⟨⟨#[]⟩, ⟨#[102, 111, 111, 100]⟩, 3, 100⟩
def lb : Ln.T := ⟨⟨#[]⟩, ⟨#[115, 116, 100]⟩, 1, 50⟩
def lc : Ln.T := ⟨⟨#[]⟩, ⟨#[114, 101, 110, 116]⟩, 1, 1⟩
def ld : Ln.T := ⟨⟨#[]⟩, ⟨#[102, 111, 111, 100]⟩, 0, 1⟩
def le : Ln.T := ⟨⟨#[]⟩, ⟨#[102, 111, 111, 100]⟩, 2, 4611686018427387904⟩
theorem short_la : Ln.Short la := short_ln (by decide) (by decide) rfl rfl
theorem short_lb : Ln.Short lb := short_ln (by decide) (by decide) rfl rfl
theorem short_lc : Ln.Short lc := short_ln (by decide) (by decide) rfl rfl
theorem short_ld : Ln.Short ld := short_ln (by decide) (by decide) rfl rfl
theorem short_le : Ln.Short le := short_ln (by decide) (by decide) rfl rfl
def pa : Pt.T := ⟨⟨#[102, 111, 111, 100]⟩, 500, 300, 15⟩
def pb : Pt.T := ⟨⟨#[115, 116, 100]⟩, 1900, 50, 10⟩
theorem short_pa : Pt.Short pa := short_pt (by decide) rfl rfl rfl
theorem short_pb : Pt.Short pb := short_pt (by decide) rfl rfl rfl
theorem run_1 : Iv.totE [ra, rb, rc] 2021 1 1 [la, lb] = 0 := by decide +kernel
theorem run_1n : (Iv.totT [ra, rb, rc] 2021 1 1 [la, lb]).net = 350 := by decide +kernel
theorem run_1t : (Iv.totT [ra, rb, rc] 2021 1 1 [la, lb]).tax = 25 := by decide +kernel
theorem run_1g : (Iv.totT [ra, rb, rc] 2021 1 1 [la, lb]).gross = 375 := by decide +kernel
theorem run_1p : (Iv.totT [ra, rb, rc] 2021 1 1 [la, lb]).parts = [pa, pb] := (Pt.sameB_iff _ _).1 (by decide +kernel)
theorem run_2 : Iv.totE [ra, rb, rc] 2021 1 1 [] = 1 := by decide +kernel
theorem run_3 : Iv.totE [ra, rb, rc] 2021 1 1 [lc] = 10 := by decide +kernel
theorem run_4 : Iv.totE [ra, rb, rc] 2021 1 1 [ld] = 1 := by decide +kernel
theorem run_5 : Iv.totE [ra, rb, rc] 2021 1 1 [le] = 7 := by decide +kernel
end Go.Proofs.Ythcaecinjmnlbab
