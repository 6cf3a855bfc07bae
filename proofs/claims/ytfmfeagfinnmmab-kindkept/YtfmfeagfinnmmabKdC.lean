/- CONTRACTS OF PACKAGE kind: head, named, single. (By gencheck.py.) -/
import Derived.Test.YtfmfeagfinnmmabKdB
set_option linter.unusedVariables false
namespace Go.Proofs.Ytfmfeagfinnmmab
open Go.RowKit
open Vl (T)
open Mem Tg

theorem kind_head {A : Nat → Prop} (t : Th) (v : Value) (w0 w : World) (hw : Below w0.heap.size w0 w) (h : Is A w t v) :
    Calls Try.prog 26 #[tv v] w fun e w' => e = .returned (Vl.val t.head) ∧ Below w0.heap.size w0 w' := by
  have HW := Lib.hid hw
  clear hw
  unfold tv
  cases h with
  | nothing =>
    have a_number := ask_nil_number
    have a_text := ask_nil_text
    have a_flag := ask_nil_flag
    have a_day := ask_nil_day
    have a_list := ask_nil_list
    go_enter Try.func26, Try.ntmps26
    go_wp2_with fail
    exact bodyPost_ret (v := .agg #[.int .i64 0, .int .i64 0, .string ⟨#[]⟩, .int .i64 0, .int .i64 0, .int .i64 0]) (by simp [results, Try.results26, go_sem]) rfl ⟨rfl, by repeat (first | exact HW.out | refine below_box ?_ _ | refine Below.setCell ?_ (by have := HW.out.size; simp; omega) _)⟩
  | @num n h =>
    have a_number := ask_number_number
    have a_text := ask_number_text
    have a_flag := ask_number_flag
    have a_day := ask_number_day
    have a_list := ask_number_list
    go_enter Try.func26, Try.ntmps26
    go_wp2_with fail
    exact bodyPost_ret (v := .agg #[.int .i64 1, .int .i64 n, .string ⟨#[]⟩, .int .i64 0, .int .i64 0, .int .i64 0]) (by simp [results, Try.results26, go_sem]) rfl ⟨rfl, by repeat (first | exact HW.out | refine below_box ?_ _ | refine Below.setCell ?_ (by have := HW.out.size; simp; omega) _)⟩
  | @text s h =>
    have a_number := ask_text_number
    have a_text := ask_text_text
    have a_flag := ask_text_flag
    have a_day := ask_text_day
    have a_list := ask_text_list
    go_enter Try.func26, Try.ntmps26
    go_wp2_with fail
    exact bodyPost_ret (v := .agg #[.int .i64 2, .int .i64 0, .string s, .int .i64 0, .int .i64 0, .int .i64 0]) (by simp [results, Try.results26, go_sem]) rfl ⟨rfl, by repeat (first | exact HW.out | refine below_box ?_ _ | refine Below.setCell ?_ (by have := HW.out.size; simp; omega) _)⟩
  | @flag b =>
    have a_number := ask_flag_number
    have a_text := ask_flag_text
    have a_flag := ask_flag_flag
    have a_day := ask_flag_day
    have a_list := ask_flag_list
    cases b
    · go_enter Try.func26, Try.ntmps26
      go_wp2_with fail
      exact bodyPost_ret (v := .agg #[.int .i64 3, .int .i64 0, .string ⟨#[]⟩, .int .i64 0, .int .i64 0, .int .i64 0]) (by simp [results, Try.results26, go_sem]) rfl ⟨rfl, by repeat (first | exact HW.out | refine below_box ?_ _ | refine Below.setCell ?_ (by have := HW.out.size; simp; omega) _)⟩
    · go_enter Try.func26, Try.ntmps26
      go_wp2_with fail
      exact bodyPost_ret (v := .agg #[.int .i64 3, .int .i64 1, .string ⟨#[]⟩, .int .i64 0, .int .i64 0, .int .i64 0]) (by simp [results, Try.results26, go_sem]) rfl ⟨rfl, by repeat (first | exact HW.out | refine below_box ?_ _ | refine Below.setCell ?_ (by have := HW.out.size; simp; omega) _)⟩
  | @day y m d h1 h2 h3 =>
    have a_number := ask_day_number
    have a_text := ask_day_text
    have a_flag := ask_day_flag
    have a_day := ask_day_day
    have a_list := ask_day_list
    go_enter Try.func26, Try.ntmps26
    go_wp2_with fail
    exact bodyPost_ret (v := .agg #[.int .i64 4, .int .i64 0, .string ⟨#[]⟩, .int .i64 y, .int .i64 m, .int .i64 d]) (by simp [results, Try.results26, go_sem]) rfl ⟨rfl, by repeat (first | exact HW.out | refine below_box ?_ _ | refine Below.setCell ?_ (by have := HW.out.size; simp; omega) _)⟩
  | @list ts vs ao n cap h1 h2 h3 h4 h5 h6 h7 h8 =>
    have a_number := ask_list_number
    have a_text := ask_list_text
    have a_flag := ask_list_flag
    have a_day := ask_list_day
    have a_list := ask_list_list
    have HT := Lib.hid h1
    clear h1 h2 h6 h7 h8
    go_enter Try.func26, Try.ntmps26
    go_wp2_with fail
    exact bodyPost_ret (v := .agg #[.int .i64 5, .int .i64 (n : Int), .string ⟨#[]⟩, .int .i64 0, .int .i64 0, .int .i64 0]) (by simp [results, Try.results26, go_sem]) rfl ⟨by rw [HT.out]; rfl, by repeat (first | exact HW.out | refine below_box ?_ _ | refine Below.setCell ?_ (by have := HW.out.size; simp; omega) _)⟩
/-- a value with the fields alone that its kind names -/
def nm (x : T) : T := if x.kind = 1 ∨ x.kind = 3 ∨ x.kind = 5 then ⟨x.kind, x.n, .empty, 0, 0, 0⟩ else if x.kind = 2 then ⟨x.kind, 0, x.text, 0, 0, 0⟩ else if x.kind = 4 then ⟨x.kind, 0, .empty, x.y, x.m, x.d⟩ else ⟨x.kind, 0, .empty, 0, 0, 0⟩
theorem kind_named (x : T) (w0 w : World) (hw : Below w0.heap.size w0 w) :
    Calls Try.prog 30 #[Vl.val x] w fun e w' => e = .returned (Vl.val (nm x)) ∧ Below w0.heap.size w0 w' := by
  have HW := Lib.hid hw
  clear hw
  obtain ⟨k, n, text, y, m, d⟩ := x
  unfold Vl.val nm
  dsimp only
  by_cases k1 : k = 1
  · subst k1
    go_enter Try.func30, Try.ntmps30
    go_wp2_with fail
    exact bodyPost_ret (v := .agg #[.int .i64 1, .int .i64 n, .string ⟨#[]⟩, .int .i64 0, .int .i64 0, .int .i64 0]) (by simp [results, Try.results30, go_sem]) rfl ⟨rfl, by repeat (first | exact HW.out | refine below_box ?_ _ | refine Below.setCell ?_ (by have := HW.out.size; simp; omega) _)⟩
  by_cases k3 : k = 3
  · subst k3
    go_enter Try.func30, Try.ntmps30
    go_wp2_with fail
    exact bodyPost_ret (v := .agg #[.int .i64 3, .int .i64 n, .string ⟨#[]⟩, .int .i64 0, .int .i64 0, .int .i64 0]) (by simp [results, Try.results30, go_sem]) rfl ⟨rfl, by repeat (first | exact HW.out | refine below_box ?_ _ | refine Below.setCell ?_ (by have := HW.out.size; simp; omega) _)⟩
  by_cases k5 : k = 5
  · subst k5
    go_enter Try.func30, Try.ntmps30
    go_wp2_with fail
    exact bodyPost_ret (v := .agg #[.int .i64 5, .int .i64 n, .string ⟨#[]⟩, .int .i64 0, .int .i64 0, .int .i64 0]) (by simp [results, Try.results30, go_sem]) rfl ⟨rfl, by repeat (first | exact HW.out | refine below_box ?_ _ | refine Below.setCell ?_ (by have := HW.out.size; simp; omega) _)⟩
  by_cases k2 : k = 2
  · subst k2
    go_enter Try.func30, Try.ntmps30
    go_wp2_with fail
    exact bodyPost_ret (v := .agg #[.int .i64 2, .int .i64 0, .string text, .int .i64 0, .int .i64 0, .int .i64 0]) (by simp [results, Try.results30, go_sem]) rfl ⟨rfl, by repeat (first | exact HW.out | refine below_box ?_ _ | refine Below.setCell ?_ (by have := HW.out.size; simp; omega) _)⟩
  by_cases k4 : k = 4
  · subst k4
    go_enter Try.func30, Try.ntmps30
    go_wp2_with fail
    exact bodyPost_ret (v := .agg #[.int .i64 4, .int .i64 0, .string ⟨#[]⟩, .int .i64 y, .int .i64 m, .int .i64 d]) (by simp [results, Try.results30, go_sem]) rfl ⟨rfl, by repeat (first | exact HW.out | refine below_box ?_ _ | refine Below.setCell ?_ (by have := HW.out.size; simp; omega) _)⟩
  have q1 : (k == 1) = false := beq_eq_false_iff_ne.2 k1
  have q2 : (k == 2) = false := beq_eq_false_iff_ne.2 k2
  have q3 : (k == 3) = false := beq_eq_false_iff_ne.2 k3
  have q4 : (k == 4) = false := beq_eq_false_iff_ne.2 k4
  have q5 : (k == 5) = false := beq_eq_false_iff_ne.2 k5
  rw [if_neg (by omega), if_neg k2, if_neg k4]
  dsimp only
  go_enter Try.func30, Try.ntmps30
  go_wp2_with fail
  exact bodyPost_ret (v := .agg #[.int .i64 k, .int .i64 0, .string ⟨#[]⟩, .int .i64 0, .int .i64 0, .int .i64 0]) (by simp [results, Try.results30, go_sem]) rfl ⟨rfl, by repeat (first | exact HW.out | refine below_box ?_ _ | refine Below.setCell ?_ (by have := HW.out.size; simp; omega) _)⟩
/-- what a value that is no list makes -/
def oneV (x : T) : Value := if x.kind = 1 then .iface 64 (.int .i64 x.n) else if x.kind = 2 then .iface 60 (.string x.text) else if x.kind = 3 then .iface 67 (.bool (x.n == 1)) else if x.kind = 4 then .iface 68 (.agg #[.int .i64 x.y, .int .i64 x.m, .int .i64 x.d]) else .nilIface
theorem is_one (A : Nat → Prop) (w : World) (x : T) (h : Vl.Short x) : Is A w (Th.one x) (oneV x) := by
  unfold Th.one oneV
  obtain ⟨_, h1, h2, h3, h4, h5⟩ := h
  split
  · exact .num h1
  · split
    · exact .text h2
    · split
      · exact .flag
      · split
        · exact .day h3 h4 h5
        · exact .nothing
theorem kind_single (x : T) (w0 w : World) (hw : Below w0.heap.size w0 w) :
    Calls Try.prog 29 #[Vl.val x] w fun e w' => e = .returned (tv (oneV x)) ∧ Below w0.heap.size w0 w' := by
  have HW := Lib.hid hw
  clear hw
  obtain ⟨k, n, text, y, m, d⟩ := x
  unfold Vl.val oneV
  dsimp only
  by_cases k1 : k = 1
  · subst k1
    go_enter Try.func29, Try.ntmps29
    go_wp2_with fail
    refine (from_int n _ _ (Below.refl _ _)).mono ?_
    rintro e w1 ⟨rfl, b1⟩
    have hc : w1.cell? ⟨w.heap.size + 1, 0, none⟩ = some .nilIface := by
      rw [(bcell b1).1 _ _ (by simp)]
      simp [go_sem]
    have hfz : w1.frozen? ⟨w.heap.size + 1, 0, none⟩ = false := by
      rw [(bcell b1).2 _ _ (by simp)]
      simp [go_sem]
    have HB := Lib.hid (bchain (below_box (below_box HW.out _) _) b1)
    clear b1
    unfold tv
    go_wp2_with fail
    exact bodyPost_ret (v := tv (.iface 64 (.int .i64 n))) (by simp [results, tv, Try.results29, go_sem, hc]) rfl ⟨rfl, HB.out.setCell (p := ⟨w.heap.size + 1, 0, none⟩) (by have := HW.out.size; simp; omega) _⟩
  by_cases k2 : k = 2
  · subst k2
    go_enter Try.func29, Try.ntmps29
    go_wp2_with fail
    refine (from_text text _ _ (Below.refl _ _)).mono ?_
    rintro e w1 ⟨rfl, b1⟩
    have hc : w1.cell? ⟨w.heap.size + 1, 0, none⟩ = some .nilIface := by
      rw [(bcell b1).1 _ _ (by simp)]
      simp [go_sem]
    have hfz : w1.frozen? ⟨w.heap.size + 1, 0, none⟩ = false := by
      rw [(bcell b1).2 _ _ (by simp)]
      simp [go_sem]
    have HB := Lib.hid (bchain (below_box (below_box HW.out _) _) b1)
    clear b1
    unfold tv
    go_wp2_with fail
    exact bodyPost_ret (v := tv (.iface 60 (.string text))) (by simp [results, tv, Try.results29, go_sem, hc]) rfl ⟨rfl, HB.out.setCell (p := ⟨w.heap.size + 1, 0, none⟩) (by have := HW.out.size; simp; omega) _⟩
  by_cases k3 : k = 3
  · subst k3
    go_enter Try.func29, Try.ntmps29
    go_wp2_with fail
    refine (from_flag (n == 1) _ _ (Below.refl _ _)).mono ?_
    rintro e w1 ⟨rfl, b1⟩
    have hc : w1.cell? ⟨w.heap.size + 1, 0, none⟩ = some .nilIface := by
      rw [(bcell b1).1 _ _ (by simp)]
      simp [go_sem]
    have hfz : w1.frozen? ⟨w.heap.size + 1, 0, none⟩ = false := by
      rw [(bcell b1).2 _ _ (by simp)]
      simp [go_sem]
    have HB := Lib.hid (bchain (below_box (below_box HW.out _) _) b1)
    clear b1
    unfold tv
    go_wp2_with fail
    exact bodyPost_ret (v := tv (.iface 67 (.bool (n == 1)))) (by simp [results, tv, Try.results29, go_sem, hc]) rfl ⟨rfl, HB.out.setCell (p := ⟨w.heap.size + 1, 0, none⟩) (by have := HW.out.size; simp; omega) _⟩
  by_cases k4 : k = 4
  · subst k4
    go_enter Try.func29, Try.ntmps29
    go_wp2_with fail
    refine (from_date y m d _ _ (Below.refl _ _)).mono ?_
    rintro e w1 ⟨rfl, b1⟩
    have hc : w1.cell? ⟨w.heap.size + 1, 0, none⟩ = some .nilIface := by
      rw [(bcell b1).1 _ _ (by simp)]
      simp [go_sem]
    have hfz : w1.frozen? ⟨w.heap.size + 1, 0, none⟩ = false := by
      rw [(bcell b1).2 _ _ (by simp)]
      simp [go_sem]
    have HB := Lib.hid (bchain (below_box (below_box HW.out _) _) b1)
    clear b1
    unfold tv
    go_wp2_with fail
    exact bodyPost_ret (v := tv (.iface 68 (.agg #[.int .i64 y, .int .i64 m, .int .i64 d]))) (by simp [results, tv, Try.results29, go_sem, hc]) rfl ⟨rfl, HB.out.setCell (p := ⟨w.heap.size + 1, 0, none⟩) (by have := HW.out.size; simp; omega) _⟩
  have q1 : (k == 1) = false := beq_eq_false_iff_ne.2 k1
  have q2 : (k == 2) = false := beq_eq_false_iff_ne.2 k2
  have q3 : (k == 3) = false := beq_eq_false_iff_ne.2 k3
  have q4 : (k == 4) = false := beq_eq_false_iff_ne.2 k4
  rw [if_neg k1, if_neg k2, if_neg k3, if_neg k4]
  go_enter Try.func29, Try.ntmps29
  go_wp2_with fail
  exact bodyPost_ret (v := tv .nilIface) (by simp [results, tv, Try.results29, go_sem]) rfl ⟨rfl, by repeat (first | exact HW.out | refine below_box ?_ _ | refine Below.setCell ?_ (by have := HW.out.size; simp; omega) _)⟩
end Go.Proofs.Ytfmfeagfinnmmab
