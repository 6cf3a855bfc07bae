/- CONTRACTS OF PACKAGE date: Read. -/
import Derived.Test.YtekegbnmmjhfiabDateF
import Derived.Laws.DeepStrings4
import Derived.Deep.RegionHeld3
namespace Go.Proofs.Ytekegbnmmjhfiab
open Go.RowKit

theorem slice4 (s : ByteArray) (a b c d f g i j : UInt8) (hx : txt s = [a, b, c, d, 45, f, g, 45, i, j]) : ∃ t, txt t = [a, b, c, d] ∧ ∀ u, (Instr.slice 9 (.string s) none (some (.int .i64 4)) none).run Try.prog u = .ok (.string t) u := by
  have hs : s.size = 10 := by rw [← txt_len, hx]; rfl
  refine ⟨s.extract 0 4, ?_, fun u => ?_⟩
  · unfold txt at hx ⊢
    rw [ByteArray.data_extract, Array.toList_extract, hx]
    rfl
  · rw [run_slice_string_to_if u 9 s .i64 4 Try.underlying9, if_pos ⟨by omega, by omega⟩]
    rfl
theorem slice57 (s : ByteArray) (a b c d f g i j : UInt8) (hx : txt s = [a, b, c, d, 45, f, g, 45, i, j]) : ∃ t, txt t = [f, g] ∧ ∀ u, (Instr.slice 9 (.string s) (some (.int .i64 5)) (some (.int .i64 7)) none).run Try.prog u = .ok (.string t) u := by
  have hs : s.size = 10 := by rw [← txt_len, hx]; rfl
  refine ⟨s.extract 5 7, ?_, fun u => ?_⟩
  · unfold txt at hx ⊢
    rw [ByteArray.data_extract, Array.toList_extract, hx]
    rfl
  · rw [run_slice_string_if u 9 s .i64 .i64 5 7 Try.underlying9, if_pos (by omega)]
    rfl
theorem slice8 (s : ByteArray) (a b c d f g i j : UInt8) (hx : txt s = [a, b, c, d, 45, f, g, 45, i, j]) : ∃ t, txt t = [i, j] ∧ ∀ u, (Instr.slice 9 (.string s) (some (.int .i64 8)) none none).run Try.prog u = .ok (.string t) u := by
  have hs : s.size = 10 := by rw [← txt_len, hx]; rfl
  refine ⟨s.extract 8 s.size, ?_, fun u => ?_⟩
  · rw [hs]
    unfold txt at hx ⊢
    rw [ByteArray.data_extract, Array.toList_extract, hx]
    rfl
  · rw [run_slice_string_from_if u 9 s .i64 8 Try.underlying9, if_pos ⟨by omega, by omega⟩]
    rfl
set_option maxHeartbeats 1000000 in
theorem read_no (s : ByteArray) (w0 w : World) (hw : Below w0.heap.size w0 w) (hs : s.size ≤ 140737488355328) (h : formB (txt s) = false) :
    Calls Try.prog 18 #[.string s] w fun en w' => en = dayE (0, 0, 0, 4) ∧ Below w0.heap.size w0 w' := by
  have HW := Lib.hid hw
  clear hw
  go_enter Try.func18, Try.ntmps18
  go_wp2_with fail
  refine (formed_date s _ hs).mono ?_
  rintro e w1 ⟨rfl, hw1⟩
  subst hw1
  rw [h]
  go_wp2
  exact bodyPost_ret (v := .tuple #[dayV 0 0 0, .int .i64 4]) (by simp [results, dayV, Try.results18, go_sem]) rfl ⟨rfl, below_box HW.out _⟩
/-- a day's own place, and what lies there -/
structure DayAt (u : World) (p : Nat) (a b c : Int) : Prop where
  lt : p < u.heap.size
  c0 : u.cell? ⟨p, 0, none⟩ = some (.int .i64 a)
  c1 : u.cell? ⟨p, 1, none⟩ = some (.int .i64 b)
  c2 : u.cell? ⟨p, 2, none⟩ = some (.int .i64 c)
  fr : ∀ o, u.frozen? ⟨p, o, none⟩ = false
theorem dayAt_alloc (u : World) (a b c : Int) : DayAt (u.alloc (.cells #[.int .i64 a, .int .i64 b, .int .i64 c] 23)) u.heap.size a b c := by
  refine ⟨by simp, ?_, ?_, ?_, ?_⟩
  all_goals simp [go_sem]
section
variable {u v : World} {p q : Nat} {a b c : Int}
theorem DayAt.below (h : DayAt u p a b c) (k : Below u.heap.size u v) : DayAt v p a b c :=
  ⟨Nat.lt_of_lt_of_le h.lt k.size, by rw [(bcell k).1 _ _ h.lt]; exact h.c0, by rw [(bcell k).1 _ _ h.lt]; exact h.c1, by rw [(bcell k).1 _ _ h.lt]; exact h.c2, fun o => by rw [(bcell k).2 _ _ h.lt]; exact h.fr o⟩
theorem DayAt.grow (h : DayAt u p a b c) (o : Obj) : DayAt (u.alloc o) p a b c := h.below ((Below.refl _ _).alloc (Nat.le_refl _) o)
theorem DayAt.set (h : DayAt u p a b c) (o : Nat) (x : Value) (e : q ≠ p) : DayAt (u.setCell ⟨q, o, none⟩ x) p a b c := by
  obtain ⟨h0, h1, h2, h3, h4⟩ := h
  have e' : ¬ p = q := fun k => e k.symm
  refine ⟨by simpa using h0, ?_, ?_, ?_, ?_⟩
  all_goals simp [go_sem, *]
theorem DayAt.put (h : DayAt u p a b c) (x y z : Int) : DayAt (((u.setCell ⟨p, 0, none⟩ (.int .i64 x)).setCell ⟨p, 1, none⟩ (.int .i64 y)).setCell ⟨p, 2, none⟩ (.int .i64 z)) p x y z := by
  obtain ⟨h0, h1, h2, h3, h4⟩ := h
  refine ⟨by simpa using h0, ?_, ?_, ?_, ?_⟩
  all_goals simp [go_sem, *]
theorem DayAt.at (h : DayAt u p a b c) (e : p = q) : DayAt u q a b c := e ▸ h
end
theorem bset {w0 u : World} {p : Nat} (h : Below w0.heap.size w0 u) (hp : w0.heap.size ≤ p) (o : Nat) (x : Value) : Below w0.heap.size w0 (u.setCell ⟨p, o, none⟩ x) := h.setCell hp x
theorem bchain {w0 u v : World} (h : Below w0.heap.size w0 u) (k : Below u.heap.size u v) : Below w0.heap.size w0 v := h.trans (k.mono h.size)
set_option maxHeartbeats 4000000 in
theorem read_form (s : ByteArray) (a b c d f g i j : UInt8) (w0 w : World) (hw : Below w0.heap.size w0 w) (hx : txt s = [a, b, c, d, 45, f, g, 45, i, j]) (h : formB (txt s) = true) :
    Calls Try.prog 18 #[.string s] w fun en w' => en = dayE (Dt.told [a, b, c, d, 45, f, g, 45, i, j]) ∧ Below w0.heap.size w0 w' := by
  have HW := Lib.hid hw
  clear hw
  have hs : s.size = 10 := by rw [← txt_len, hx]; rfl
  obtain ⟨t1, x1, s1⟩ := slice4 s a b c d f g i j hx
  obtain ⟨t2, x2, s2⟩ := slice57 s a b c d f g i j hx
  obtain ⟨t3, x3, s3⟩ := slice8 s a b c d f g i j hx
  have hg := h
  rw [hx, formB_parse] at hg
  have HP : Hid (Dt.parse [a, b, c, d, 45, f, g, 45, i, j] = some (pv (txt t1), pv (txt t2), pv (txt t3))) := by
    show _ = _
    rw [x1, x2, x3]
    apply good_parse
    simp only [Bool.and_eq_true] at hg
    simp [hg]
  have H1 : Hid (∀ b ∈ txt t1, Dt.isDig b = true) := by
    rw [x1]
    simp only [Bool.and_eq_true] at hg
    intro b hb
    simp only [List.mem_cons, List.not_mem_nil, or_false] at hb
    rcases hb with rfl | rfl | rfl | rfl <;> simp [hg]
  have H2 : Hid (∀ b ∈ txt t2, Dt.isDig b = true) := by
    rw [x2]
    simp only [Bool.and_eq_true] at hg
    intro b hb
    simp only [List.mem_cons, List.not_mem_nil, or_false] at hb
    rcases hb with rfl | rfl <;> simp [hg]
  have H3 : Hid (∀ b ∈ txt t3, Dt.isDig b = true) := by
    rw [x3]
    simp only [Bool.and_eq_true] at hg
    intro b hb
    simp only [List.mem_cons, List.not_mem_nil, or_false] at hb
    rcases hb with rfl | rfl <;> simp [hg]
  have z1 : t1.size = 4 := by rw [← txt_len, x1]; rfl
  have z2 : t2.size = 2 := by rw [← txt_len, x2]; rfl
  have z3 : t3.size = 2 := by rw [← txt_len, x3]; rfl
  have c1 : ∀ w, Calls Try.prog 21 #[.string t1] w fun e w' => e = .returned (.int .i64 (pv (txt t1) : Nat)) ∧ Below w.heap.size w w' := fun w => number_date t1 w (by omega) H1.out
  have c2 : ∀ w, Calls Try.prog 21 #[.string t2] w fun e w' => e = .returned (.int .i64 (pv (txt t2) : Nat)) ∧ Below w.heap.size w w' := fun w => number_date t2 w (by omega) H2.out
  have c3 : ∀ w, Calls Try.prog 21 #[.string t3] w fun e w' => e = .returned (.int .i64 (pv (txt t3) : Nat)) ∧ Below w.heap.size w w' := fun w => number_date t3 w (by omega) H3.out
  have v1 := pv_le (txt t1) (by rw [txt_len]; omega)
  have v2 := pv_le (txt t2) (by rw [txt_len]; omega)
  have v3 := pv_le (txt t3) (by rw [txt_len]; omega)
  generalize pv (txt t1) = y at *
  generalize pv (txt t2) = m at *
  generalize pv (txt t3) = n at *
  clear x1 x2 x3 z1 z2 z3 hg H1 H2 H3
  have HS := Lib.hid HW.out.size
  have D1 : DayAt (boxW w).drew w.heap.size 0 0 0 := (dayAt_alloc w 0 0 0).below (Below.refl _ _).drew
  unfold boxW at D1
  cases hr : Dt.rightB y m n
  · have HT : Hid (Dt.told [a, b, c, d, 45, f, g, 45, i, j] = (0, 0, 0, 9)) := Lib.hid (Dt.told_date HP.out hr)
    rw [HT.out]
    clear HT HP
    go_enter Try.func18, Try.ntmps18
    go_wp2_with fail
    refine (formed_date s _ (by omega)).mono ?_
    rintro e w1 ⟨rfl, hw1⟩
    subst hw1
    rw [h]
    clear h hx
    go_wp2
    go_region_held3 (fun _ => True) (exact trivial) (first | (go_at_call_of 21 (Value.string t1); refine (c1 _).mono ?_; rintro e w' ⟨rfl, b⟩; (first | have D1 := D1.below b | have D1 := (D1.grow _).below b); have L1 := D1.lt; (first | have D2 : DayAt w' (w.heap.size + 1) 0 0 0 := DayAt.at (((dayAt_alloc (w.alloc _) 0 0 0).below (Below.refl _ _).drew).below b) (by simp) | skip); try (have D3 := D2; obtain ⟨_, _, _, _, _⟩ := D3)) | (go_at_call_of 21 (Value.string t2); refine (c2 _).mono ?_; rintro e w' ⟨rfl, b⟩; (first | have D1 := D1.below b | have D1 := (D1.grow _).below b); have L1 := D1.lt; (first | have D2 := (dayAt_alloc _ 0 0 0).below b | have D2 := D2.below b | skip); try (have D3 := D2; obtain ⟨_, _, _, _, _⟩ := D3)) | (go_at_call_of 21 (Value.string t3); refine (c3 _).mono ?_; rintro e w' ⟨rfl, b⟩; (first | have D1 := D1.below b | have D1 := (D1.grow _).below b); have L1 := D1.lt; (first | have D2 := (dayAt_alloc _ 0 0 0).below b | have D2 := D2.below b | skip); try (have D3 := D2; obtain ⟨_, _, _, _, _⟩ := D3)))
    all_goals
      go_wp2_with fail
      refine (right_date y m n _ _ (Below.refl _ _) ⟨by omega, by omega⟩ ⟨by omega, by omega⟩ ⟨by omega, by omega⟩).mono ?_
      rintro e w5 ⟨rfl, b5⟩
      rw [hr]
      have D5 : DayAt w5 w.heap.size 0 0 0 := by
        first
          | exact (D1.grow _).below b5
          | exact (((D1.set _ _ (by omega)).set _ _ (by omega)).set _ _ (by omega)).below b5
      obtain ⟨q0, q1, q2, q3, q4⟩ := D5
      go_wp2_with fail
    all_goals
      refine bodyPost_ret (v := .tuple #[dayV 0 0 0, .int .i64 9]) (by simp [results, dayV, Try.results18, go_sem, q1, q2, q3]) rfl ⟨rfl, ?_⟩
      have hs0 := HS.out
      repeat first
        | exact HW.out
        | refine bset ?_ (by omega) _ _
        | refine below_box ?_ _
        | refine bchain ?_ (by assumption)
        | refine Below.drew ?_
  · have HT : Hid (Dt.told [a, b, c, d, 45, f, g, 45, i, j] = ((y : Int), (m : Int), (n : Int), 0)) := Lib.hid (Dt.told_some HP.out hr)
    rw [HT.out]
    clear HT HP
    go_enter Try.func18, Try.ntmps18
    go_wp2_with fail
    refine (formed_date s _ (by omega)).mono ?_
    rintro e w1 ⟨rfl, hw1⟩
    subst hw1
    rw [h]
    clear h hx
    go_wp2
    go_region_held3 (fun _ => True) (exact trivial) (first | (go_at_call_of 21 (Value.string t1); refine (c1 _).mono ?_; rintro e w' ⟨rfl, b⟩; (first | have D1 := D1.below b | have D1 := (D1.grow _).below b); have L1 := D1.lt; (first | have D2 : DayAt w' (w.heap.size + 1) 0 0 0 := DayAt.at (((dayAt_alloc (w.alloc _) 0 0 0).below (Below.refl _ _).drew).below b) (by simp) | skip); try (have D3 := D2; obtain ⟨_, _, _, _, _⟩ := D3)) | (go_at_call_of 21 (Value.string t2); refine (c2 _).mono ?_; rintro e w' ⟨rfl, b⟩; (first | have D1 := D1.below b | have D1 := (D1.grow _).below b); have L1 := D1.lt; (first | have D2 := (dayAt_alloc _ 0 0 0).below b | have D2 := D2.below b | skip); try (have D3 := D2; obtain ⟨_, _, _, _, _⟩ := D3)) | (go_at_call_of 21 (Value.string t3); refine (c3 _).mono ?_; rintro e w' ⟨rfl, b⟩; (first | have D1 := D1.below b | have D1 := (D1.grow _).below b); have L1 := D1.lt; (first | have D2 := (dayAt_alloc _ 0 0 0).below b | have D2 := D2.below b | skip); try (have D3 := D2; obtain ⟨_, _, _, _, _⟩ := D3)))
    all_goals
      go_wp2_with fail
      refine (right_date y m n _ _ (Below.refl _ _) ⟨by omega, by omega⟩ ⟨by omega, by omega⟩ ⟨by omega, by omega⟩).mono ?_
      rintro e w5 ⟨rfl, b5⟩
      rw [hr]
      have D5 : DayAt w5 w.heap.size 0 0 0 := by
        first
          | exact (D1.grow _).below b5
          | exact (((D1.set _ _ (by omega)).set _ _ (by omega)).set _ _ (by omega)).below b5
      have D6 := (by
        first
          | exact (dayAt_alloc _ _ _ _).below b5
          | exact (D2.put _ _ _).below b5 : DayAt w5 _ y m n)
      obtain ⟨r0, r1, r2, r3, r4⟩ := D6
      obtain ⟨q0, q1, q2, q3, q4⟩ := D5
      go_wp2_with fail
    all_goals
      refine bodyPost_ret (v := .tuple #[dayV y m n, .int .i64 0]) (by simp [results, dayV, Try.results18, go_sem, q1, q2, q3]) rfl ⟨rfl, ?_⟩
      have hs0 := HS.out
      repeat first
        | exact HW.out
        | refine bset ?_ (by omega) _ _
        | refine below_box ?_ _
        | refine bchain ?_ (by assumption)
        | refine Below.drew ?_
theorem read_date (s : ByteArray) (w0 w : World) (hw : Below w0.heap.size w0 w) (hs : s.size ≤ 140737488355328) :
    Calls Try.prog 18 #[.string s] w fun en w' => en = dayE (Dt.told (txt s)) ∧ Below w0.heap.size w0 w' := by
  cases hf : formB (txt s)
  · rw [form_told hf]
    exact read_no s w0 w hw hs hf
  · have hl : (txt s).length = 10 := by
      by_cases hl : (txt s).length = 10
      · exact hl
      · rw [formB_len hl] at hf
        cases hf
    obtain ⟨a, b, c, d, e, f, g, h, i, j, hx⟩ := Dt.ten hl
    have hf' := hf
    rw [hx, formB_parse] at hf'
    simp only [Bool.and_eq_true, beq_iff_eq] at hf'
    obtain rfl : e = 45 := hf'.1.1.1.1.1.2
    obtain rfl : h = 45 := hf'.1.1.2
    rw [hx]
    exact read_form s a b c d f g i j w0 w hw hx hf
end Go.Proofs.Ytekegbnmmjhfiab
