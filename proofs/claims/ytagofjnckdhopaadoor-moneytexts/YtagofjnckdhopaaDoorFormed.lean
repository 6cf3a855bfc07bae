/- CONTRACTS OF PACKAGE money: formed, Read: any text. -/
import Derived.Test.YtagofjnckdhopaaDoorRead
namespace Go.Proofs.YtagofjnckdhopaaDoor
open Go.RowKit

theorem slice_to (s : ByteArray) (i : Int) (h0 : 0 ≤ i) (h1 : i ≤ s.size) : ∃ t, txt t = (txt s).take i.toNat ∧ ∀ u, (Instr.slice 9 (.string s) none (some (.int .i64 i)) none).run Tryd.prog u = .ok (.string t) u := by
  refine ⟨s.extract 0 i.toNat, by unfold txt; rw [Lib.extract_data]; simp, fun u => ?_⟩
  rw [run_slice_string_to_if u 9 s .i64 i Tryd.underlying9, if_pos ⟨h0, h1⟩]
theorem slice_from (s : ByteArray) (i : Int) (h0 : 0 ≤ i) (h1 : i ≤ s.size) : ∃ t, txt t = (txt s).drop i.toNat ∧ ∀ u, (Instr.slice 9 (.string s) (some (.int .i64 i)) none none).run Tryd.prog u = .ok (.string t) u := by
  refine ⟨s.extract i.toNat s.size, ?_, fun u => ?_⟩
  · unfold txt
    rw [Lib.extract_data, List.take_of_length_le]
    rw [List.length_drop]
    exact Nat.sub_le_sub_right (Nat.le_of_eq (txt_len s)) _
  · rw [run_slice_string_from_if u 9 s .i64 i Tryd.underlying9, if_pos ⟨h0, h1⟩]
theorem get_at (s : ByteArray) (i : Nat) (h : i < s.size) : (txt s)[i]? = some (s[i]'h) := by
  unfold txt
  rw [List.getElem?_eq_getElem (by rw [Array.length_toList]; exact h)]
  rfl
theorem head_at (s : ByteArray) (h : 0 < s.size) : (txt s).head? = some (s[0]'h) := by
  rw [List.head?_eq_getElem?]
  exact get_at s 0 h
theorem some48 (a : UInt8) : (some a = some (48 : UInt8)) ↔ a.toNat = 48 := by
  rw [Option.some.injEq, ← UInt8.toNat_inj]
  exact Iff.rfl
theorem some46 (a : UInt8) : (some a = some (46 : UInt8)) ↔ a.toNat = 46 := by
  rw [Option.some.injEq, ← UInt8.toNat_inj]
  exact Iff.rfl

set_option maxHeartbeats 1000000 in
theorem formed_any (s : ByteArray) (w : World) (hs : s.size ≤ 140737488355328) :
    Calls Tryd.prog 25 #[.string s] w fun e w' => e = .returned (.bool (Mn.formed (txt s))) ∧ Below w.heap.size w w' := by
  by_cases h4 : s.size < 4
  · have HF : Hid (Mn.formed (txt s) = false) := by
      show _ = _
      unfold Mn.formed
      rw [txt_len, decide_eq_false (by omega)]
      rfl
    go_enter Tryd.func25, Tryd.ntmps25
    go_wp2
    go_ret
    exact ⟨ret_bool HF.out.symm, Below.refl _ _⟩
  have h1 : 0 < s.size := by omega
  have h3 : s.size - 3 < s.size := by omega
  have HF : Hid (Mn.formed (txt s) = (!(decide ((s[0]'h1).toNat = 48) && decide (4 < s.size)) && (decide ((s[s.size - 3]'h3).toNat = 46) && (((txt s).take (s.size - 3)).all Mn.dig && ((txt s).drop (s.size - 2)).all Mn.dig)))) := by
    show _ = _
    unfold Mn.formed
    rw [txt_len, decide_eq_true (show 4 ≤ s.size by omega), Bool.true_and, head_at s h1, get_at s _ h3]
    rw [decide_eq_decide.2 (some48 (s[0]'h1)), decide_eq_decide.2 (some46 (s[s.size - 3]'h3))]
  obtain ⟨x, hx⟩ : ∃ x, s[0]'h1 = x := ⟨_, rfl⟩
  obtain ⟨y, hy⟩ : ∃ y, s[s.size - 3]'h3 = y := ⟨_, rfl⟩
  rw [hx, hy] at HF
  obtain ⟨t1, ht1, hsl1⟩ := slice_to s (s.size - 3) (by omega) (by omega)
  obtain ⟨t2, ht2, hsl2⟩ := slice_from s (s.size - 3 + 1) (by omega) (by omega)
  rw [show ((s.size : Int) - 3).toNat = s.size - 3 by omega] at ht1
  rw [show ((s.size : Int) - 3 + 1).toNat = s.size - 2 by omega] at ht2
  rw [← ht1, ← ht2] at HF
  clear ht1 ht2
  go_enter Tryd.func25, Tryd.ntmps25
  have hor : (x.toNat = 48 ∧ 4 < s.size) ∨ (x.toNat = 48 ∧ ¬ 4 < s.size) ∨ ¬ x.toNat = 48 := by omega
  rcases hor with ⟨hz, h5⟩ | hor
  · rw [decide_eq_true hz, decide_eq_true h5] at HF
    go_wp2
    go_ret
    exact ⟨ret_bool HF.out.symm, Below.refl _ _⟩
  have HF1 : Hid (Mn.formed (txt s) = (decide (y.toNat = 46) && ((txt t1).all Mn.dig && (txt t2).all Mn.dig))) := by
    show _ = _
    rw [HF.out]
    rcases hor with ⟨_, h5⟩ | hz
    · rw [decide_eq_false h5, Bool.and_false]; rfl
    · rw [decide_eq_false hz]; rfl
  clear HF
  by_cases hd : y.toNat = 46
  · rw [decide_eq_true hd, Bool.true_and] at HF1
    rcases hor with ⟨hz, h5⟩ | hz
    all_goals (
      go_wp2_with fail
      refine (digital_any t1 _).mono ?_
      rintro e w1 ⟨rfl, b1⟩
      have HB := Lib.hid b1
      clear b1
      cases hD : (txt t1).all Mn.dig
      · rw [hD] at HF1
        go_wp2
        go_ret
        exact ⟨ret_bool HF1.out.symm, HB.out⟩
      · rw [hD] at HF1
        go_wp2_with fail
        refine (digital_gen t2 w _ HB.out).mono ?_
        rintro e w2 ⟨rfl, b2⟩
        have HB2 := Lib.hid b2
        clear b2
        go_wp2
        go_ret
        exact ⟨ret_bool HF1.out.symm, HB2.out⟩)
  · rw [decide_eq_false hd, Bool.false_and] at HF1
    have hd' : ((y.toNat : Int) == 46) = false := beq_eq_false_iff_ne.2 (by omega)
    rcases hor with ⟨hz, h5⟩ | hz
    all_goals (
      go_wp2
      go_ret
      exact ⟨ret_bool HF1.out.symm, Below.refl _ _⟩)

theorem read_none (s : ByteArray) (h : Mn.good (txt s) = false) : both (Mn.val (txt s)) (Mn.why (txt s)) = both 0 4 := by
  unfold Mn.val Mn.why
  rw [h]
  rfl
theorem read_some (s : ByteArray) (h : Mn.good (txt s) = true) : both (Mn.val (txt s)) (Mn.why (txt s)) = both (Mn.amt (Mn.amount (txt s))) (Mn.err (Mn.amount (txt s))) := by
  unfold Mn.val Mn.why
  rw [h]
  rfl
theorem plain_formed {l : List UInt8} (h : Mn.formed l = true) : Plain l := by
  obtain ⟨D, x, y, rfl, hD, _, _, hx, hy⟩ := Mn.of_formed h
  intro b hb
  rcases List.mem_append.1 hb with hb | hb
  · exact .inl (List.all_eq_true.1 hD b hb)
  · simp only [List.mem_cons, List.not_mem_nil, or_false] at hb
    rcases hb with rfl | rfl | rfl
    · exact .inr rfl
    · exact .inl hx
    · exact .inl hy
theorem rest_len (l : List UInt8) : (Mn.rest l).length ≤ l.length := by
  unfold Mn.rest
  split
  · rw [List.length_drop]; omega
  · exact Nat.le_refl _
theorem formed_gen (s : ByteArray) (w0 w : World) (hb : Below w0.heap.size w0 w) (hs : s.size ≤ 140737488355328) :
    Calls Tryd.prog 25 #[.string s] w fun e w' => e = .returned (.bool (Mn.formed (txt s))) ∧ Below w0.heap.size w0 w' :=
  (formed_any s w hs).mono fun _ _ ⟨h1, h2⟩ => ⟨h1, hb.trans (h2.mono hb.size)⟩
theorem below_gen (s : ByteArray) (w0 w : World) (hb : Below w0.heap.size w0 w) (hp : Plain (txt s)) :
    Calls Tryd.prog 26 #[.string s] w fun e w' => e = both (Mn.amt (-(Mn.worth 0 (txt s) : Int))) (Mn.err (-(Mn.worth 0 (txt s) : Int))) ∧ Below w0.heap.size w0 w' :=
  (below_any s w hp).mono fun _ _ ⟨h1, h2⟩ => ⟨h1, hb.trans (h2.mono hb.size)⟩
theorem cut_gen (s : ByteArray) (w : World) :
    Calls Tryd.prog 24 #[.string s, .string ⟨#[45]⟩] w fun e w' => (∃ t : ByteArray, e = .returned (.tuple #[.string t, .bool (Mn.head (txt s))]) ∧ txt t = Mn.rest (txt s)) ∧ w' = w :=
  (Tryd.strings_CutPrefix s ⟨#[45]⟩ w).mono fun _ _ ⟨h1, h2⟩ => ⟨⟨_, h1, rfl⟩, h2⟩
set_option maxHeartbeats 1000000 in
theorem read_any (s : ByteArray) (w : World) (hs : s.size ≤ 140737488355328) :
    Calls Tryd.prog 18 #[.string s] w fun e w' => e = both (Mn.val (txt s)) (Mn.why (txt s)) ∧ Below w.heap.size w w' := by
  have HR0 := Lib.hid (read_none s)
  have HR1 := Lib.hid (read_some s)
  go_enter Tryd.func18, Tryd.ntmps18
  go_wp2_with fail
  refine (cut_gen s _).mono ?_
  rintro e w0 ⟨⟨t, rfl, ht⟩, hw0⟩
  subst hw0
  have hts : t.size ≤ 140737488355328 := by
    have := rest_len (txt s)
    rw [← ht, txt_len, txt_len] at this
    omega
  have HG : Hid (Mn.good (txt s) = (Mn.formed (txt t) && !(decide (txt s = Mn.nay)))) := by
    show _ = _
    rw [ht]
    rfl
  have HA : Hid (Mn.amount (txt s) = if Mn.head (txt s) = true then -(Mn.worth 0 (txt t) : Int) else (Mn.worth 0 (txt t) : Int)) := by
    show _ = _
    rw [ht]
    rfl
  clear ht
  go_wp2_with fail
  refine (formed_any t _ hts).mono ?_
  rintro e w1 ⟨rfl, b1⟩
  have HB := Lib.hid b1
  clear b1
  cases hF : Mn.formed (txt t)
  · rw [hF, Bool.false_and] at HG
    go_wp2
    go_ret2
    exact ⟨(HR0.out HG.out).symm, HB.out⟩
  rw [hF, Bool.true_and] at HG
  by_cases hny : s.toList = [45, 48, 46, 48, 48]
  · have HG2 : Hid (Mn.good (txt s) = false) := by
      show _ = _
      rw [HG.out, decide_eq_true (by rw [← tl]; exact hny)]
      rfl
    go_wp2
    go_ret2
    exact ⟨(HR0.out HG2.out).symm, HB.out⟩
  have HG2 : Hid (Mn.good (txt s) = true) := by
    show _ = _
    rw [HG.out, decide_eq_false (by rw [← tl]; exact hny)]
    rfl
  have hny2 : (s.toList == [45, 48, 46, 48, 48]) = false := by simpa using hny
  clear HG
  go_wp2_with fail
  refine (below_gen t w0 _ HB.out (plain_formed hF)).mono ?_
  rintro e w2 ⟨rfl, b2⟩
  have HB2 := Lib.hid b2
  clear b2 HB
  generalize Mn.worth 0 (txt t) = v at *
  by_cases hf : Mn.Fit (-(v : Int))
  · rw [both_fit hf]
    unfold both
    cases hh : Mn.head (txt s)
    · rw [hh, if_neg (by decide)] at HA
      go_wp2_with fail
      refine (sub_any 0 _ _ ⟨by omega, by omega⟩ hf).mono ?_
      rintro e w3 ⟨rfl, hw3⟩
      subst hw3
      unfold both
      go_wp2
      go_ret2
      refine ⟨?_, HB2.out⟩
      rw [HR1.out HG2.out, HA.out]
      rfl
    · rw [hh, if_pos rfl] at HA
      go_wp2
      go_ret2
      refine ⟨?_, HB2.out⟩
      rw [HR1.out HG2.out, HA.out, both_fit hf]
      rfl
  · rw [both_not hf]
    unfold both
    have HN : Hid (¬ Mn.Fit (Mn.amount (txt s))) := by
      show ¬ Mn.Fit (Mn.amount (txt s))
      rw [HA.out]
      by_cases hh : Mn.head (txt s) = true
      · rw [if_pos hh]; exact hf
      · rw [if_neg hh]
        unfold Mn.Fit at hf ⊢
        omega
    clear hf
    go_wp2
    go_ret2
    refine ⟨?_, HB2.out⟩
    rw [HR1.out HG2.out, both_not HN.out]
    rfl
theorem read_gen (s : ByteArray) (w0 w : World) (hb : Below w0.heap.size w0 w) (hs : s.size ≤ 140737488355328) :
    Calls Tryd.prog 18 #[.string s] w fun e w' => e = both (Mn.val (txt s)) (Mn.why (txt s)) ∧ Below w0.heap.size w0 w' :=
  (read_any s w hs).mono fun _ _ ⟨h1, h2⟩ => ⟨h1, hb.trans (h2.mono hb.size)⟩
end Go.Proofs.YtagofjnckdhopaaDoor
