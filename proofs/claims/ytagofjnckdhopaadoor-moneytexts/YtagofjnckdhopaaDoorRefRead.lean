/- THE DOCUMENT's OWN ANSWER: impostref3.Read: any text. -/
import Derived.Test.YtagofjnckdhopaaDoorFormed
namespace Go.Proofs.YtagofjnckdhopaaDoor
open Go.RowKit

theorem all_but (l : List UInt8) (h4 : 4 ≤ l.length) : ((l.take (l.length - 3)).all Mn.dig && (l.drop (l.length - 2)).all Mn.dig) = true ↔ ∀ j (h : j < l.length), j ≠ l.length - 3 → Mn.dig l[j] = true := by
  rw [Bool.and_eq_true, List.all_eq_true, List.all_eq_true]
  constructor
  · rintro ⟨h1, h2⟩ j h hj
    by_cases hlt : j < l.length - 3
    · refine h1 _ ?_
      rw [List.mem_iff_getElem]
      exact ⟨j, by rw [List.length_take]; omega, List.getElem_take⟩
    · refine h2 _ ?_
      rw [List.mem_iff_getElem]
      exact ⟨j - (l.length - 2), by rw [List.length_drop]; omega, by rw [List.getElem_drop]; congr 1; omega⟩
  · intro h
    refine ⟨fun x hx => ?_, fun x hx => ?_⟩
    · obtain ⟨i, hi, rfl⟩ := List.mem_iff_getElem.1 hx
      rw [List.getElem_take]
      rw [List.length_take] at hi
      exact h i (by omega) (by omega)
    · obtain ⟨i, hi, rfl⟩ := List.mem_iff_getElem.1 hx
      rw [List.getElem_drop]
      rw [List.length_drop] at hi
      exact h _ (by omega) (by omega)
theorem formed_at (t : ByteArray) (h4 : 4 ≤ t.size) (h1 : 0 < t.size) (h3 : t.size - 3 < t.size) : Mn.formed (txt t) = (!(decide ((t[0]'h1).toNat = 48) && decide (4 < t.size)) && (decide ((t[t.size - 3]'h3).toNat = 46) && (((txt t).take (t.size - 3)).all Mn.dig && ((txt t).drop (t.size - 2)).all Mn.dig))) := by
  unfold Mn.formed
  rw [txt_len, decide_eq_true (show 4 ≤ t.size by omega), Bool.true_and, head_at t h1, get_at t _ h3]
  rw [decide_eq_decide.2 (some48 (t[0]'h1)), decide_eq_decide.2 (some46 (t[t.size - 3]'h3))]
def But (t : ByteArray) (k : Nat) : Prop := ∀ j (h : j < t.size), j < k → j ≠ t.size - 3 → Mn.dig (t[j]'h) = true
theorem txt_get (t : ByteArray) (j : Nat) (h : j < t.size) (h' : j < (txt t).length) : (txt t)[j] = t[j]'h := rfl
theorem but_formed (t : ByteArray) (h4 : 4 ≤ t.size) (h1 : 0 < t.size) (h3 : t.size - 3 < t.size) (hx : ¬ ((t[0]'h1).toNat = 48 ∧ 4 < t.size)) (hy : (t[t.size - 3]'h3).toNat = 46) (hb : But t t.size) : Mn.formed (txt t) = true := by
  rw [formed_at t h4 h1 h3, decide_eq_true hy, Bool.true_and]
  have ha := (all_but (txt t) (by rw [txt_len]; exact h4)).2 (fun j h hj => by
    rw [txt_get t j (by rw [← txt_len]; exact h) h]
    rw [txt_len] at hj
    exact hb j _ (by rw [← txt_len]; exact h) hj)
  rw [txt_len] at ha
  rw [ha, Bool.and_true, Bool.not_eq_true', Bool.and_eq_false_iff, decide_eq_false_iff_not, decide_eq_false_iff_not]
  by_cases h : (t[0]'h1).toNat = 48
  · exact .inr (fun h2 => hx ⟨h, h2⟩)
  · exact .inl h
theorem formed_but (t : ByteArray) (h4 : 4 ≤ t.size) (hf : Mn.formed (txt t) = true) : But t t.size := by
  rw [formed_at t h4 (by omega) (by omega), Bool.and_eq_true, Bool.and_eq_true] at hf
  have h := hf.2.2
  have h2 := (all_but (txt t) (by rw [txt_len]; exact h4)).1 (by rw [txt_len]; exact h)
  intro j hj _ hne
  have := h2 j (by rw [txt_len]; exact hj) (by rw [txt_len]; exact hne)
  exact this
theorem worth_step (t : ByteArray) (k : Nat) (h : k < t.size) : Mn.worth 0 ((txt t).take (k + 1)) = if (t[k]'h).toNat = 46 then Mn.worth 0 ((txt t).take k) else 10 * Mn.worth 0 ((txt t).take k) + ((t[k]'h).toNat - 48) := by
  rw [List.take_succ_eq_append_getElem (by rw [txt_len]; exact h), Mn.worth_app, Mn.worth_cons, Mn.worth_nil]
  rfl
theorem worth_all (t : ByteArray) : Mn.worth 0 ((txt t).take t.size) = Mn.worth 0 (txt t) := by
  rw [List.take_of_length_le (by rw [txt_len]; exact Nat.le_refl _)]
/-- what has been read: exactly, or too much -/
def Told (acc : Nat) (u : Int) (over : Bool) : Prop := (over = false ∧ u = acc ∧ acc ≤ 9223372036854775808) ∨ (over = true ∧ 9223372036854775808 < acc ∧ 0 ≤ u ∧ u < 18446744073709551616)
theorem not_formed_short (t : ByteArray) (h : t.size < 4) : Mn.formed (txt t) = false := by
  unfold Mn.formed
  rw [txt_len, decide_eq_false (by omega)]
  rfl
theorem not_formed_dot (t : ByteArray) (h4 : 4 ≤ t.size) (h3 : t.size - 3 < t.size) (h : ¬ (t[t.size - 3]'h3).toNat = 46) : Mn.formed (txt t) = false := by
  rw [formed_at t h4 (by omega) h3, decide_eq_false h, Bool.false_and, Bool.and_false]
theorem not_formed_nought (t : ByteArray) (h4 : 4 < t.size) (h1 : 0 < t.size) (h : (t[0]'h1).toNat = 48) : Mn.formed (txt t) = false := by
  rw [formed_at t (by omega) h1 (by omega), decide_eq_true h, decide_eq_true h4]
  rfl
theorem not_formed_dig (t : ByteArray) (h4 : 4 ≤ t.size) (k : Nat) (hk : k < t.size) (hne : k ≠ t.size - 3) (h : Mn.dig (t[k]'hk) = false) : Mn.formed (txt t) = false := by
  cases hf : Mn.formed (txt t) with
  | false => rfl
  | true => rw [formed_but t h4 hf k hk hk hne] at h; cases h
theorem good_not (s : ByteArray) (t : ByteArray) (ht : txt t = Mn.rest (txt s)) (h : Mn.formed (txt t) = false) : both (Mn.val (txt s)) (Mn.why (txt s)) = both 0 4 := by
  apply read_none
  unfold Mn.good
  rw [← ht, h]
  rfl
theorem nay_minus (s t : ByteArray) (ht : txt t = Mn.rest (txt s)) (hf : Mn.formed (txt t) = true) (hh : Mn.head (txt s) = true) : txt s = Mn.nay ↔ Mn.worth 0 (txt t) = 0 := by
  have hb := Mn.shown_bare _ hf
  have hs : txt s = 45 :: txt t := by
    rw [ht]
    cases h : txt s with
    | nil => rw [h] at hh; exact absurd hh (by decide)
    | cons b l =>
      rw [h] at hh
      have h45 : b = 45 := by
        unfold Mn.head at hh
        simp only [List.isPrefixOf, Bool.and_true] at hh
        exact (eq_of_beq hh).symm
      rw [Mn.rest, if_pos hh, h45]
      rfl
  rw [hs, Mn.nay_bare]
  constructor
  · intro e
    have e' : txt t = Mn.bare 0 := by simpa using e
    rw [e']
    exact (Mn.formed_bare 0).2
  · intro e
    rw [e] at hb
    rw [hb]
theorem nay_plain (s : ByteArray) (hh : Mn.head (txt s) = false) : txt s ≠ Mn.nay := fun e => by
  rw [e] at hh
  exact absurd hh (by decide)
theorem read_minus (s t : ByteArray) (ht : txt t = Mn.rest (txt s)) (hf : Mn.formed (txt t) = true) (hh : Mn.head (txt s) = true) (h0 : Mn.worth 0 (txt t) ≠ 0) : both (Mn.val (txt s)) (Mn.why (txt s)) = both (Mn.amt (-(Mn.worth 0 (txt t) : Int))) (Mn.err (-(Mn.worth 0 (txt t) : Int))) := by
  rw [read_some]
  · unfold Mn.amount
    rw [if_pos hh, ← ht]
  · unfold Mn.good
    rw [← ht, hf, Bool.true_and, Bool.not_eq_true', decide_eq_false_iff_not]
    exact fun e => h0 ((nay_minus s t ht hf hh).1 e)
theorem read_zero (s t : ByteArray) (ht : txt t = Mn.rest (txt s)) (hf : Mn.formed (txt t) = true) (hh : Mn.head (txt s) = true) (h0 : Mn.worth 0 (txt t) = 0) : both (Mn.val (txt s)) (Mn.why (txt s)) = both 0 4 := by
  apply read_none
  unfold Mn.good
  rw [← ht, hf, Bool.true_and, Bool.not_eq_false', decide_eq_true_iff]
  exact (nay_minus s t ht hf hh).2 h0
theorem read_plain (s : ByteArray) (hf : Mn.formed (txt s) = true) (hh : Mn.head (txt s) = false) : both (Mn.val (txt s)) (Mn.why (txt s)) = both (Mn.amt (Mn.worth 0 (txt s) : Int)) (Mn.err (Mn.worth 0 (txt s) : Int)) := by
  have hr : Mn.rest (txt s) = txt s := by rw [Mn.rest, hh]; rfl
  rw [read_some]
  · unfold Mn.amount
    rw [hh, hr]
    rfl
  · unfold Mn.good
    rw [hr, hf, Bool.true_and, Bool.not_eq_true', decide_eq_false_iff_not]
    exact nay_plain s hh
theorem told_step (acc : Nat) (u : Int) (over : Bool) (d : Nat) (hd : d ≤ 9) (h : Told acc u over) (hov : over = true ∨ (9223372036854775808 - (d : Int)) / 10 < u) (u' : Int) (hu : 0 ≤ u' ∧ u' < 18446744073709551616) : Told (10 * acc + d) u' true := by
  refine .inr ⟨rfl, ?_, hu.1, hu.2⟩
  rcases h with ⟨h1, h2, h3⟩ | ⟨_, h2, _⟩
  · rcases hov with h4 | h4
    · rw [h1] at h4; cases h4
    · omega
  · omega
theorem wrap_in (x : Int) : 0 ≤ IntKind.u64.wrap x ∧ IntKind.u64.wrap x < 18446744073709551616 := by
  rw [IntKind.wrap_u64]
  omega
theorem two_eq {a b c d : Int} (h1 : a = c) (h2 : b = d) : Ending.returned (.tuple #[.int .i64 a, .int .i64 b]) = both c d := by rw [h1, h2]; rfl
theorem head_minus (s : ByteArray) (h : 0 < s.size) : Mn.head (txt s) = decide ((s[0]'h).toNat = 45) := by
  have hh := head_at s h
  unfold Mn.head
  cases hl : txt s with
  | nil => rw [hl] at hh; cases hh
  | cons b l =>
    rw [hl] at hh
    have hb : b = s[0]'h := Option.some.inj hh
    rw [← hb]
    simp only [List.isPrefixOf, Bool.and_true]
    rw [Bool.eq_iff_iff, decide_eq_true_iff, beq_iff_eq, ← UInt8.toNat_inj]
    exact ⟨fun h => h.symm, fun h => h.symm⟩

set_option maxHeartbeats 4000000 in
theorem refRead_minus (s : ByteArray) (w : World) (hs : s.size ≤ 140737488355328) (h0 : 0 < s.size) (hm : (s[0]'h0).toNat = 45) :
    Calls Tryd.prog 19 #[.string s] w fun e w' => e = both (Mn.val (txt s)) (Mn.why (txt s)) ∧ Below w.heap.size w w' := by
  have HH : Hid (Mn.head (txt s) = true) := by
    show _ = _
    rw [head_minus s h0, decide_eq_true hm]
  obtain ⟨t, ht, hsl⟩ := slice_from s 1 (by omega) (by omega)
  have hts : t.size + 1 = s.size := by
    have := congrArg List.length ht
    rw [txt_len, List.length_drop, txt_len] at this
    simp at this
    omega
  have HT : Hid (txt t = Mn.rest (txt s)) := by
    show _ = _
    rw [Mn.rest, if_pos HH.out]
    exact ht
  clear ht
  go_enter Tryd.func19, Tryd.ntmps19
  by_cases h4 : t.size < 4
  · have HR := Lib.hid (good_not s t HT.out (not_formed_short t h4))
    go_wp2
    go_ret2
    exact ⟨HR.out.symm, Below.refl _ _⟩
  have h1 : 0 < t.size := by omega
  have h3 : t.size - 3 < t.size := by omega
  obtain ⟨x, hx⟩ : ∃ x, t[0]'h1 = x := ⟨_, rfl⟩
  obtain ⟨y, hy⟩ : ∃ y, t[t.size - 3]'h3 = y := ⟨_, rfl⟩
  rcases Nat.decEq y.toNat 46 with hd | hd
  · have HR := Lib.hid (good_not s t HT.out (not_formed_dot t (by omega) h3 (by rw [hy]; exact hd)))
    have hd' : ((y.toNat : Int) != 46) = true := by rw [bne_iff_ne]; omega
    go_wp2
    go_ret2
    exact ⟨HR.out.symm, Below.refl _ _⟩
  have hd' : ((y.toNat : Int) != 46) = false := by rw [bne_eq_false_iff_eq]; omega
  have hor : (4 < t.size ∧ x.toNat = 48) ∨ (4 < t.size ∧ ¬ x.toNat = 48) ∨ ¬ 4 < t.size := by omega
  rcases hor with ⟨h5, hz⟩ | hor
  · have HR := Lib.hid (good_not s t HT.out (not_formed_nought t h5 h1 (by rw [hx]; exact hz)))
    go_wp2
    go_ret2
    exact ⟨HR.out.symm, Below.refl _ _⟩
  have HFB : Hid (But t t.size → Mn.formed (txt t) = true) := fun hb => but_formed t (by omega) h1 h3 (by rw [hx]; omega) (by rw [hy]; exact hd) hb
  have HY : Hid ((t[t.size - 3]'h3).toNat = 46) := by
    show _ = _
    rw [hy]
    exact hd
  have h4' : ¬ ((t.size : Int) < 4) := by omega
  have hor2 : ((4 : Int) < (t.size : Int) ∧ ((x.toNat : Int) == 48) = false) ∨ (¬ (4 : Int) < (t.size : Int) ∧ True) := by
    rcases hor with ⟨h5, hz⟩ | h5
    · exact .inl ⟨by omega, beq_eq_false_iff_ne.2 (by omega)⟩
    · exact .inr ⟨by omega, trivial⟩
  clear hor
  rcases hor2 with ⟨h5, hz⟩ | ⟨h5, hz⟩
  all_goals (
    go_wp2
    clear hd hd' hx hy hz
    go_loopw [6, 7, 8, 9] (fun v o i _ w' => ∃ (k acc : Nat) (u : Int) (over : Bool), k ≤ t.size ∧ i = .int .i64 k ∧ v = .int .u64 u ∧ o = .bool over ∧ Hid (But t k) ∧ Hid (Mn.worth 0 ((txt t).take k) = acc) ∧ Hid (Told acc u over) ∧ Below w.heap.size w w') (fun _ _ i _ _ => t.size - (intOf i).toNat)
    case atStart => exact ⟨0, 0, 0, false, Nat.zero_le _, rfl, rfl, rfl, fun j _ h _ => by omega, rfl, .inl ⟨rfl, rfl, by omega⟩, Below.refl _ _⟩
    case round =>
      obtain ⟨k, acc, u, over, hk, rfl, rfl, rfl, HB, HW, HK, hbw⟩ := hrel
      have HBW := Lib.hid hbw
      clear hbw
      by_cases hlt : k < t.size
      · have hlt' : (k : Int) < (t.size : Int) := by omega
        by_cases h46 : k = t.size - 3
        · have h46' : ((k : Int) == (t.size : Int) - 3) = true := beq_iff_eq.2 (by omega)
          have HW2 : Hid (Mn.worth 0 ((txt t).take (k + 1)) = acc) := by
            show _ = _
            rw [worth_step t k hlt, if_pos (by have := HY.out; subst h46; exact this)]
            exact HW.out
          go_wp2
          go_roundw
          case rel => exact ⟨k + 1, acc, u, over, by omega, by go_num, rfl, rfl, fun j h hj hne => HB.out j h (by omega) hne, HW2.out, HK.out, HBW.out⟩
          case measure => simp [intOf]; omega
        · have h46' : ((k : Int) == (t.size : Int) - 3) = false := beq_eq_false_iff_ne.2 (by omega)
          obtain ⟨b, hb⟩ : ∃ b, t[k]'hlt = b := ⟨_, rfl⟩
          have hd46 : b.toNat < 256 := UInt8.toNat_lt b
          by_cases hlo : b.toNat < 48
          · have HR := Lib.hid (good_not s t HT.out (not_formed_dig t (by omega) k hlt h46 (by rw [hb]; exact decide_eq_false (by omega))))
            have hlo' : (b.toNat : Int) < 48 := by omega
            go_wp2
            go_ret2
            exact ⟨HR.out.symm, HBW.out⟩
          by_cases hhi : 57 < b.toNat
          · have HR := Lib.hid (good_not s t HT.out (not_formed_dig t (by omega) k hlt h46 (by rw [hb]; exact decide_eq_false (by omega))))
            have hlo' : ¬ (b.toNat : Int) < 48 := by omega
            have hhi' : 57 < (b.toNat : Int) := by omega
            go_wp2
            go_ret2
            exact ⟨HR.out.symm, HBW.out⟩
          have hlo' : ¬ (b.toNat : Int) < 48 := by omega
          have hhi' : ¬ 57 < (b.toNat : Int) := by omega
          have HW2 : Hid (Mn.worth 0 ((txt t).take (k + 1)) = 10 * acc + (b.toNat - 48)) := by
            show _ = _
            rw [worth_step t k hlt, hb, if_neg (by omega), HW.out]
          have HB2 : Hid (But t (k + 1)) := fun j h hj hne => by
            rcases Nat.lt_or_ge j k with hjk | hjk
            · exact HB.out j h hjk hne
            · have hjk2 : j = k := by omega
              subst hjk2
              rw [hb]
              exact decide_eq_true (by omega)
          clear HB HW
          rcases HK.out with ⟨rfl, rfl, hle⟩ | ⟨rfl, hov, hu0, hu1⟩
          · by_cases hq : (9223372036854775808 - ((b.toNat : Int) - 48)) / 10 < (acc : Int)
            · have HK2 := Lib.hid (told_step acc acc false (b.toNat - 48) (by omega) HK.out (.inr (by omega)))
              clear HK
              go_wp2
              go_roundw
              case rel => exact ⟨k + 1, 10 * acc + (b.toNat - 48), _, true, by omega, by go_num, rfl, rfl, HB2.out, HW2.out, HK2.out _ (by first | exact wrap_in _ | omega), HBW.out⟩
              case measure => simp [intOf]; omega
            · have hfit : (acc : Int) * 10 + ((b.toNat : Int) - 48) ≤ 9223372036854775808 := by omega
              clear HK
              go_wp2
              go_roundw
              case rel => exact ⟨k + 1, 10 * acc + (b.toNat - 48), (acc : Int) * 10 + ((b.toNat : Int) - 48), false, by omega, by go_num, by go_num, rfl, HB2.out, HW2.out, .inl ⟨rfl, by omega, by omega⟩, HBW.out⟩
              case measure => simp [intOf]; omega
          · have HK2 := Lib.hid (told_step acc u true (b.toNat - 48) (by omega) HK.out (.inl rfl))
            clear HK
            by_cases hq : (9223372036854775808 - ((b.toNat : Int) - 48)) / 10 < u
            · go_wp2
              go_roundw
              case rel => exact ⟨k + 1, 10 * acc + (b.toNat - 48), _, true, by omega, by go_num, rfl, rfl, HB2.out, HW2.out, HK2.out _ (by first | exact wrap_in _ | omega), HBW.out⟩
              case measure => simp [intOf]; omega
            · go_wp2
              go_roundw
              case rel => exact ⟨k + 1, 10 * acc + (b.toNat - 48), _, true, by omega, by go_num, rfl, rfl, HB2.out, HW2.out, HK2.out _ (by first | exact wrap_in _ | omega), HBW.out⟩
              case measure => simp [intOf]; omega
      · have hlt' : ¬ (k : Int) < (t.size : Int) := by omega
        have hkt : k = t.size := by omega
        have HFM : Hid (Mn.formed (txt t) = true) := HFB.out (by rw [← hkt]; exact HB.out)
        have HWA : Hid (Mn.worth 0 (txt t) = acc) := by
          show _ = _
          rw [← worth_all t, ← hkt]
          exact HW.out
        clear HB HW
        have hts' : (t.size : Int) < (s.size : Int) := by omega
        by_cases hz0 : acc = 0
        · subst hz0
          have HR := Lib.hid (read_zero s t HT.out HFM.out HH.out HWA.out)
          rcases HK.out with ⟨rfl, rfl, hle⟩ | ⟨rfl, hov, hu0, hu1⟩
          · go_wp2
            go_ret2
            exact ⟨HR.out.symm, HBW.out⟩
          · omega
        have HR : Hid (both (Mn.val (txt s)) (Mn.why (txt s)) = both (Mn.amt (-(acc : Int))) (Mn.err (-(acc : Int)))) := by
          have h := read_minus s t HT.out HFM.out HH.out (by rw [HWA.out]; exact hz0)
          rw [HWA.out] at h
          exact h
        rcases HK.out with ⟨rfl, rfl, hle⟩ | ⟨rfl, hov, hu0, hu1⟩
        · have hnz : ((acc : Int) == 0) = false := beq_eq_false_iff_ne.2 (by omega)
          clear HK
          by_cases hmo : (9223372036854775807 : Int) < (acc : Int)
          · go_wp2
            go_ret2
            refine ⟨?_, HBW.out⟩
            rw [HR.out, both_fit ⟨by omega, by omega⟩]
            refine two_eq ?_ rfl
            omega
          · go_wp2
            go_ret2
            refine ⟨?_, HBW.out⟩
            rw [HR.out, both_fit ⟨by omega, by omega⟩]
            refine two_eq ?_ rfl
            omega
        · clear HK
          have hu := Int.decEq u 0
          rcases hu with hu | hu
          · have hnz : (u == 0) = false := beq_eq_false_iff_ne.2 hu
            go_wp2
            go_ret2
            refine ⟨?_, HBW.out⟩
            rw [HR.out, both_not (fun h => by unfold Mn.Fit at h; omega)]
            rfl
          · subst hu
            go_wp2
            go_ret2
            refine ⟨?_, HBW.out⟩
            rw [HR.out, both_not (fun h => by unfold Mn.Fit at h; omega)]
            rfl)
set_option maxHeartbeats 4000000 in
theorem refRead_plain (s : ByteArray) (w : World) (hs : s.size ≤ 140737488355328) (h0 : 0 < s.size) (hm : ¬ (s[0]'h0).toNat = 45) :
    Calls Tryd.prog 19 #[.string s] w fun e w' => e = both (Mn.val (txt s)) (Mn.why (txt s)) ∧ Below w.heap.size w w' := by
  have HH : Hid (Mn.head (txt s) = false) := by
    show _ = _
    rw [head_minus s h0, decide_eq_false hm]
  have HT : Hid (txt s = Mn.rest (txt s)) := by
    show _ = _
    rw [Mn.rest, HH.out]
    rfl
  obtain ⟨x, hx⟩ : ∃ x, s[0]'h0 = x := ⟨_, rfl⟩
  rw [hx] at hm
  have hm' : ((x.toNat : Int) == 45) = false := beq_eq_false_iff_ne.2 (by omega)
  go_enter Tryd.func19, Tryd.ntmps19
  by_cases h4 : s.size < 4
  · have HR := Lib.hid (good_not s s HT.out (not_formed_short s h4))
    go_wp2
    go_ret2
    exact ⟨HR.out.symm, Below.refl _ _⟩
  have h1 : 0 < s.size := by omega
  have h3 : s.size - 3 < s.size := by omega
  obtain ⟨y, hy⟩ : ∃ y, s[s.size - 3]'h3 = y := ⟨_, rfl⟩
  rcases Nat.decEq y.toNat 46 with hd | hd
  · have HR := Lib.hid (good_not s s HT.out (not_formed_dot s (by omega) h3 (by rw [hy]; exact hd)))
    have hd' : ((y.toNat : Int) != 46) = true := by rw [bne_iff_ne]; omega
    go_wp2
    go_ret2
    exact ⟨HR.out.symm, Below.refl _ _⟩
  have hd' : ((y.toNat : Int) != 46) = false := by rw [bne_eq_false_iff_eq]; omega
  have hor : (4 < s.size ∧ x.toNat = 48) ∨ (4 < s.size ∧ ¬ x.toNat = 48) ∨ ¬ 4 < s.size := by omega
  rcases hor with ⟨h5, hz⟩ | hor
  · have HR := Lib.hid (good_not s s HT.out (not_formed_nought s h5 h1 (by rw [hx]; exact hz)))
    go_wp2
    go_ret2
    exact ⟨HR.out.symm, Below.refl _ _⟩
  have HFB : Hid (But s s.size → Mn.formed (txt s) = true) := fun hb => but_formed s (by omega) h1 h3 (by rw [hx]; omega) (by rw [hy]; exact hd) hb
  have HY : Hid ((s[s.size - 3]'h3).toNat = 46) := by
    show _ = _
    rw [hy]
    exact hd
  have h4' : ¬ ((s.size : Int) < 4) := by omega
  have hor2 : ((4 : Int) < (s.size : Int) ∧ ((x.toNat : Int) == 48) = false) ∨ (¬ (4 : Int) < (s.size : Int) ∧ True) := by
    rcases hor with ⟨h5, hz⟩ | h5
    · exact .inl ⟨by omega, beq_eq_false_iff_ne.2 (by omega)⟩
    · exact .inr ⟨by omega, trivial⟩
  clear hor
  rcases hor2 with ⟨h5, hz⟩ | ⟨h5, hz⟩
  all_goals (
    go_wp2
    clear hd hd' hx hy hz
    go_loopw [6, 7, 8, 9] (fun v o i _ w' => ∃ (k acc : Nat) (u : Int) (over : Bool), k ≤ s.size ∧ i = .int .i64 k ∧ v = .int .u64 u ∧ o = .bool over ∧ Hid (But s k) ∧ Hid (Mn.worth 0 ((txt s).take k) = acc) ∧ Hid (Told acc u over) ∧ Below w.heap.size w w') (fun _ _ i _ _ => s.size - (intOf i).toNat)
    case atStart => exact ⟨0, 0, 0, false, Nat.zero_le _, rfl, rfl, rfl, fun j _ h _ => by omega, rfl, .inl ⟨rfl, rfl, by omega⟩, Below.refl _ _⟩
    case round =>
      obtain ⟨k, acc, u, over, hk, rfl, rfl, rfl, HB, HW, HK, hbw⟩ := hrel
      have HBW := Lib.hid hbw
      clear hbw
      by_cases hlt : k < s.size
      · have hlt' : (k : Int) < (s.size : Int) := by omega
        by_cases h46 : k = s.size - 3
        · have h46' : ((k : Int) == (s.size : Int) - 3) = true := beq_iff_eq.2 (by omega)
          have HW2 : Hid (Mn.worth 0 ((txt s).take (k + 1)) = acc) := by
            show _ = _
            rw [worth_step s k hlt, if_pos (by have := HY.out; subst h46; exact this)]
            exact HW.out
          go_wp2
          go_roundw
          case rel => exact ⟨k + 1, acc, u, over, by omega, by go_num, rfl, rfl, fun j h hj hne => HB.out j h (by omega) hne, HW2.out, HK.out, HBW.out⟩
          case measure => simp [intOf]; omega
        · have h46' : ((k : Int) == (s.size : Int) - 3) = false := beq_eq_false_iff_ne.2 (by omega)
          obtain ⟨b, hb⟩ : ∃ b, s[k]'hlt = b := ⟨_, rfl⟩
          have hd46 : b.toNat < 256 := UInt8.toNat_lt b
          by_cases hlo : b.toNat < 48
          · have HR := Lib.hid (good_not s s HT.out (not_formed_dig s (by omega) k hlt h46 (by rw [hb]; exact decide_eq_false (by omega))))
            have hlo' : (b.toNat : Int) < 48 := by omega
            go_wp2
            go_ret2
            exact ⟨HR.out.symm, HBW.out⟩
          by_cases hhi : 57 < b.toNat
          · have HR := Lib.hid (good_not s s HT.out (not_formed_dig s (by omega) k hlt h46 (by rw [hb]; exact decide_eq_false (by omega))))
            have hlo' : ¬ (b.toNat : Int) < 48 := by omega
            have hhi' : 57 < (b.toNat : Int) := by omega
            go_wp2
            go_ret2
            exact ⟨HR.out.symm, HBW.out⟩
          have hlo' : ¬ (b.toNat : Int) < 48 := by omega
          have hhi' : ¬ 57 < (b.toNat : Int) := by omega
          have HW2 : Hid (Mn.worth 0 ((txt s).take (k + 1)) = 10 * acc + (b.toNat - 48)) := by
            show _ = _
            rw [worth_step s k hlt, hb, if_neg (by omega), HW.out]
          have HB2 : Hid (But s (k + 1)) := fun j h hj hne => by
            rcases Nat.lt_or_ge j k with hjk | hjk
            · exact HB.out j h hjk hne
            · have hjk2 : j = k := by omega
              subst hjk2
              rw [hb]
              exact decide_eq_true (by omega)
          clear HB HW
          rcases HK.out with ⟨rfl, rfl, hle⟩ | ⟨rfl, hov, hu0, hu1⟩
          · by_cases hq : (9223372036854775808 - ((b.toNat : Int) - 48)) / 10 < (acc : Int)
            · have HK2 := Lib.hid (told_step acc acc false (b.toNat - 48) (by omega) HK.out (.inr (by omega)))
              clear HK
              go_wp2
              go_roundw
              case rel => exact ⟨k + 1, 10 * acc + (b.toNat - 48), _, true, by omega, by go_num, rfl, rfl, HB2.out, HW2.out, HK2.out _ (by first | exact wrap_in _ | omega), HBW.out⟩
              case measure => simp [intOf]; omega
            · have hfit : (acc : Int) * 10 + ((b.toNat : Int) - 48) ≤ 9223372036854775808 := by omega
              clear HK
              go_wp2
              go_roundw
              case rel => exact ⟨k + 1, 10 * acc + (b.toNat - 48), (acc : Int) * 10 + ((b.toNat : Int) - 48), false, by omega, by go_num, by go_num, rfl, HB2.out, HW2.out, .inl ⟨rfl, by omega, by omega⟩, HBW.out⟩
              case measure => simp [intOf]; omega
          · have HK2 := Lib.hid (told_step acc u true (b.toNat - 48) (by omega) HK.out (.inl rfl))
            clear HK
            by_cases hq : (9223372036854775808 - ((b.toNat : Int) - 48)) / 10 < u
            · go_wp2
              go_roundw
              case rel => exact ⟨k + 1, 10 * acc + (b.toNat - 48), _, true, by omega, by go_num, rfl, rfl, HB2.out, HW2.out, HK2.out _ (by first | exact wrap_in _ | omega), HBW.out⟩
              case measure => simp [intOf]; omega
            · go_wp2
              go_roundw
              case rel => exact ⟨k + 1, 10 * acc + (b.toNat - 48), _, true, by omega, by go_num, rfl, rfl, HB2.out, HW2.out, HK2.out _ (by first | exact wrap_in _ | omega), HBW.out⟩
              case measure => simp [intOf]; omega
      · have hlt' : ¬ (k : Int) < (s.size : Int) := by omega
        have hkt : k = s.size := by omega
        have HFM : Hid (Mn.formed (txt s) = true) := HFB.out (by rw [← hkt]; exact HB.out)
        have HWA : Hid (Mn.worth 0 (txt s) = acc) := by
          show _ = _
          rw [← worth_all s, ← hkt]
          exact HW.out
        clear HB HW
        have HR : Hid (both (Mn.val (txt s)) (Mn.why (txt s)) = both (Mn.amt (acc : Int)) (Mn.err (acc : Int))) := by
          have h := read_plain s HFM.out HH.out
          rw [HWA.out] at h
          exact h
        rcases HK.out with ⟨rfl, rfl, hle⟩ | ⟨rfl, hov, hu0, hu1⟩
        · clear HK
          by_cases hmo : (9223372036854775807 : Int) < (acc : Int)
          · go_wp2
            go_ret2
            refine ⟨?_, HBW.out⟩
            rw [HR.out, both_not (fun h => by unfold Mn.Fit at h; omega)]
            rfl
          · go_wp2
            go_ret2
            refine ⟨?_, HBW.out⟩
            rw [HR.out, both_fit ⟨by omega, by omega⟩]
            rfl
        · clear HK
          go_wp2
          go_ret2
          refine ⟨?_, HBW.out⟩
          rw [HR.out, both_not (fun h => by unfold Mn.Fit at h; omega)]
          rfl)
theorem refRead_any (s : ByteArray) (w : World) (hs : s.size ≤ 140737488355328) :
    Calls Tryd.prog 19 #[.string s] w fun e w' => e = both (Mn.val (txt s)) (Mn.why (txt s)) ∧ Below w.heap.size w w' := by
  by_cases h0 : 0 < s.size
  · by_cases hm : (s[0]'h0).toNat = 45
    · exact refRead_minus s w hs h0 hm
    · exact refRead_plain s w hs h0 hm
  · have hnil : txt s = [] := List.eq_nil_of_length_eq_zero (by rw [txt_len]; omega)
    have HR : Hid (both (Mn.val (txt s)) (Mn.why (txt s)) = both 0 4) := good_not s s (by rw [hnil]; rfl) (not_formed_short s (by omega))
    have hz : s.size = 0 := by omega
    clear h0 hnil
    go_enter Tryd.func19, Tryd.ntmps19
    go_wp2
    go_ret2
    exact ⟨HR.out.symm, Below.refl _ _⟩
end Go.Proofs.YtagofjnckdhopaaDoor
