/- THE DOCUMENT'S OWN ANSWER: impostref3's Digits. -/
import Derived.Test.YtgjfljpnlmebhaaDigits
namespace Go.Proofs.Ytgjfljpnlmebhaa
open Go.RowKit

theorem one_list (s : ByteArray) (hl : 0 < s.size) (h0 : (s[0]'hl).toNat = 48) : s.toList = [48] ↔ s.size ≤ 1 := by
  rw [tl]
  have h1 := txt_len s
  have h2 := head_at s hl
  constructor
  · intro e
    rw [e] at h1
    simp at h1
    omega
  · intro h
    cases e : txt s with
    | nil => rw [e] at h1; simp at h1; omega
    | cons b l =>
      rw [e] at h1 h2
      have : l = [] := List.eq_nil_of_length_eq_zero (by rw [List.length_cons] at h1; omega)
      subst this
      have h3 : b = s[0]'hl := by simpa using h2
      rw [h3]
      exact congrArg (fun x => [x]) (UInt8.toNat_inj.1 h0)
set_option maxHeartbeats 1000000 in
theorem refDigits_loop (s : ByteArray) (w : World) (hl : 0 < s.size) (h18 : s.size ≤ 18) (h3 : ¬ (s[0]'hl).toNat = 48 ∨ s.size ≤ 1) :
    Calls Try.prog 21 #[.string s] w fun e w' => e = told (Rn.digits (txt s)) ∧ Below w.heap.size w w' := by
  have HN : Hid (Rn.digits (txt s) = Rn.digGo 0 (Rn.runes (txt s))) := by
    refine digits_go s hl h18 ?_
    by_cases h4 : (s[0]'hl).toNat = 48
    · exact .inr ((one_list s hl h4).2 (h3.resolve_left (fun h => h h4)))
    · exact .inl h4
  have hn : ¬ s.toList = [] := by
    intro e
    have := txt_len s
    rw [← tl, e] at this
    simp at this
    omega
  have hn2 : s.toList.isEmpty = false := by cases e : s.toList with | nil => exact absurd e hn | cons _ _ => rfl
  have h18' : ¬ 18 < s.size := by omega
  go_enter Try.func21, Try.ntmps21
  have h3' : (¬ (s[0]'hl).toNat = 48 ∧ ((((s[0]'hl).toNat : Int) == 48) = false) ∧ 1 < s.size) ∨ s.size ≤ 1 := by
    by_cases h5 : s.size ≤ 1
    · exact .inr h5
    · have h6 := h3.resolve_right h5
      exact .inl ⟨h6, by simp; omega, by omega⟩
  clear h3
  rcases h3' with ⟨h3, h5, h4⟩ | h3
  all_goals (
    go_wp2
    clear h3 hn hn2
    go_loopw [4, 6] (fun v _ w' => ∃ (pos acc : Nat), w' = w.iter s pos ∧ v = .int .i64 acc ∧ Hid (Rn.digGo acc (Rn.runes ((txt s).drop pos)) = Rn.digGo 0 (Rn.runes (txt s))) ∧ Hid (acc < 10 ^ pos) ∧ pos ≤ s.size) (fun _ _ w' => s.size - w'.iterPos w.heap.size)
    case atStart => exact ⟨0, 0, rfl, rfl, by show _ = _; simp, by show _ < _; simp, by omega⟩
    case round =>
      obtain ⟨pos, acc, rfl, rfl, HC, HA, hb⟩ := hrel
      by_cases hp : pos < s.size
      · have hnx : ∀ ty, (Instr.next (.pointer (some ⟨w.heap.size, 0, none⟩)) true ty).run Try.prog (w.iter s pos) = _ := fun ty => run_next_any w s pos ty hp
        have hwd := dec_pos s pos
        have hle := dec_le s pos hp
        have hac : acc ≤ 99999999999999999 := by
          have h1 := HA.out
          have h2 : 10 ^ pos ≤ 10 ^ 17 := pow_mono (by omega)
          omega
        have HS : Hid (Rn.digGo acc (Rn.runes ((txt s).drop pos)) = if 48 ≤ (Utf8.decode s pos).1 ∧ (Utf8.decode s pos).1 ≤ 57 then Rn.digGo (10 * acc + ((Utf8.decode s pos).1 - 48)) (Rn.runes ((txt s).drop (pos + (Utf8.decode s pos).2))) else none) := by
          show _ = _
          rw [runes_at s pos hp, Rn.digGo]
        by_cases hd : 48 ≤ (Utf8.decode s pos).1 ∧ (Utf8.decode s pos).1 ≤ 57
        · obtain ⟨hd1, hd2⟩ := hd
          go_wp2
          go_roundw
          case rel =>
            refine ⟨pos + (Utf8.decode s pos).2, 10 * acc + ((Utf8.decode s pos).1 - 48), rfl, by go_num, ?_, ?_, by omega⟩
            · show _ = _
              rw [← HC.out, HS.out, if_pos ⟨hd1, hd2⟩]
            · show _ < _
              have h1 := HA.out
              have h2 : 10 ^ (pos + 1) ≤ 10 ^ (pos + (Utf8.decode s pos).2) := pow_mono (by omega)
              rw [Nat.pow_succ] at h2
              omega
          case measure =>
            simp
            omega
        · have hd' : (Utf8.decode s pos).1 < 48 ∨ (48 ≤ (Utf8.decode s pos).1 ∧ 57 < (Utf8.decode s pos).1) := by omega
          rcases hd' with d1 | ⟨d1, d2⟩
          all_goals (
            go_wp2
            go_ret2
            refine ⟨?_, below_iter w s _⟩
            rw [HN.out, ← HC.out, HS.out, if_neg hd]
            rfl)
      · have hnx : ∀ ty, (Instr.next (.pointer (some ⟨w.heap.size, 0, none⟩)) true ty).run Try.prog (w.iter s pos) = _ := fun ty => run_next_end w s pos ty hp
        go_wp2
        go_ret2
        refine ⟨?_, below_iter w s pos⟩
        rw [HN.out, ← HC.out, runes_end s pos hp]
        rfl)
theorem refDigits_any (s : ByteArray) (w : World) (hs : s.size ≤ 140737488355328) :
    Calls Try.prog 21 #[.string s] w fun e w' => e = told (Rn.digits (txt s)) ∧ Below w.heap.size w w' := by
  by_cases hn : s.toList = []
  · have HN : Hid (Rn.digits (txt s) = none) := digits_none s (.inl hn)
    go_enter Try.func21, Try.ntmps21
    go_wp2
    go_ret2
    exact ⟨by rw [HN.out]; rfl, Below.refl _ _⟩
  have hn2 : s.toList.isEmpty = false := by cases e : s.toList with | nil => exact absurd e hn | cons _ _ => rfl
  by_cases h18 : 18 < s.size
  · have HN : Hid (Rn.digits (txt s) = none) := digits_none s (.inr (.inl h18))
    go_enter Try.func21, Try.ntmps21
    go_wp2
    go_ret2
    exact ⟨by rw [HN.out]; rfl, Below.refl _ _⟩
  have hl : 0 < s.size := by
    rcases Nat.eq_zero_or_pos s.size with h | h
    · rw [tl] at hn
      exact absurd (List.eq_nil_of_length_eq_zero (by rw [txt_len]; exact h)) hn
    · exact h
  by_cases h3 : (s[0]'hl).toNat = 48
  · by_cases h4 : s.size ≤ 1
    · exact refDigits_loop s w hl (by omega) (.inr h4)
    · have HN : Hid (Rn.digits (txt s) = none) := digits_none s (.inr (.inr ⟨hl, h3, fun e => h4 ((one_list s hl h3).1 e)⟩))
      go_enter Try.func21, Try.ntmps21
      go_wp2
      go_ret2
      exact ⟨by rw [HN.out]; rfl, Below.refl _ _⟩
  · exact refDigits_loop s w hl (by omega) (.inl h3)
end Go.Proofs.Ytgjfljpnlmebhaa
