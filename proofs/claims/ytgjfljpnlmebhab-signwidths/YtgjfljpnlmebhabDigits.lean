/- CONTRACT OF sign.Digits: any text. -/
import Derived.Test.YtgjfljpnlmebhabSignLoops
namespace Go.Proofs.Ytgjfljpnlmebhab
open Go.RowKit

def told (o : Option Nat) : Ending := .returned (.tuple #[.int .i64 ((o.getD 0 : Nat) : Int), .bool o.isSome])
theorem head_at (s : ByteArray) (h : 0 < s.size) : (txt s).head? = some (s[0]'h) := by
  unfold txt
  rw [List.head?_eq_getElem?, List.getElem?_eq_getElem (by rw [Array.length_toList]; exact h)]
  rfl
theorem digits_none (s : ByteArray) (h : s.toList = [] ∨ 18 < s.size ∨ (∃ h : 0 < s.size, (s[0]'h).toNat = 48 ∧ s.toList ≠ [48])) : Rn.digits (txt s) = none := by
  unfold Rn.digits
  rw [if_pos]
  rcases h with h | h | ⟨h1, h2, h3⟩
  · rw [tl] at h; exact .inl h
  · exact .inr (.inl (by rw [txt_len]; exact h))
  · rw [tl] at h3
    exact .inr (.inr ⟨by rw [head_at s h1]; exact congrArg some (UInt8.toNat_inj.1 h2), h3⟩)
theorem digits_go (s : ByteArray) (hl : 0 < s.size) (h2 : s.size ≤ 18) (h3 : (s[0]'hl).toNat ≠ 48 ∨ s.toList = [48]) : Rn.digits (txt s) = Rn.digGo 0 (Rn.runes (txt s)) := by
  unfold Rn.digits
  rw [if_neg]
  rintro (e | e | e)
  · have := txt_len s
    rw [e] at this
    simp at this
    omega
  · rw [txt_len] at e; omega
  · rcases h3 with h3 | h3
    · rw [head_at s hl] at e
      exact h3 (by rw [Option.some.inj e.1]; rfl)
    · rw [tl] at h3
      exact e.2 h3
theorem pow_mono {a b : Nat} (h : a ≤ b) : 10 ^ a ≤ 10 ^ b := Nat.pow_le_pow_right (by omega) h

set_option maxHeartbeats 1000000 in
theorem digits_loop (s : ByteArray) (w : World) (hl : 0 < s.size) (h18 : s.size ≤ 18) (h3 : (s[0]'hl).toNat ≠ 48 ∨ s.toList = [48]) :
    Calls Try.prog 9 #[.string s] w fun e w' => e = told (Rn.digits (txt s)) ∧ Below w.heap.size w w' := by
  have HN : Hid (Rn.digits (txt s) = Rn.digGo 0 (Rn.runes (txt s))) := digits_go s hl h18 h3
  have hn : ¬ s.toList = [] := by
    intro e
    have := txt_len s
    rw [← tl, e] at this
    simp at this
    omega
  have hn2 : s.toList.isEmpty = false := by cases e : s.toList with | nil => exact absurd e hn | cons _ _ => rfl
  have h18' : ¬ 18 < s.size := by omega
  go_enter Try.func9, Try.ntmps9
  have h3' : (s[0]'hl).toNat ≠ 48 ∨ ((s[0]'hl).toNat = 48 ∧ s.toList = [48]) := by
    by_cases h4 : (s[0]'hl).toNat = 48
    · exact .inr ⟨h4, h3.resolve_left (fun h => h h4)⟩
    · exact .inl h4
  clear h3
  rcases h3' with h3 | ⟨h4, h3⟩
  all_goals (
    go_wp2
    clear h3 hn hn2
    go_loopw [4, 6] (fun v _ w' => ∃ (pos acc : Nat), w' = w.iter s pos ∧ v = .int .i64 acc ∧ Hid (Rn.digGo acc (Rn.runes ((txt s).drop pos)) = Rn.digGo 0 (Rn.runes (txt s))) ∧ Hid (acc < 10 ^ pos) ∧ pos ≤ s.size) (fun _ _ w' => s.size - w'.iterPos w.heap.size)
    case atStart => exact ⟨0, 0, rfl, rfl, by show _ = _; simp, by show _ < _; simp, by omega⟩
    case round =>
      obtain ⟨pos, acc, rfl, rfl, HC, HA, hb⟩ := hrel
      by_cases hp : pos < s.size
      · have hnx : ∀ ty, (Instr.next (.pointer (some ⟨w.heap.size, 0, none⟩)) true ty).run Try.prog (w.iter s pos) = _ := fun ty => run_next_any w s pos ty hp
        have hwd := dec_pos s pos
        have hle := dec_le s pos hp
        have hac : acc ≤ 99999999999999999 := by
          have h1 := HA.out
          have h2 : 10 ^ pos ≤ 10 ^ 17 := pow_mono (by omega)
          omega
        have HS : Hid (Rn.digGo acc (Rn.runes ((txt s).drop pos)) = if 48 ≤ (Utf8.decode s pos).1 ∧ (Utf8.decode s pos).1 ≤ 57 then Rn.digGo (10 * acc + ((Utf8.decode s pos).1 - 48)) (Rn.runes ((txt s).drop (pos + (Utf8.decode s pos).2))) else none) := by
          show _ = _
          rw [runes_at s pos hp, Rn.digGo]
        go_wp2_with fail
        refine (digit_any _ _).mono ?_
        rintro e _ ⟨rfl, rfl⟩
        by_cases hd : 48 ≤ (Utf8.decode s pos).1 ∧ (Utf8.decode s pos).1 ≤ 57
        · rw [show Rn.digit ((Utf8.decode s pos).1 : Int) = true from decide_eq_true (by omega)]
          obtain ⟨hd1, hd2⟩ := hd
          go_wp2
          go_roundw
          case rel =>
            refine ⟨pos + (Utf8.decode s pos).2, 10 * acc + ((Utf8.decode s pos).1 - 48), rfl, by go_num, ?_, ?_, by omega⟩
            · show _ = _
              rw [← HC.out, HS.out, if_pos ⟨hd1, hd2⟩]
            · show _ < _
              have h1 := HA.out
              have h2 : 10 ^ (pos + 1) ≤ 10 ^ (pos + (Utf8.decode s pos).2) := pow_mono (by omega)
              rw [Nat.pow_succ] at h2
              omega
          case measure =>
            simp
            omega
        · rw [show Rn.digit ((Utf8.decode s pos).1 : Int) = false from decide_eq_false (by omega)]
          go_wp2
          go_ret2
          refine ⟨?_, below_iter w s _⟩
          rw [HN.out, ← HC.out, HS.out, if_neg hd]
          rfl
      · have hnx : ∀ ty, (Instr.next (.pointer (some ⟨w.heap.size, 0, none⟩)) true ty).run Try.prog (w.iter s pos) = _ := fun ty => run_next_end w s pos ty hp
        go_wp2
        go_ret2
        refine ⟨?_, below_iter w s pos⟩
        rw [HN.out, ← HC.out, runes_end s pos hp]
        rfl)
theorem digits_any (s : ByteArray) (w : World) (hs : s.size ≤ 140737488355328) :
    Calls Try.prog 9 #[.string s] w fun e w' => e = told (Rn.digits (txt s)) ∧ Below w.heap.size w w' := by
  by_cases hn : s.toList = []
  · have HN : Hid (Rn.digits (txt s) = none) := digits_none s (.inl hn)
    go_enter Try.func9, Try.ntmps9
    go_wp2
    go_ret2
    exact ⟨by rw [HN.out]; rfl, Below.refl _ _⟩
  have hn2 : s.toList.isEmpty = false := by cases e : s.toList with | nil => exact absurd e hn | cons _ _ => rfl
  by_cases h18 : 18 < s.size
  · have HN : Hid (Rn.digits (txt s) = none) := digits_none s (.inr (.inl h18))
    go_enter Try.func9, Try.ntmps9
    go_wp2
    go_ret2
    exact ⟨by rw [HN.out]; rfl, Below.refl _ _⟩
  have hl : 0 < s.size := by
    rcases Nat.eq_zero_or_pos s.size with h | h
    · rw [tl] at hn
      exact absurd (List.eq_nil_of_length_eq_zero (by rw [txt_len]; exact h)) hn
    · exact h
  by_cases h3 : (s[0]'hl).toNat = 48
  · by_cases h4 : s.toList = [48]
    · exact digits_loop s w hl (by omega) (.inr h4)
    · have HN : Hid (Rn.digits (txt s) = none) := digits_none s (.inr (.inr ⟨hl, h3, h4⟩))
      have h5 : (s.toList == [48]) = false := by simpa using h4
      go_enter Try.func9, Try.ntmps9
      go_wp2
      go_ret2
      exact ⟨by rw [HN.out]; rfl, Below.refl _ _⟩
  · exact digits_loop s w hl (by omega) (.inl h3)
end Go.Proofs.Ytgjfljpnlmebhab
