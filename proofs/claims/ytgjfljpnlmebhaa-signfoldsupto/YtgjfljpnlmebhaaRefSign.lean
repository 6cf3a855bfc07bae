/- THE DOCUMENT'S OWN ANSWER: impostref3's Letter, Name, Fold, Width, Cut, Digits. -/
import Derived.Test.YtgjfljpnlmebhaaDigits
import Derived.Laws.Concat
namespace Go.Proofs.Ytgjfljpnlmebhaa
open Go.RowKit

theorem refLetter_any (r : Int) (w : World) :
    Calls Try.prog 16 #[.int .i32 r] w fun e w' => e = .returned (.bool (Rn.letter r)) ∧ w' = w := by
  go_enter Try.func16, Try.ntmps16
  have hc : r < 65 ∨ (65 ≤ r ∧ r ≤ 90) ∨ (90 < r ∧ r < 97) ∨ (97 ≤ r ∧ r ≤ 122) ∨ (122 < r ∧ r < 192) ∨ r = 215 ∨ (192 ≤ r ∧ r ≤ 591 ∧ ¬ r = 215) ∨ 591 < r := by omega
  rcases hc with h | ⟨h1, h2⟩ | ⟨h1, h2⟩ | ⟨h1, h2⟩ | ⟨h1, h2⟩ | h | ⟨h1, h2, h3⟩ | h
  case inr.inr.inr.inr.inr.inl =>
    subst h
    go_wp2
    go_ret
    exact ⟨rfl, rfl⟩
  all_goals (
    go_wp2
    go_ret
    refine ⟨ret_bool ?_, rfl⟩
    rw [Bool.eq_iff_iff]
    simp [Rn.letter]
    omega)

set_option maxHeartbeats 1000000 in
theorem refName_any (s : ByteArray) (w : World) (hs : s.size ≤ 140737488355328) :
    Calls Try.prog 17 #[.string s] w fun e w' => e = .returned (.bool (Rn.name (txt s))) ∧ Below w.heap.size w w' := by
  by_cases hn : s.toList = []
  · have HN : Hid (Rn.name (txt s) = false) := name_long s (.inl hn)
    go_enter Try.func17, Try.ntmps17
    go_wp2
    go_ret
    exact ⟨ret_bool HN.out.symm, Below.refl _ _⟩
  have hn2 : s.toList.isEmpty = false := by cases e : s.toList with | nil => exact absurd e hn | cons _ _ => rfl
  by_cases h24 : 24 < s.size
  · have HN : Hid (Rn.name (txt s) = false) := name_long s (.inr h24)
    go_enter Try.func17, Try.ntmps17
    go_wp2
    go_ret
    exact ⟨ret_bool HN.out.symm, Below.refl _ _⟩
  have HN : Hid (Rn.name (txt s) = Rn.nameOk true (Rn.runes (txt s))) := name_short s hn (by omega)
  go_enter Try.func17, Try.ntmps17
  go_wp2
  clear hn hn2
  go_loopw [3, 4] (fun _ _ w' => ∃ (pos : Nat), w' = w.iter s pos ∧ Hid (Rn.nameOk (decide (pos = 0)) (Rn.runes ((txt s).drop pos)) = Rn.nameOk true (Rn.runes (txt s))) ∧ pos ≤ s.size) (fun _ _ w' => s.size - w'.iterPos w.heap.size)
  case atStart => exact ⟨0, rfl, by show _ = _; simp, by omega⟩
  case round =>
    obtain ⟨pos, rfl, HC, hb⟩ := hrel
    by_cases hp : pos < s.size
    · have hnx : ∀ ty, (Instr.next (.pointer (some ⟨w.heap.size, 0, none⟩)) true ty).run Try.prog (w.iter s pos) = _ := fun ty => run_next_any w s pos ty hp
      have hwd := dec_pos s pos
      have hle := dec_le s pos hp
      have HS : Hid (Rn.nameOk (decide (pos = 0)) (Rn.runes ((txt s).drop pos)) = ((Rn.letter ((Utf8.decode s pos).1 : Int) || (!decide (pos = 0) && Rn.inner ((Utf8.decode s pos).1 : Int))) && Rn.nameOk (decide (pos + (Utf8.decode s pos).2 = 0)) (Rn.runes ((txt s).drop (pos + (Utf8.decode s pos).2))))) := by
        show _ = _
        rw [runes_at s pos hp, Rn.nameOk, show decide (pos + (Utf8.decode s pos).2 = 0) = false from decide_eq_false (by omega)]
      go_wp2_with fail
      refine (refLetter_any _ _).mono ?_
      rintro e _ ⟨rfl, rfl⟩
      cases hL : Rn.letter ((Utf8.decode s pos).1 : Int)
      · by_cases h0 : pos = 0
        · go_wp2
          go_ret
          refine ⟨ret_bool ?_, below_iter w s _⟩
          rw [HN.out, ← HC.out, HS.out, hL]
          simp [h0]
        · have hp0 : ((pos : Int) == 0) = false := by simp; omega
          generalize hr : ((Utf8.decode s pos).1 : Int) = r at *
          cases hI : Rn.inner r
          · have hc : (r < 48 ∧ ¬ r = 45 ∧ ¬ r = 46) ∨ (57 < r ∧ ¬ r = 95) := by
              simp only [Rn.inner, Rn.digit, Bool.or_eq_false_iff, decide_eq_false_iff_not] at hI
              omega
            have hc2 : ¬ r = 45 ∧ ¬ r = 95 ∧ ¬ r = 46 := by
              simp only [Rn.inner, Rn.digit, Bool.or_eq_false_iff, decide_eq_false_iff_not] at hI
              omega
            obtain ⟨e1, e2, e3⟩ := hc2
            have b1 : (r != 45) = true := by simpa using e1
            have b2 : (r != 95) = true := by simpa using e2
            have b3 : (r != 46) = true := by simpa using e3
            rcases hc with ⟨c1, _⟩ | ⟨c1, _⟩
            all_goals (
              go_wp2
              go_ret
              refine ⟨ret_bool ?_, below_iter w s _⟩
              rw [HN.out, ← HC.out, HS.out, hL, hI]
              simp)
          · have hc : (48 ≤ r ∧ r ≤ 57) ∨ r = 45 ∨ r = 95 ∨ r = 46 := by
              simp only [Rn.inner, Rn.digit, Bool.or_eq_true, decide_eq_true_eq] at hI
              omega
            rcases hc with ⟨c1, c2⟩ | c1 | c1 | c1
            all_goals (
              try subst c1
              go_wp2
              go_roundw
              case rel =>
                refine ⟨pos + (Utf8.decode s pos).2, rfl, ?_, by omega⟩
                show _ = _
                rw [← HC.out, HS.out, hL, hI]
                simp [h0]
              case measure =>
                simp
                omega)
      · go_wp2
        go_roundw
        case rel =>
          refine ⟨pos + (Utf8.decode s pos).2, rfl, ?_, by omega⟩
          show _ = _
          rw [← HC.out, HS.out, hL]
          simp
        case measure =>
          simp
          omega
    · have hnx : ∀ ty, (Instr.next (.pointer (some ⟨w.heap.size, 0, none⟩)) true ty).run Try.prog (w.iter s pos) = _ := fun ty => run_next_end w s pos ty hp
      go_wp2
      go_ret
      refine ⟨ret_bool ?_, below_iter w s pos⟩
      rw [HN.out, ← HC.out, runes_end s pos hp]
      rfl

set_option maxHeartbeats 1000000 in
theorem refWidth_any (s : ByteArray) (w : World) (hs : s.size ≤ 140737488355328) :
    Calls Try.prog 19 #[.string s] w fun e w' => e = .returned (.int .i64 ((Rn.runes (txt s)).length : Nat)) ∧ Below w.heap.size w w' := by
  go_enter Try.func19, Try.ntmps19
  go_wp2
  go_loopw [3] (fun n w' => ∃ (pos acc : Nat), w' = w.iter s pos ∧ n = .int .i64 acc ∧ Hid (acc + (Rn.runes ((txt s).drop pos)).length = (Rn.runes (txt s)).length) ∧ pos ≤ s.size ∧ acc ≤ pos) (fun _ w' => s.size - w'.iterPos w.heap.size)
  case atStart => exact ⟨0, 0, rfl, rfl, by show _ = _; simp, by omega, Nat.le_refl _⟩
  case round =>
    obtain ⟨pos, acc, rfl, rfl, HC, hb, ha⟩ := hrel
    by_cases hp : pos < s.size
    · have hnx : ∀ ty, (Instr.next (.pointer (some ⟨w.heap.size, 0, none⟩)) true ty).run Try.prog (w.iter s pos) = _ := fun ty => run_next_any w s pos ty hp
      have hwd := dec_pos s pos
      have hle := dec_le s pos hp
      go_wp2
      go_roundw
      case rel =>
        refine ⟨pos + (Utf8.decode s pos).2, acc + 1, rfl, by go_num, ?_, by omega, by omega⟩
        show _ = _
        rw [← HC.out, runes_at s pos hp, List.length_cons]
        omega
      case measure =>
        simp
        omega
    · have hnx : ∀ ty, (Instr.next (.pointer (some ⟨w.heap.size, 0, none⟩)) true ty).run Try.prog (w.iter s pos) = _ := fun ty => run_next_end w s pos ty hp
      go_wp2
      go_ret
      refine ⟨ret_int ?_, below_iter w s pos⟩
      rw [← HC.out, runes_end s pos hp]
      simp

set_option maxHeartbeats 1000000 in
theorem refCut_any (s : ByteArray) (n : Int) (w : World) (hs : s.size ≤ 140737488355328) (h0 : -9223372036854775808 ≤ n) (h1 : n ≤ 9223372036854775807) :
    Calls Try.prog 20 #[.string s, .int .i64 n] w fun e w' => e = .returned (.string ⟨((txt s).take (Rn.cut (txt s) n)).toArray⟩) ∧ Below w.heap.size w w' := by
  go_enter Try.func20, Try.ntmps20
  go_wp2
  go_loopw [5, 6] (fun l _ w' => ∃ (pos k : Nat), w' = w.iter s pos ∧ l = .int .i64 k ∧ Hid (pos + Rn.cut ((txt s).drop pos) (n - k) = Rn.cut (txt s) n) ∧ pos ≤ s.size ∧ k ≤ pos) (fun _ _ w' => s.size - w'.iterPos w.heap.size)
  case atStart => exact ⟨0, 0, rfl, rfl, by show _ = _; simp, by omega, by omega⟩
  case round =>
    obtain ⟨pos, k, rfl, rfl, HC, hb, hk⟩ := hrel
    by_cases hp : pos < s.size
    · have hnx : ∀ ty, (Instr.next (.pointer (some ⟨w.heap.size, 0, none⟩)) true ty).run Try.prog (w.iter s pos) = _ := fun ty => run_next_any w s pos ty hp
      have hwd := dec_pos s pos
      have hle := dec_le s pos hp
      by_cases hl : n ≤ (k : Int)
      · go_wp2
        go_ret
        refine ⟨ret_str (txt_ext ?_), below_iter w s _⟩
        rw [← HC.out, Rn.cut_low _ _ (by omega)]
        simp [txt]
      · go_wp2
        go_roundw
        case rel =>
          refine ⟨pos + (Utf8.decode s pos).2, k + 1, rfl, by go_num, ?_, by omega, by omega⟩
          show _ = _
          rw [← HC.out, Rn.cut_step _ (n - k) (drop_ne s pos hp) (by omega), dec_at, List.drop_drop, show n - ((k + 1 : Nat) : Int) = n - k - 1 from by omega]
          omega
        case measure =>
          simp
          omega
    · have hnx : ∀ ty, (Instr.next (.pointer (some ⟨w.heap.size, 0, none⟩)) true ty).run Try.prog (w.iter s pos) = _ := fun ty => run_next_end w s pos ty hp
      go_wp2
      go_ret
      refine ⟨ret_str (txt_ext ?_), below_iter w s pos⟩
      rw [← HC.out, drop_end s pos hp, Rn.cut_nil, show pos + 0 = s.size from by omega, ← txt_len, List.take_length]
      rfl

theorem enc_app (acc : List UInt8) (r : Int) : (ByteArray.mk acc.toArray ++ Utf8.encode r) = ByteArray.mk (acc ++ Lib.encodeRune r).toArray := by
  rw [Rn.encode_eq, ByteArray.mk_append_mk]
set_option maxHeartbeats 2000000 in
theorem refFold_any (s : ByteArray) (w : World) (hs : 3 * s.size ≤ 140737488355328) :
    Calls Try.prog 18 #[.string s] w fun e w' => e = .returned (.string ⟨(Rn.fold (txt s)).toArray⟩) ∧ Below w.heap.size w w' := by
  go_enter Try.func18, Try.ntmps18
  go_wp2
  go_loopw [3, 5] (fun v _ w' => ∃ (pos : Nat) (acc : List UInt8), w' = w.iter s pos ∧ v = .string ⟨acc.toArray⟩ ∧ Hid (acc ++ Rn.fold ((txt s).drop pos) = Rn.fold (txt s)) ∧ pos ≤ s.size ∧ acc.length ≤ 3 * pos) (fun _ _ w' => s.size - w'.iterPos w.heap.size)
  case atStart => exact ⟨0, [], rfl, rfl, by show _ = _; simp, by omega, by simp⟩
  case round =>
    obtain ⟨pos, acc, rfl, rfl, HC, hb, ha⟩ := hrel
    by_cases hp : pos < s.size
    · have hnx : ∀ ty, (Instr.next (.pointer (some ⟨w.heap.size, 0, none⟩)) true ty).run Try.prog (w.iter s pos) = _ := fun ty => run_next_any w s pos ty hp
      have hwd := dec_pos s pos
      have hle := dec_le s pos hp
      have hmx := dec_max s pos
      have HS : Hid (Rn.fold ((txt s).drop pos) = Lib.encodeRune (Rn.small ((Utf8.decode s pos).1 : Int)) ++ Rn.fold ((txt s).drop (pos + (Utf8.decode s pos).2))) := by
        show _ = _
        rw [Rn.fold_step _ (drop_ne s pos hp), dec_at, List.drop_drop]
      have hel : (Lib.encodeRune (Rn.small ((Utf8.decode s pos).1 : Int))).length ≤ 3 * (Utf8.decode s pos).2 := by
        rw [Rn.small_len]
        by_cases hv : (Utf8.decode s pos).1 = 65533
        · have : (Lib.encodeRune (((Utf8.decode s pos).1 : Nat) : Int)).length = 3 := by rw [hv]; decide
          omega
        · have := Rn.width_enc ((txt s).drop pos) (drop_ne s pos hp) (by rw [dec_at]; exact hv)
          rw [dec_at] at this
          omega
      have hes : (Utf8.encode (Rn.small ((Utf8.decode s pos).1 : Int))).size = (Lib.encodeRune (Rn.small ((Utf8.decode s pos).1 : Int))).length := Rn.enc_size _
      have hadd : ∀ u, (Op.stringOp .add ⟨acc.toArray⟩ (Utf8.encode (Rn.small ((Utf8.decode s pos).1 : Int)))).run Try.prog u = .ok (.string ⟨(acc ++ Lib.encodeRune (Rn.small ((Utf8.decode s pos).1 : Int))).toArray⟩) u := by
        intro u
        rw [run_string_add_sum u _ _ (by rw [hes]; show acc.length + _ ≤ _; omega), enc_app]
      have hcs : (65 ≤ ((Utf8.decode s pos).1 : Int) ∧ ((Utf8.decode s pos).1 : Int) ≤ 90) ∨ (90 < ((Utf8.decode s pos).1 : Int) ∧ 192 ≤ ((Utf8.decode s pos).1 : Int) ∧ ((Utf8.decode s pos).1 : Int) ≤ 222 ∧ ¬ ((Utf8.decode s pos).1 : Int) = 215) ∨
          ((Utf8.decode s pos).1 : Int) < 65 ∨ (90 < ((Utf8.decode s pos).1 : Int) ∧ ((Utf8.decode s pos).1 : Int) < 192) ∨ ((Utf8.decode s pos).1 : Int) = 215 ∨ 222 < ((Utf8.decode s pos).1 : Int) := by omega
      have hsm : Rn.small ((Utf8.decode s pos).1 : Int) = if (65 ≤ ((Utf8.decode s pos).1 : Int) ∧ ((Utf8.decode s pos).1 : Int) ≤ 90) ∨ (192 ≤ ((Utf8.decode s pos).1 : Int) ∧ ((Utf8.decode s pos).1 : Int) ≤ 222 ∧ ((Utf8.decode s pos).1 : Int) ≠ 215) then ((Utf8.decode s pos).1 : Int) + 32 else ((Utf8.decode s pos).1 : Int) := rfl
      generalize hr : ((Utf8.decode s pos).1 : Int) = r at *
      generalize hm : Rn.small r = m at *
      rcases hcs with ⟨c1, c2⟩ | ⟨c0, c1, c2, c3⟩ | c1 | ⟨c1, c2⟩ | c1 | c1
      · rw [if_pos (.inl ⟨c1, c2⟩)] at hsm
        subst hsm
        go_wp2
        go_roundw
        case rel =>
          refine ⟨pos + (Utf8.decode s pos).2, _, rfl, rfl, ?_, by omega, by rw [List.length_append]; omega⟩
          show _ = _
          rw [← HC.out, HS.out, List.append_assoc]
        case measure =>
          simp
          omega
      · rw [if_pos (.inr ⟨c1, c2, c3⟩)] at hsm
        subst hsm
        have b1 : (r != 215) = true := by simpa using c3
        go_wp2
        go_roundw
        case rel =>
          refine ⟨pos + (Utf8.decode s pos).2, _, rfl, rfl, ?_, by omega, by rw [List.length_append]; omega⟩
          show _ = _
          rw [← HC.out, HS.out, List.append_assoc]
        case measure =>
          simp
          omega
      · rw [if_neg (by omega)] at hsm
        subst hsm
        go_wp2
        go_roundw
        case rel =>
          refine ⟨pos + (Utf8.decode s pos).2, _, rfl, rfl, ?_, by omega, by rw [List.length_append]; omega⟩
          show _ = _
          rw [← HC.out, HS.out, List.append_assoc]
        case measure =>
          simp
          omega
      · rw [if_neg (by omega)] at hsm
        subst hsm
        go_wp2
        go_roundw
        case rel =>
          refine ⟨pos + (Utf8.decode s pos).2, _, rfl, rfl, ?_, by omega, by rw [List.length_append]; omega⟩
          show _ = _
          rw [← HC.out, HS.out, List.append_assoc]
        case measure =>
          simp
          omega
      · rw [if_neg (by omega)] at hsm
        subst hsm
        have b1 : (m != 215) = false := by simp [c1]
        have c2 : 192 ≤ m := by omega
        have c3 : m ≤ 222 := by omega
        have c0 : 90 < m := by omega
        clear c1
        go_wp2
        go_roundw
        case rel =>
          refine ⟨pos + (Utf8.decode s pos).2, _, rfl, rfl, ?_, by omega, by rw [List.length_append]; omega⟩
          show _ = _
          rw [← HC.out, HS.out, List.append_assoc]
        case measure =>
          simp
          omega
      · rw [if_neg (by omega)] at hsm
        subst hsm
        go_wp2
        go_roundw
        case rel =>
          refine ⟨pos + (Utf8.decode s pos).2, _, rfl, rfl, ?_, by omega, by rw [List.length_append]; omega⟩
          show _ = _
          rw [← HC.out, HS.out, List.append_assoc]
        case measure =>
          simp
          omega
    · have hnx : ∀ ty, (Instr.next (.pointer (some ⟨w.heap.size, 0, none⟩)) true ty).run Try.prog (w.iter s pos) = _ := fun ty => run_next_end w s pos ty hp
      have HE : Hid (acc = Rn.fold (txt s)) := by
        show _ = _
        rw [← HC.out, drop_end s pos hp, Rn.fold_nil, List.append_nil]
      go_wp2
      go_ret
      exact ⟨ret_str (by rw [HE.out]), below_iter w s pos⟩
end Go.Proofs.Ytgjfljpnlmebhaa
