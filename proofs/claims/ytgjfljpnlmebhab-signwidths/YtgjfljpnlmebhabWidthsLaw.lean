/- THE WALK OF SignWidths. -/
import Derived.Test.YtgjfljpnlmebhabSRuns
import Derived.Laws.IdiomStrings
namespace Go.Proofs.Ytgjfljpnlmebhab
open Go.RowKit

theorem runesFrom_size (s : ByteArray) : ∀ (b i : Nat) (acc : Array Value), s.size ≤ i + b → (Conv.runesFrom s b i acc).size = acc.size + (Rn.runes ((txt s).drop i)).length
  | 0, i, acc, h => by
    rw [runes_end s i (by omega)]
    simp [Conv.runesFrom]
  | b + 1, i, acc, h => by
    unfold Conv.runesFrom
    by_cases hi : i < s.size
    · have hw := dec_pos s i
      rw [if_pos hi]
      have := runesFrom_size s b (i + (Utf8.decode s i).2) (acc.push (.int .i32 (Int.ofNat (Utf8.decode s i).1))) (by omega)
      simp only at this ⊢
      rw [this, runes_at s i hi, List.length_cons, Array.size_push]
      omega
    · rw [if_neg hi, runes_end s i hi]
      simp
theorem runesFrom_all (s : ByteArray) : (Conv.runesFrom s s.size 0 #[]).size = (Rn.runes (txt s)).length := by
  have := runesFrom_size s s.size 0 #[] (by omega)
  simpa using this
/-- []rune(s), of whatever length: a draw for the capacity, a new row. -/
theorem run_runes_any (w : World) (s : ByteArray) : (convert 9 23 (.string s)).run Try.prog w = .ok (.slice (some ⟨w.heap.size, 0, none⟩) (Conv.runesFrom s s.size 0 #[]).size (grownCap w (Conv.runesFrom s s.size 0 #[]).size 0 21))
    (w.drew.alloc (.cells (Conv.runesFrom s s.size 0 #[] ++ Array.replicate (grownCap w (Conv.runesFrom s s.size 0 #[]).size 0 21 - (Conv.runesFrom s s.size 0 #[]).size) (.int .i32 0)) 21)) := by
  simp [convert, run_underlying Try.underlying9, run_underlying Try.underlying23, run_underlying Try.underlying21, Conv.stringToRunes, Question.forced, newRow, grownCap]
theorem cut_whole (s : ByteArray) : (⟨((txt s).take (Rn.cut (txt s) ((Rn.runes (txt s)).length : Nat))).toArray⟩ : ByteArray) = s := by
  rw [Rn.cut_all (txt s) _ (Int.le_refl _), List.take_length]
  rfl

set_option maxHeartbeats 4000000 in
theorem signWidths_walk (s : ByteArray) (w : World) (hs0 : s.data.toList.length ≤ reachBytes) :
    Calls Try.prog 3 #[.string s] w fun e w' => e = .returned (.bool true) ∧ Below w.heap.size w w' := by
  have hs : s.size ≤ 140737488355328 := fits hs0
  clear hs0
  have hK : (Rn.runes (txt s)).length ≤ 140737488355328 := Nat.le_trans (Rn.runes_len _) (by rw [txt_len]; exact hs)
  go_enter Try.func3, Try.ntmps3
  go_wp2
  go_loopw [3] (fun n w' => ∃ (pos acc : Nat), w' = w.iter s pos ∧ n = .int .i64 acc ∧ Hid (acc + (Rn.runes ((txt s).drop pos)).length = (Rn.runes (txt s)).length) ∧ pos ≤ s.size ∧ acc ≤ pos) (fun _ w' => s.size - w'.iterPos w.heap.size)
  case atStart => exact ⟨0, 0, rfl, rfl, by show _ = _; simp, by omega, Nat.le_refl _⟩
  case round =>
    obtain ⟨pos, acc, rfl, rfl, HC, hb, ha⟩ := hrel
    by_cases hp : pos < s.size
    · have hnx : ∀ ty, (Instr.next (.pointer (some ⟨w.heap.size, 0, none⟩)) true ty).run Try.prog (w.iter s pos) = _ := fun ty => run_next_any w s pos ty hp
      have hwd := dec_pos s pos
      have hle := dec_le s pos hp
      go_wp2
      go_roundw
      case rel =>
        refine ⟨pos + (Utf8.decode s pos).2, acc + 1, rfl, by go_num, ?_, by omega, by omega⟩
        show _ = _
        rw [← HC.out, runes_at s pos hp, List.length_cons]
        omega
      case measure =>
        simp
        omega
    · have hnx : ∀ ty, (Instr.next (.pointer (some ⟨w.heap.size, 0, none⟩)) true ty).run Try.prog (w.iter s pos) = _ := fun ty => run_next_end w s pos ty hp
      have hac : acc = (Rn.runes (txt s)).length := by
        rw [← HC.out, runes_end s pos hp]
        simp
      subst hac
      have HB0 : Hid (Below w.heap.size w (w.iter s pos)) := below_iter w s pos
      clear HC ha
      go_wp2_with fail
      refine (width_any s _ (by omega)).mono ?_
      rintro e w1 ⟨rfl, b1⟩
      have HB1 : Hid (Below w.heap.size w w1) := HB0.out.trans (b1.mono HB0.out.size)
      clear b1 HB0
      go_wp2_with fail
      refine (width_any s _ (by omega)).mono ?_
      rintro e w2 ⟨rfl, b2⟩
      have HB2 : Hid (Below w.heap.size w w2) := HB1.out.trans (b2.mono HB1.out.size)
      clear b2 HB1
      have hsz := runesFrom_all s
      have hcv := run_runes_any w2 s
      rw [hsz] at hcv
      generalize hA : Conv.runesFrom s s.size 0 #[] ++ Array.replicate (grownCap w2 (Rn.runes (txt s)).length 0 21 - (Rn.runes (txt s)).length) (Value.int .i32 0) = A at hcv
      generalize grownCap w2 (Rn.runes (txt s)).length 0 21 = G at hcv
      have HB3 : Hid (Below w.heap.size w (w2.drew.alloc (.cells A 21))) := HB2.out.drew.alloc HB2.out.size _
      clear HB2 hA hsz
      have c4 := cut_any s ((Rn.runes (txt s)).length : Nat) (w2.drew.alloc (.cells A 21)) (by omega) (by omega) (by omega)
      rw [cut_whole] at c4
      go_wp2_with fail
      refine c4.mono ?_
      rintro e w4 ⟨rfl, b4⟩
      have HB4 : Hid (Below w.heap.size w w4) := HB3.out.trans (b4.mono HB3.out.size)
      clear b4 HB3 hcv c4
      go_wp2_with fail
      refine (runs_any _).mono ?_
      rintro e w5 ⟨rfl, b5⟩
      have HB5 : Hid (Below w.heap.size w w5) := HB4.out.trans (b5.mono HB4.out.size)
      clear b5 HB4
      go_wp2_with fail
      go_ret
      exact ⟨rfl, HB5.out⟩
end Go.Proofs.Ytgjfljpnlmebhab
