/- THE WALK OF SignFolded: texts of at most 2^20 bytes. -/
import Derived.Test.YtgjfljpnlmebhaaSRuns
namespace Go.Proofs.Ytgjfljpnlmebhaa
open Go.RowKit

set_option maxHeartbeats 4000000 in
theorem signFolded_walk (s : ByteArray) (w : World) (hs : s.size ≤ 1048576) :
    Calls Try.prog 7 #[.string s] w fun e w' => e = .returned (.bool true) ∧ Below w.heap.size w w' := by
  have hfl := Rn.fold_len3 (txt s)
  rw [txt_len] at hfl
  obtain ⟨t, ht⟩ : ∃ t : ByteArray, (⟨(Rn.fold (txt s)).toArray⟩ : ByteArray) = t := ⟨_, rfl⟩
  have htx : txt t = Rn.fold (txt s) := by rw [← ht]; rfl
  have hts : t.size ≤ 3145728 := by rw [← txt_len, htx]; omega
  have hf2 : (⟨(Rn.fold (txt t)).toArray⟩ : ByteArray) = t := by rw [htx, Rn.fold_fold]; exact ht
  have hf3 : (Rn.fold (txt s) == Rn.fold (txt t)) = true := by rw [htx, Rn.fold_fold]; simp
  have hw : (Rn.runes (txt t)).length = (Rn.runes (txt s)).length := by rw [htx]; exact Rn.width_fold _
  have HR : Hid (∀ r ∈ Rn.runes (txt t), ¬ (65 ≤ r ∧ r ≤ 90)) := by show ∀ _, _; rw [htx]; exact Rn.fold_small _
  have HN : Hid (Rn.name (txt s) = true → Rn.name (txt t) = true) := by show _ → _; rw [htx]; exact Rn.name_fold _
  have c1 := fold_any s w (by omega)
  rw [ht] at c1
  clear htx hfl
  go_enter Try.func7, Try.ntmps7
  go_wp2_with fail
  refine c1.mono ?_
  rintro e w1 ⟨rfl, b1⟩
  have HB1 : Hid (Below w.heap.size w w1) := b1
  clear b1 c1
  have c2 := fold_any t w1 (by omega)
  rw [hf2] at c2
  go_wp2_with fail
  refine c2.mono ?_
  rintro e w2 ⟨rfl, b2⟩
  have HB2 : Hid (Below w.heap.size w w2) := HB1.out.trans (b2.mono HB1.out.size)
  clear b2 HB1 c2 hf2 ht
  go_wp2_with fail
  refine (width_any t _ (by omega)).mono ?_
  rintro e w3 ⟨rfl, b3⟩
  have HB3 : Hid (Below w.heap.size w w3) := HB2.out.trans (b3.mono HB2.out.size)
  clear b3 HB2
  go_wp2_with fail
  refine (width_any s _ (by omega)).mono ?_
  rintro e w4 ⟨rfl, b4⟩
  have HB4 : Hid (Below w.heap.size w w4) := HB3.out.trans (b4.mono HB3.out.size)
  clear b4 HB3
  go_wp2_with fail
  refine (same_any s t _ (by omega) (by omega)).mono ?_
  rintro e w5 ⟨rfl, b5⟩
  have HB5 : Hid (Below w.heap.size w w5) := HB4.out.trans (b5.mono HB4.out.size)
  clear b5 HB4 hw
  rw [hf3]
  clear hf3
  go_wp2
  go_loopw [5] (fun _ w' => ∃ (pos : Nat), w' = w5.iter t pos ∧ Hid (∀ r ∈ Rn.runes ((txt t).drop pos), ¬ (65 ≤ r ∧ r ≤ 90)) ∧ pos ≤ t.size) (fun _ w' => t.size - w'.iterPos w5.heap.size)
  case atStart => exact ⟨0, rfl, HR, by omega⟩
  case round =>
    obtain ⟨pos, rfl, HC, hb⟩ := hrel
    by_cases hp : pos < t.size
    · have hnx : ∀ ty, (Instr.next (.pointer (some ⟨w5.heap.size, 0, none⟩)) true ty).run Try.prog (w5.iter t pos) = _ := fun ty => run_next_any w5 t pos ty hp
      have hwd := dec_pos t pos
      have hle := dec_le t pos hp
      have HC2 : Hid (∀ r ∈ Rn.runes ((txt t).drop (pos + (Utf8.decode t pos).2)), ¬ (65 ≤ r ∧ r ≤ 90)) := by
        intro r hr
        refine HC.out r ?_
        rw [runes_at t pos hp]
        exact List.mem_cons_of_mem _ hr
      have hr0 : ¬ (65 ≤ (Utf8.decode t pos).1 ∧ (Utf8.decode t pos).1 ≤ 90) := by
        refine HC.out _ ?_
        rw [runes_at t pos hp]
        exact List.mem_cons_self ..
      have hr1 : (Utf8.decode t pos).1 < 65 ∨ (65 ≤ (Utf8.decode t pos).1 ∧ 90 < (Utf8.decode t pos).1) := by omega
      clear hr0 HC
      rcases hr1 with h | ⟨h, h'⟩
      all_goals (
        go_wp2
        go_roundw
        case rel => exact ⟨pos + (Utf8.decode t pos).2, rfl, HC2, by omega⟩
        case measure =>
          simp
          omega)
    · have hnx : ∀ ty, (Instr.next (.pointer (some ⟨w5.heap.size, 0, none⟩)) true ty).run Try.prog (w5.iter t pos) = _ := fun ty => run_next_end w5 t pos ty hp
      have HB6 : Hid (Below w.heap.size w (w5.iter t pos)) := HB5.out.trans ((below_iter w5 t pos).mono HB5.out.size)
      clear HB5 HC
      go_wp2_with fail
      refine (name_any s _ (by omega)).mono ?_
      rintro e w7 ⟨rfl, b7⟩
      have HB7 : Hid (Below w.heap.size w w7) := HB6.out.trans (b7.mono HB6.out.size)
      clear b7 HB6
      cases hns : Rn.name (txt s)
      · go_wp2_with fail
        refine (runs_any _).mono ?_
        rintro e w8 ⟨rfl, b8⟩
        have HB8 : Hid (Below w.heap.size w w8) := HB7.out.trans (b8.mono HB7.out.size)
        clear b8 HB7
        go_wp2_with fail
        go_ret
        exact ⟨rfl, HB8.out⟩
      · go_wp2_with fail
        refine (name_any t _ (by omega)).mono ?_
        rintro e w8 ⟨rfl, b8⟩
        have HB8 : Hid (Below w.heap.size w w8) := HB7.out.trans (b8.mono HB7.out.size)
        clear b8 HB7
        rw [HN.out hns]
        go_wp2_with fail
        refine (runs_any _).mono ?_
        rintro e w9 ⟨rfl, b9⟩
        have HB9 : Hid (Below w.heap.size w w9) := HB8.out.trans (b9.mono HB8.out.size)
        clear b9 HB8
        go_wp2_with fail
        go_ret
        exact ⟨rfl, HB9.out⟩
end Go.Proofs.Ytgjfljpnlmebhaa
