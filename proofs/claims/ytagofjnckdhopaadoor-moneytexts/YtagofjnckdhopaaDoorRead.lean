/- CONTRACTS OF PACKAGE money: digital, formed, below, Read: any text. -/
import Derived.Test.YtagofjnckdhopaaDoorMoney
namespace Go.Proofs.YtagofjnckdhopaaDoor
open Go.RowKit

theorem all_at (s : ByteArray) (pos : Nat) (h : pos < s.size) : ((txt s).drop pos).all Mn.dig = if 48 ≤ (Utf8.decode s pos).1 ∧ (Utf8.decode s pos).1 ≤ 57 then ((txt s).drop (pos + (Utf8.decode s pos).2)).all Mn.dig else false := by
  rw [Mn.all_dig_step _ (drop_ne s pos h), dec_at, List.drop_drop]
set_option maxHeartbeats 1000000 in
theorem digital_any (s : ByteArray) (w : World) :
    Calls Tryd.prog 30 #[.string s] w fun e w' => e = .returned (.bool ((txt s).all Mn.dig)) ∧ Below w.heap.size w w' := by
  go_enter Tryd.func30, Tryd.ntmps30
  go_wp2
  go_loopw [4] (fun _ w' => ∃ (pos : Nat), w' = w.iter s pos ∧ Hid (((txt s).drop pos).all Mn.dig = (txt s).all Mn.dig) ∧ pos ≤ s.size) (fun _ w' => s.size - w'.iterPos w.heap.size)
  case atStart => exact ⟨0, rfl, by show _ = _; simp, by omega⟩
  case round =>
    obtain ⟨pos, rfl, HC, hb⟩ := hrel
    by_cases hp : pos < s.size
    · have hnx : ∀ ty, (Instr.next (.pointer (some ⟨w.heap.size, 0, none⟩)) true ty).run Tryd.prog (w.iter s pos) = _ := fun ty => run_next_any w s pos ty hp
      have hwd := dec_pos s pos
      have hle := dec_le s pos hp
      have HS := Lib.hid (all_at s pos hp)
      by_cases hd : 48 ≤ (Utf8.decode s pos).1
      · by_cases hd2 : (Utf8.decode s pos).1 ≤ 57
        · go_wp2
          go_roundw
          case rel =>
            refine ⟨pos + (Utf8.decode s pos).2, rfl, ?_, by omega⟩
            show _ = _
            rw [← HC.out, HS.out, if_pos ⟨hd, hd2⟩]
          case measure =>
            simp
            omega
        · have hd3 : 57 < (Utf8.decode s pos).1 := by omega
          go_wp2
          go_ret
          refine ⟨ret_bool ?_, below_iter w s _⟩
          rw [← HC.out, HS.out, if_neg (by omega)]
      · have hd3 : (Utf8.decode s pos).1 < 48 := by omega
        go_wp2
        go_ret
        refine ⟨ret_bool ?_, below_iter w s _⟩
        rw [← HC.out, HS.out, if_neg (by omega)]
    · have hnx : ∀ ty, (Instr.next (.pointer (some ⟨w.heap.size, 0, none⟩)) true ty).run Tryd.prog (w.iter s pos) = _ := fun ty => run_next_end w s pos ty hp
      go_wp2
      go_ret
      refine ⟨ret_bool ?_, below_iter w s pos⟩
      rw [← HC.out, drop_end s pos hp]
      rfl
theorem digital_gen (s : ByteArray) (w0 w : World) (hb : Below w0.heap.size w0 w) :
    Calls Tryd.prog 30 #[.string s] w fun e w' => e = .returned (.bool ((txt s).all Mn.dig)) ∧ Below w0.heap.size w0 w' :=
  (digital_any s w).mono fun _ _ ⟨h1, h2⟩ => ⟨h1, hb.trans (h2.mono hb.size)⟩

/-! ### below -/
def Plain (l : List UInt8) : Prop := ∀ b ∈ l, Mn.dig b = true ∨ b = 46
theorem plain_low {l : List UInt8} (h : Plain l) : ∀ b ∈ l, b.toNat < 128 := fun b hb => by
  rcases h b hb with h | rfl
  · have := of_decide_eq_true h; omega
  · decide
theorem dec_low (s : ByteArray) (pos : Nat) (h : pos < s.size) (hp : Plain (txt s)) : ∃ b : UInt8, (txt s).drop pos = b :: (txt s).drop (pos + 1) ∧ Utf8.decode s pos = (b.toNat, 1) ∧ (Mn.dig b = true ∨ b = 46) := by
  have hl : pos < (txt s).length := by rw [txt_len]; exact h
  have e : (txt s).drop pos = (txt s)[pos] :: (txt s).drop (pos + 1) := List.drop_eq_getElem_cons hl
  have hm : (txt s)[pos] ∈ txt s := List.getElem_mem _
  refine ⟨(txt s)[pos], e, ?_, hp _ hm⟩
  rw [← dec_at, e, Rn.low_head _ _ (plain_low hp _ hm)]
set_option maxHeartbeats 2000000 in
theorem below_any (s : ByteArray) (w : World) (hpl : Plain (txt s)) :
    Calls Tryd.prog 26 #[.string s] w fun e w' => e = both (Mn.amt (-(Mn.worth 0 (txt s) : Int))) (Mn.err (-(Mn.worth 0 (txt s) : Int))) ∧ Below w.heap.size w w' := by
  have HP := Lib.hid hpl
  clear hpl
  go_enter Tryd.func26, Tryd.ntmps26
  go_wp2
  go_loopw [4, 6, 7, 8] (fun v _ _ _ w' => ∃ (pos acc : Nat), w' = w.iter s pos ∧ v = .int .i64 (-(acc : Int)) ∧ Hid (Mn.worth acc ((txt s).drop pos) = Mn.worth 0 (txt s)) ∧ pos ≤ s.size ∧ acc ≤ 9223372036854775808) (fun _ _ _ _ w' => s.size - w'.iterPos w.heap.size)
  case atStart => exact ⟨0, 0, rfl, rfl, by show _ = _; simp, by omega, by omega⟩
  case round =>
    obtain ⟨pos, acc, rfl, rfl, HC, hb, ha⟩ := hrel
    by_cases hp : pos < s.size
    · obtain ⟨b, hb1, hb2, hb3⟩ := dec_low s pos hp HP.out
      have HS : Hid (Mn.worth 0 (txt s) = Mn.worth (if b.toNat = 46 then acc else 10 * acc + (b.toNat - 48)) ((txt s).drop (pos + 1))) := by
        show _ = _
        rw [← HC.out, hb1, Mn.worth_cons]
      have hnx : ∀ ty, (Instr.next (.pointer (some ⟨w.heap.size, 0, none⟩)) true ty).run Tryd.prog (w.iter s pos) = .ok (.tuple #[.bool true, .int .i64 pos, .int .i32 (b.toNat : Int)]) (w.iter s (pos + 1)) := fun ty => by
        have h := run_next_any (P := Tryd.prog) w s pos ty hp
        rw [hb2] at h
        exact h
      clear hb1 hb2
      by_cases h46 : b.toNat = 46
      · rw [if_pos h46] at HS
        have h46' : ((b.toNat : Int) == 46) = true := beq_iff_eq.2 (by omega)
        clear hb3
        go_wp2
        go_roundw
        case rel => exact ⟨pos + 1, acc, rfl, rfl, HS.out.symm, by omega, ha⟩
        case measure =>
          simp
          omega
      · have hd : 48 ≤ b.toNat ∧ b.toNat ≤ 57 := by
          rcases hb3 with h | h
          · exact of_decide_eq_true h
          · exact absurd (by rw [h]; rfl) h46
        have h46' : ((b.toNat : Int) == 46) = false := beq_eq_false_iff_ne.2 (by omega)
        clear hb3
        rw [if_neg h46] at HS
        go_wp2_with fail
        refine (mul_any _ _ _ ⟨by omega, by omega⟩ ⟨by omega, by omega⟩).mono ?_
        rintro e w1 ⟨rfl, hw1⟩
        subst hw1
        have HW := Lib.hid (Mn.worth_le ((txt s).drop (pos + 1)) (10 * acc + (b.toNat - 48)))
        by_cases hf : Mn.Fit (-(acc : Int) * 10)
        · rw [both_fit hf]
          unfold both
          obtain ⟨hf0, hf1⟩ := hf
          go_wp2_with fail
          refine (sub_any (-(acc : Int) * 10) _ _ ⟨by omega, by omega⟩ ⟨by omega, by omega⟩).mono ?_
          rintro e w1 ⟨rfl, hw1⟩
          subst hw1
          by_cases hg : Mn.Fit (-(acc : Int) * 10 - ((b.toNat : Int) - 48))
          · rw [both_fit hg]
            unfold both
            obtain ⟨hg0, hg1⟩ := hg
            go_wp2
            go_roundw
            case rel => exact ⟨pos + 1, 10 * acc + (b.toNat - 48), rfl, by congr 1; omega, HS.out.symm, by omega, by omega⟩
            case measure =>
              simp
              omega
          · rw [both_not hg]
            unfold both
            have HF : Hid (¬ Mn.Fit (-(Mn.worth 0 (txt s) : Int))) := by
              intro h
              have h1 := HW.out
              rw [← HS.out] at h1
              unfold Mn.Fit at h hg
              omega
            clear hg
            go_wp2
            go_ret2
            exact ⟨by rw [both_not HF.out]; rfl, below_iter w s _⟩
        · rw [both_not hf]
          unfold both
          have HF : Hid (¬ Mn.Fit (-(Mn.worth 0 (txt s) : Int))) := by
            intro h
            have h1 := HW.out
            rw [← HS.out] at h1
            unfold Mn.Fit at h hf
            omega
          clear hf
          go_wp2
          go_ret2
          exact ⟨by rw [both_not HF.out]; rfl, below_iter w s _⟩
    · have hnx : ∀ ty, (Instr.next (.pointer (some ⟨w.heap.size, 0, none⟩)) true ty).run Tryd.prog (w.iter s pos) = _ := fun ty => run_next_end w s pos ty hp
      have HE : Hid (acc = Mn.worth 0 (txt s)) := by
        have h := HC.out
        rw [drop_end s pos hp] at h
        exact h
      go_wp2
      go_ret2
      refine ⟨?_, below_iter w s pos⟩
      rw [← HE.out, both_fit ⟨by omega, by omega⟩]
      rfl
end Go.Proofs.YtagofjnckdhopaaDoor
