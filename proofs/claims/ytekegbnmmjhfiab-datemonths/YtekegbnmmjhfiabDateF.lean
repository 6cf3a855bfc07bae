/- CONTRACTS OF PACKAGE date: formed, number. -/
import Derived.Test.YtekegbnmmjhfiabDateR
import Derived.Laws.RangeString
import Derived.Laws.RangeAny
namespace Go.Proofs.Ytekegbnmmjhfiab
open Go.RowKit

/-- may this byte stand at this place of a day's text? -/
def okAt (k : Nat) (b : UInt8) : Bool := if k = 4 ∨ k = 7 then b == 45 else Dt.isDig b
def okFrom : Nat → List UInt8 → Bool
  | _, [] => true
  | k, b :: l => okAt k b && okFrom (k + 1) l
def formB (l : List UInt8) : Bool := decide (l.length = 10) && okFrom 0 l
theorem formB_len {l : List UInt8} (h : l.length ≠ 10) : formB l = false := by
  unfold formB
  rw [decide_eq_false h]
  rfl
theorem formB_ten {l : List UInt8} (h : l.length = 10) : formB l = okFrom 0 l := by
  unfold formB
  rw [decide_eq_true h]
  rfl
theorem formB_parse (a b c d e f g h i j : UInt8) : formB [a, b, c, d, e, f, g, h, i, j] = (Dt.isDig a && Dt.isDig b && Dt.isDig c && Dt.isDig d && (e == 45) && Dt.isDig f && Dt.isDig g && (h == 45) && Dt.isDig i && Dt.isDig j) := by
  rw [formB_ten rfl]
  simp [okFrom, okAt, Bool.and_assoc]
theorem form_told {l : List UInt8} (h : formB l = false) : Dt.told l = (0, 0, 0, 4) := by
  by_cases hl : l.length = 10
  · obtain ⟨a, b, c, d, e, f, g, k, i, j, rfl⟩ := Dt.ten hl
    rw [formB_parse] at h
    apply Dt.told_none
    rw [Dt.parse_ten, h]
    rfl
  · exact told_len hl
theorem ok_at (s : ByteArray) (k : Nat) (h : k < s.size) : okFrom k ((txt s).drop k) = (okAt k (s[k]'h) && okFrom (k + 1) ((txt s).drop (k + 1))) := by
  rw [List.drop_eq_getElem_cons (by rw [txt_len]; exact h)]
  rfl
theorem dash_no {b : UInt8} (h : b.toNat ≠ 45) : (b == 45) = false := beq_eq_false_iff_ne.2 fun k => h (by rw [k]; rfl)
theorem dash_yes {b : UInt8} (h : b.toNat = 45) : (b == 45) = true := beq_iff_eq.2 (UInt8.toNat_inj.1 h)
set_option maxHeartbeats 2000000 in
theorem formed_date (s : ByteArray) (w : World) (_hs : s.size ≤ 140737488355328) :
    Calls Try.prog 20 #[.string s] w fun e w' => e = .returned (.bool (formB (txt s))) ∧ w' = w := by
  by_cases hl : s.size = 10
  · rw [formB_ten (by rw [txt_len]; exact hl)]
    go_enter Try.func20, Try.ntmps20
    go_wp2
    go_loop [7, 3] (fun t _ => ∃ k : Nat, k ≤ 10 ∧ t = .int .i64 k ∧ Hid (okFrom k ((txt s).drop k) = okFrom 0 (txt s))) (fun t _ => 10 - (intOf t).toNat)
    case atStart => exact ⟨0, by omega, rfl, by show _ = _; simp⟩
    case round =>
      obtain ⟨k, hk, rfl, HK⟩ := hrel
      by_cases hlt : k < 10
      · have hks : k < s.size := by omega
        have HS := Lib.hid (ok_at s k hks)
        obtain ⟨b, hb⟩ : ∃ b, s[k]'hks = b := ⟨_, rfl⟩
        rw [hb] at HS
        by_cases h47 : k = 4 ∨ k = 7
        · have HO : Hid (okAt k b = (b == 45)) := by
            show _ = _
            unfold okAt
            rw [if_pos h47]
          by_cases hd : b.toNat = 45
          · have HD := Lib.hid (dash_yes hd)
            have hd' : ((b.toNat : Int) != 45) = false := by rw [hd]; rfl
            rcases h47 with rfl | rfl
            all_goals (
              go_wp2
              go_round
              case rel => first | exact ⟨5, by omega, rfl, by show _ = _; rw [← HK.out, HS.out, HO.out, HD.out]; rfl⟩ | exact ⟨8, by omega, rfl, by show _ = _; rw [← HK.out, HS.out, HO.out, HD.out]; rfl⟩
              case measure => simp [intOf])
          · have HD := Lib.hid (dash_no hd)
            have hd' : ((b.toNat : Int) != 45) = true := bne_iff_ne.2 (by omega)
            rcases h47 with rfl | rfl
            all_goals (
              go_wp2
              go_ret
              exact ⟨ret_bool (by rw [← HK.out, HS.out, HO.out, HD.out]; rfl), rfl⟩)
        · have HO : Hid (okAt k b = Dt.isDig b) := by
            show _ = _
            unfold okAt
            rw [if_neg h47]
          have h4 : ((k : Int) == 4) = false := beq_eq_false_iff_ne.2 (by omega)
          have h7 : ((k : Int) == 7) = false := beq_eq_false_iff_ne.2 (by omega)
          by_cases h48 : 48 ≤ b.toNat
          · by_cases h57 : b.toNat ≤ 57
            · have HD : Hid (Dt.isDig b = true) := Lib.hid (decide_eq_true ⟨h48, h57⟩)
              go_wp2
              go_round
              case rel => exact ⟨k + 1, by omega, by go_num, by show _ = _; rw [← HK.out, HS.out, HO.out, HD.out]; rfl⟩
              case measure => simp [intOf]; omega
            · have HD : Hid (Dt.isDig b = false) := Lib.hid (decide_eq_false (by omega))
              have h57' : 57 < b.toNat := by omega
              go_wp2
              go_ret
              exact ⟨ret_bool (by rw [← HK.out, HS.out, HO.out, HD.out]; rfl), rfl⟩
          · have HD : Hid (Dt.isDig b = false) := Lib.hid (decide_eq_false (by omega))
            have h48' : b.toNat < 48 := by omega
            go_wp2
            go_ret
            exact ⟨ret_bool (by rw [← HK.out, HS.out, HO.out, HD.out]; rfl), rfl⟩
      · obtain rfl : k = 10 := by omega
        go_wp2
        go_ret
        exact ⟨ret_bool (by rw [← HK.out, List.drop_eq_nil_of_le (by rw [txt_len]; omega)]; rfl), rfl⟩
  · rw [formB_len (by rw [txt_len]; exact hl)]
    have h1 : ((s.size : Int) != 10) = true := bne_iff_ne.2 (by omega)
    go_enter Try.func20, Try.ntmps20
    go_wp2
    go_ret
    exact ⟨rfl, rfl⟩
theorem below_iter (w : World) (s : ByteArray) (pos : Nat) : Below w.heap.size w (w.iter s pos) := (Below.refl _ _).alloc (Nat.le_refl _) _
theorem pv_take (s : ByteArray) (pos : Nat) (h : pos < s.size) : (txt s).take (pos + 1) = (txt s).take pos ++ [s[pos]'h] := by
  rw [List.take_add_one, List.getElem?_eq_getElem (by rw [txt_len]; exact h)]
  rfl
set_option maxHeartbeats 1000000 in
theorem number_date (s : ByteArray) (w : World) (hs : s.size ≤ 4) (hd : ∀ b ∈ txt s, Dt.isDig b = true) :
    Calls Try.prog 21 #[.string s] w fun e w' => e = .returned (.int .i64 (pv (txt s) : Nat)) ∧ Below w.heap.size w w' := by
  have HD := Lib.hid hd
  clear hd
  go_enter Try.func21, Try.ntmps21
  go_wp2
  go_loopw [3, 5] (fun v _ w' => ∃ (pos acc : Nat), w' = w.iter s pos ∧ v = .int .i64 acc ∧ Hid (pv ((txt s).take pos) = acc) ∧ pos ≤ s.size ∧ acc ≤ 300000) (fun _ _ w' => s.size - w'.iterPos w.heap.size)
  case atStart => exact ⟨0, 0, rfl, rfl, by show _ = _; rfl, by omega, by omega⟩
  case round =>
    obtain ⟨pos, acc, rfl, rfl, HC, hb, ha⟩ := hrel
    by_cases hp : pos < s.size
    · obtain ⟨b, hbb⟩ : ∃ b, s[pos]'hp = b := ⟨_, rfl⟩
      have hg : 48 ≤ b.toNat ∧ b.toNat ≤ 57 := of_decide_eq_true (HD.out b (hbb ▸ List.getElem_mem (by rw [txt_len]; exact hp)))
      have HP : Hid (pv ((txt s).take (pos + 1)) = 10 * acc + (b.toNat - 48)) := by
        show _ = _
        have h := pv_step ((txt s).take pos) b hg.1
        rw [← hbb, ← pv_take s pos hp, hbb, HC.out] at h
        omega
      have HL := Lib.hid (pv_le ((txt s).take (pos + 1)) (by rw [List.length_take, txt_len]; omega))
      have hnx : ∀ ty, (Instr.next (.pointer (some ⟨w.heap.size, 0, none⟩)) true ty).run Try.prog (w.iter s pos) = .ok (.tuple #[.bool true, .int .i64 pos, .int .i32 (b.toNat : Int)]) (w.iter s (pos + 1)) := fun ty => by
        have h := run_next_any (P := Try.prog) w s pos ty hp
        rw [decode_ascii s pos hp (by rw [hbb]; omega), hbb] at h
        exact h
      obtain ⟨hg0, hg1⟩ := hg
      clear hbb
      go_wp2
      go_roundw
      case rel => exact ⟨pos + 1, 10 * acc + (b.toNat - 48), rfl, by go_num, HP.out, by omega, by rw [← HP.out]; exact HL.out⟩
      case measure =>
        simp
        omega
    · have hnx : ∀ ty, (Instr.next (.pointer (some ⟨w.heap.size, 0, none⟩)) true ty).run Try.prog (w.iter s pos) = _ := fun ty => run_next_end w s pos ty hp
      go_wp2
      go_ret
      exact ⟨ret_int (by rw [← HC.out, List.take_of_length_le (by rw [txt_len]; omega)]), below_iter w s pos⟩
theorem number_gen (s : ByteArray) (w0 w : World) (hb : Below w0.heap.size w0 w) (hs : s.size ≤ 4) (hd : ∀ b ∈ txt s, Dt.isDig b = true) :
    Calls Try.prog 21 #[.string s] w fun e w' => e = .returned (.int .i64 (pv (txt s) : Nat)) ∧ Below w0.heap.size w0 w' :=
  (number_date s w hs hd).mono fun _ _ ⟨h1, h2⟩ => ⟨h1, hb.trans (h2.mono hb.size)⟩
end Go.Proofs.Ytekegbnmmjhfiab
