/- CONTRACTS OF sum.Seal AND sum.Open. -/
import Derived.Test.YtehdhhmaijogbaaSum
namespace Go.Proofs.Ytehdhhmaijogbaa
open Go.RowKit

theorem four_length (c : Nat) : (Crc.four c).length = 4 := rfl
theorem byte_of (c k : Nat) (hk : k < 4) : (c : Int) / 2 ^ (8 * k) % 256 = (((Crc.four c)[k]'(by rw [four_length]; exact hk)).toNat : Int) := by
  match k, hk with
  | 0, _ => simp [Crc.four, UInt8.toNat_ofNat']
  | 1, _ => simp [Crc.four, UInt8.toNat_ofNat']
  | 2, _ => simp [Crc.four, UInt8.toNat_ofNat']
  | 3, _ => simp [Crc.four, UInt8.toNat_ofNat']
theorem seal_step {bs : List UInt8} {c n k g : Nat} {t : List Value} {w wr : World} {v : Value} (hn : n = bs.length) (hk : k < 4)
    (h : t.length = 4 ∧ t.take k = ((Crc.four c).map bv).take k ∧ Row wr g (bs.map bv ++ t) ∧ Below g w wr) (hv : v = bv ((Crc.four c)[k]'(by rw [four_length]; exact hk))) :
    Hid ((t.set k v).length = 4 ∧ (t.set k v).take (k + 1) = ((Crc.four c).map bv).take (k + 1) ∧ Row (wr.setCell ⟨g, n + k, none⟩ v) g (bs.map bv ++ t.set k v) ∧ Below g w (wr.setCell ⟨g, n + k, none⟩ v)) := by
  obtain ⟨h1, h2, h3, h4⟩ := h
  refine ⟨by simpa using h1, ?_, ?_, h4.setCell (Nat.le_refl _) _⟩
  · rw [take_set_succ _ _ _ (by omega), h2, List.take_succ_eq_append_getElem (i := k) (by simpa [four_length] using hk), hv]
    simp
  · have := h3.set (n + k) v
    rwa [set_behind _ _ n k v (by simpa using hn.symm)] at this
set_option maxHeartbeats 1000000 in
theorem seal_any (bs : List UInt8) (ao : Option Addr) (n cap : Nat) (w : World) (hn : n = bs.length) (hl : n ≤ 140737488355328) (hs : Seg w ao bs) :
    Calls Try.prog 9 #[.slice ao n cap] w fun e w' => e = .returned (.slice (some ⟨w.heap.size, 0, none⟩) (n + 4) (n + 4)) ∧ Row w' w.heap.size ((Crc.sealed bs).map bv) ∧ Below w.heap.size w w' := by
  have HN : Hid (n = bs.length) := hn
  have HS : Hid (Seg w ao bs) := hs
  clear hn hs
  have hmk := make_bytes (n + 4) (by omega)
  rw [show ((n + 4 : Nat) : Int) = (n : Int) + 4 from by omega] at hmk
  obtain ⟨W1, hcp, hrow1, hbel1, hsz1⟩ := copy_bytes (w.alloc (.cells (zeros (n + 4)) 5)) w.heap.size _ (n + 4) (n + 4) ao n cap bs (row_made w (n + 4)) (by simp) HN.out (HS.out.below ((Below.refl _ _).alloc (Nat.le_refl _) _))
  have hb1 := hbel1 w.heap.size w ((Below.refl _ _).alloc (Nat.le_refl _) _) (Nat.le_refl _)
  have HR1 : Hid (Row W1 w.heap.size (bs.map bv ++ List.replicate 4 (.int .u8 0))) := by
    have h := hrow1
    rw [List.take_of_length_le (by have := HN.out; omega), splice_zero n 4 _ _ (by rw [List.length_map]; exact HN.out.symm)] at h
    exact h
  have HB1 : Hid (Below w.heap.size w W1) := hb1
  clear hrow1 hbel1 hb1
  go_enter Try.func9, Try.ntmps9
  have hcl := Crc.on_lt 0 bs (by omega)
  have HC : Hid (Crc.sealed bs = bs ++ Crc.four (Crc.on 0 bs)) := rfl
  have HZ : Hid (w.heap.size + 1 = W1.heap.size) := by show _ = _; rw [hsz1]; simp
  go_wp2_with (go_at_call 10; go_must (refine (of_one bs _ _ _ _ _ HZ.out (HS.out.below HB1.out) HN.out (by omega)).mono ?_); rintro e w' ⟨rfl, rfl⟩)
  generalize Crc.on 0 bs = c at *
  go_loopw [16] (fun i wr => ∃ (k : Nat) (t : List Value), k ≤ 4 ∧ i = .int .i64 k ∧ Hid (t.length = 4 ∧ t.take k = ((Crc.four c).map bv).take k ∧ Row wr w.heap.size (bs.map bv ++ t) ∧ Below w.heap.size w wr)) (fun i _ => 4 - (intOf i).toNat)
  case atStart => exact ⟨0, List.replicate 4 (.int .u8 0), by omega, rfl, rfl, rfl, HR1.out.alloc _, HB1.out.alloc (by rw [← HZ.out]; omega) _⟩
  case round =>
    obtain ⟨k, t, hk, rfl, HT⟩ := hrel
    by_cases hlt : k < 4
    · have hnb := HN.out
      have htl := HT.out.1
      have hg := (HT.out.2.2.1).cell (n + k) (by simp; omega)
      have hfz := (HT.out.2.2.1).frozen (n + k)
      obtain ⟨v0, hv0⟩ : ∃ v0, wr.cell? ⟨w.heap.size, n + k, none⟩ = some v0 := ⟨_, hg⟩
      clear hg htl hnb
      go_wp2
      go_roundw
      case rel => exact ⟨k + 1, _, by omega, by go_num, seal_step HN.out hlt HT.out (congrArg (Value.int .u8) (byte_of c k hlt))⟩
      case measure => simp [intOf]; omega
    · have HF : Hid (Row wr w.heap.size ((Crc.sealed bs).map bv)) := by
        have h := HT.out
        have e : t = (Crc.four c).map bv := by
          have h1 := h.2.1
          rwa [List.take_of_length_le (by omega), List.take_of_length_le (by simp [four_length]; omega)] at h1
        show Row _ _ _
        rw [HC.out, List.map_append, ← e]
        exact h.2.2.1
      go_wp2
      go_ret
      exact ⟨rfl, HF.out, HT.out.2.2.2⟩
end Go.Proofs.Ytehdhhmaijogbaa
