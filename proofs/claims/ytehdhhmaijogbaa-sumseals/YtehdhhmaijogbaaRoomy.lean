/- CONTRACTS OF THE BOOK OF MEMORY over bytes: Roomy, Intact. -/
import Derived.Test.YtehdhhmaijogbaaBook
namespace Go.Proofs.Ytehdhhmaijogbaa
open Go.RowKit

theorem fill_step {L t : List Value} {m n k g : Nat} {w wr : World} {v : Value} (hn : L.length = n) (hk : k < m)
    (h : t.length = m ∧ t.take k = List.replicate k v ∧ Row wr g (L ++ t) ∧ Below g w wr) :
    Hid ((t.set k v).length = m ∧ (t.set k v).take (k + 1) = List.replicate (k + 1) v ∧ Row (wr.setCell ⟨g, n + k, none⟩ v) g (L ++ t.set k v) ∧ Below g w (wr.setCell ⟨g, n + k, none⟩ v)) := by
  obtain ⟨h1, h2, h3, h4⟩ := h
  refine ⟨by simpa using h1, ?_, ?_, h4.setCell (Nat.le_refl _) _⟩
  · rw [take_set_succ _ _ _ (by omega), h2, List.replicate_succ']
  · have := h3.set (n + k) v
    rwa [set_behind _ _ n k v hn] at this
set_option maxHeartbeats 1000000 in
theorem roomy_any (bs : List UInt8) (mark : UInt8) (ao : Option Addr) (n cap : Nat) (w : World) (hn : n = bs.length) (hl : n ≤ 140737488355328) (hs : Seg w ao bs) :
    Calls Try.prog 14 #[.slice ao n cap, .int .u8 (mark.toNat : Int)] w fun e w' => e = .returned (.slice (some ⟨w.heap.size, 0, none⟩) (n + 80) (n + 80)) ∧ Row w' w.heap.size (bs.map bv ++ List.replicate 80 (bv mark)) ∧ Below w.heap.size w w' := by
  have HN : Hid (n = bs.length) := hn
  have HS : Hid (Seg w ao bs) := hs
  clear hn hs
  have hmk := make_bytes (n + 80) (by omega)
  rw [show ((n + 80 : Nat) : Int) = (n : Int) + 80 from by omega] at hmk
  obtain ⟨W1, hcp, hrow1, hbel1, hsz1⟩ := copy_bytes (w.alloc (.cells (zeros (n + 80)) 5)) w.heap.size _ (n + 80) (n + 80) ao n cap bs (row_made w (n + 80)) (by simp) HN.out (HS.out.below ((Below.refl _ _).alloc (Nat.le_refl _) _))
  have hb1 := hbel1 w.heap.size w ((Below.refl _ _).alloc (Nat.le_refl _) _) (Nat.le_refl _)
  have HR1 : Hid (Row W1 w.heap.size (bs.map bv ++ List.replicate 80 (.int .u8 0))) := by
    have h := hrow1
    rw [List.take_of_length_le (by have := HN.out; omega), splice_zero n 80 _ _ (by rw [List.length_map]; exact HN.out.symm)] at h
    exact h
  have HB1 : Hid (Below w.heap.size w W1) := hb1
  have HM : Hid (bv mark = .int .u8 (mark.toNat : Int)) := rfl
  clear hrow1 hbel1 hb1
  go_enter Try.func14, Try.ntmps14
  go_wp2
  generalize (mark.toNat : Int) = mk at *
  go_loopw [6] (fun i wr => ∃ (k : Nat) (t : List Value), k ≤ 80 ∧ i = .int .i64 ((n : Int) + k) ∧ Hid (t.length = 80 ∧ t.take k = List.replicate k (.int .u8 mk) ∧ Row wr w.heap.size (bs.map bv ++ t) ∧ Below w.heap.size w wr)) (fun i _ => (n : Int).toNat + 80 - (intOf i).toNat)
  case atStart => exact ⟨0, List.replicate 80 (.int .u8 0), by omega, by go_num, by simp, rfl, HR1.out, HB1.out⟩
  case round =>
    obtain ⟨k, t, hk, rfl, HT⟩ := hrel
    by_cases hlt : k < 80
    · have hnb := HN.out
      have htl := HT.out.1
      have hg := (HT.out.2.2.1).cell (n + k) (by simp; omega)
      have hfz := (HT.out.2.2.1).frozen (n + k)
      obtain ⟨v0, hv0⟩ : ∃ v0, wr.cell? ⟨w.heap.size, n + k, none⟩ = some v0 := ⟨_, hg⟩
      clear hg htl hnb
      go_wp2
      go_roundw
      case rel => exact ⟨k + 1, _, by omega, by go_num, fill_step (by rw [List.length_map]; exact HN.out.symm) hlt HT.out⟩
      case measure => simp [intOf]; omega
    · have HF : Hid (Row wr w.heap.size (bs.map bv ++ List.replicate 80 (bv mark))) := by
        have h := HT.out
        have hk8 : k = 80 := by omega
        have e : t = List.replicate 80 (bv mark) := by
          have h1 := h.2.1
          rw [List.take_of_length_le (by omega), hk8] at h1
          rw [HM.out]
          exact h1
        rw [← e]
        exact h.2.2.1
      go_wp2
      go_ret
      exact ⟨rfl, HF.out, HT.out.2.2.2⟩
set_option maxHeartbeats 1000000 in
theorem intact_any (bs : List UInt8) (mark : UInt8) (ao : Option Addr) (g n cap : Nat) (w : World) (hn : n = bs.length) (hl : n ≤ 140737488355328) (hs : Seg w ao bs)
    (hr : Row w g (bs.map bv ++ List.replicate 80 (bv mark))) :
    Calls Try.prog 16 #[.slice (some ⟨g, 0, none⟩) (n + 80) (n + 80), .slice ao n cap, .int .u8 (mark.toNat : Int)] w fun e w' => e = .returned (.bool true) ∧ Below w.heap.size w w' := by
  have HN : Hid (n = bs.length) := hn
  have HS : Hid (Seg w ao bs) := hs
  have HR : Hid (Row w g (bs.map bv ++ List.replicate 80 (bv mark))) := hr
  clear hn hs hr
  have hne : (((n : Int) + 80) != ((n : Int) + 80)) = false := by simp
  go_enter Try.func16, Try.ntmps16
  go_wp2_with (go_at_call 12; go_must (refine (same_any bs bs _ _ _ _ _ _ _ HN.out HN.out (by omega) (by omega) HR.out.seg HS.out).mono ?_); rintro e w1 ⟨rfl, b1⟩)
  have HB : Hid (Below w.heap.size w w1) := b1
  have HR1 : Hid (Row w1 g (bs.map bv ++ List.replicate 80 (bv mark))) := HR.out.keep b1
  clear b1 HR HS
  go_loop [7] (fun i => ∃ k : Nat, k ≤ 80 ∧ i = .int .i64 ((n : Int) + k)) (fun i => (n : Int).toNat + 80 - (intOf i).toNat)
  case atStart => exact ⟨0, by omega, by go_num⟩
  case round =>
    obtain ⟨k, hk, rfl⟩ := hrel
    by_cases hlt : k < 80
    · have hc : w1.cell? ⟨g, n + k, none⟩ = some (.int .u8 (mark.toNat : Int)) := by
        have hnb := HN.out
        rw [HR1.out.cell (n + k) (by simp; omega), List.getElem_append_right (by simp; omega), List.getElem_replicate]
        rfl
      have hxx : ((mark.toNat : Int) != (mark.toNat : Int)) = false := by simp
      go_wp2
      go_round
      case rel => exact ⟨k + 1, by omega, by go_num⟩
      case measure => simp [intOf]; omega
    · go_wp2
      go_ret
      exact ⟨rfl, HB.out⟩
end Go.Proofs.Ytehdhhmaijogbaa
