/- api.Entry: CONTRACTS OF THE BOOK OF MEMORY: Roomy, Intact. (By genrows.py.) -/
import Derived.Test.YtnelakpagjdcdaaEtM
import Derived.Test.YtnelakpagjdcdaaEtB
namespace Go.Proofs.Ytnelakpagjdcdaa.Et
open Go.RowKit
open Mem

open Go.Sort (grow)

theorem set_rest {L t : List T} {n k : Nat} {v : T} (hn : L.length = n) : (L ++ t).set (n + k) v = L ++ t.set k v := by
  subst hn
  rw [List.set_append_right _ _ (by omega), Nat.add_sub_cancel_left]
theorem take_set {t : List T} {k : Nat} {v : T} (hk : k < t.length) (h : t.take k = List.replicate k v) : (t.set k v).take (k + 1) = List.replicate (k + 1) v := by
  rw [List.take_succ_eq_append_getElem (by simpa using hk), List.take_set_of_le (Nat.le_refl k), h, List.replicate_succ']
  simp
set_option maxHeartbeats 4000000 in
theorem roomy (rs : List T) (mark : T) (ao : Option Addr) (n cap : Nat) (w : World) (hR : Ls w ao n cap rs) (hn : n ≤ 90000) :
    Calls Try.prog 19 #[.slice ao n cap, val mark] w fun e w' => e = .returned (.slice (some ⟨w.heap.size + 1, 0, none⟩) (n + 80) (n + 80)) ∧ Block w' (w.heap.size + 1) (rs ++ List.replicate 80 mark) ∧ Below w.heap.size w w' := by
  have HR := Lib.hid hR
  have HN := Lib.hid hR.len
  have hcap := hR.reach
  have hfit := hR.fits
  clear hR
  have hmk := make (n + 80) (by omega)
  rw [show ((n + 80 : Nat) : Int) = (n : Int) + 80 from by omega] at hmk
  obtain ⟨U, hU, hbU, hCU⟩ := boxed1 w mark
  have hUs : U.heap.size = w.heap.size + 1 := by rw [← hU]; simp
  have hblk0 := block_made U (n + 80)
  rw [hUs, ← List.replicate_append_replicate] at hblk0
  have hbel0 : Below U.heap.size U (U.alloc (.cells (zeros (n + 80)) 35)) := (Below.refl _ _).alloc (Nat.le_refl _) _
  obtain ⟨W1, hcp, hblk, hbel, hsz⟩ := copy (U.alloc (.cells (zeros (n + 80)) 35)) (w.heap.size + 1) (List.replicate 80 zero) (n + 80) ao n cap rs hblk0 HN.out (((HR.out.below hbU).below hbel0).seg)
  rw [List.length_replicate] at hcp
  have HB1 := Lib.hid (hbel _ _ hbel0 (by omega))
  have HBk := Lib.hid hblk
  have HCU := Lib.hid hCU
  have HBU := Lib.hid hbU
  clear hblk hbel hblk0 hbel0 hCU hbU
  unfold val
  go_enter Try.func19, Try.ntmps19
  go_wp2
  go_loopw [6] (fun i wr => ∃ (k : Nat) (t : List T), k ≤ 80 ∧ i = .int .i64 ((n : Int) + k) ∧ Hid (t.length = 80 ∧ t.take k = List.replicate k mark ∧ Block wr (w.heap.size + 1) (rs ++ t)) ∧ Hid (Below U.heap.size U wr)) (fun i _ => (n : Int).toNat + 80 - (intOf i).toNat)
  case atStart => exact ⟨0, List.replicate 80 zero, by omega, by go_num, Lib.hid ⟨by simp, rfl, HBk.out⟩, HB1⟩
  case round =>
    obtain ⟨k, t, hk, rfl, HT, HB⟩ := hrel
    by_cases hlt : k < 80
    · have hC := HCU.out.below HB.out
      unfold C at hC
      obtain ⟨a0, a1, a2⟩ := hC
      obtain ⟨r0, hr0⟩ : ∃ r0, (rs ++ t)[n + k]? = some r0 := ⟨_, List.getElem?_eq_getElem (by rw [List.length_append, HT.out.1, ← HN.out]; omega)⟩
      have hrow := HT.out.2.2.row (n + k) (by rw [List.length_append, HT.out.1, ← HN.out]; omega)
      rw [show (rs ++ t)[n + k]'(by rw [List.length_append, HT.out.1, ← HN.out]; omega) = r0 from Option.some.inj ((List.getElem?_eq_getElem _).symm.trans hr0)] at hrow
      clear hr0
      obtain ⟨g0, g1, g2⟩ := hrow
      have hfz := HT.out.2.2.frozen
      clear hU hmk hcp
      go_wp2
      go_roundw
      case rel =>
        refine ⟨k + 1, t.set k mark, by omega, by go_num, Lib.hid ⟨by simpa using HT.out.1, take_set (by rw [HT.out.1]; exact hlt) HT.out.2.1, ?_⟩, Lib.hid (below_store HB.out (Nat.le_of_eq hUs) (n + k) _ _ _)⟩
        rw [← set_rest HN.out.symm]
        exact HT.out.2.2.store (n + k) (by rw [List.length_append, HT.out.1, ← HN.out]; omega) mark
      case measure => simp [intOf]; omega
    · have HF : Hid (t = List.replicate 80 mark) := by
        have h := HT.out.2.1
        rw [List.take_of_length_le (by rw [HT.out.1]; omega), show k = 80 by omega] at h
        exact h
      clear hU hmk hcp
      go_wp2
      go_ret
      exact ⟨rfl, HF.out ▸ HT.out.2.2, bchain HBU.out HB.out⟩
theorem full_ls {w : World} {g n : Nat} {L : List T} {mark : T} (hB : Block w g (L ++ List.replicate 80 mark)) (hn : n = L.length) (hn9 : n ≤ 90000) (hs : ∀ r ∈ L, Short r) (hm : Short mark) : Ls w (some ⟨g, 0, none⟩) (n + 80) (n + 80) (L ++ List.replicate 80 mark) :=
  Block.ls (zs := []) (by rw [List.append_nil]; exact hB) _ _ (by rw [List.length_append, List.length_replicate, ← hn]) (Nat.le_refl _) (by omega) (fun r hr => by
    rcases List.mem_append.1 hr with hr | hr
    · exact hs r hr
    · rw [(List.mem_replicate.1 hr).2]; exact hm)
set_option maxHeartbeats 4000000 in
theorem intact (rs : List T) (mark : T) (ao : Option Addr) (g n cap : Nat) (w0 w : World) (hw : Below w0.heap.size w0 w) (hR : Ls w ao n cap rs) (hB : Block w g (rs ++ List.replicate 80 mark)) (hm : Short mark) (hn : n ≤ 90000) :
    Calls Try.prog 22 #[.slice (some ⟨g, 0, none⟩) (n + 80) (n + 80), .slice ao n cap, val mark] w fun e w' => e = .returned (.bool true) ∧ Below w0.heap.size w0 w' := by
  have HW := Lib.hid hw
  have HN := Lib.hid hR.len
  have hcap := hR.reach
  have hfit := hR.fits
  obtain ⟨U, hU, hbU, hCU⟩ := boxed1 w mark
  have HR := Lib.hid (hR.below hbU)
  have hBU := hB.below hbU
  have HBk := Lib.hid hBU
  have hFull := full_ls hBU hR.len hn hR.short hm
  obtain ⟨hs1, hR1⟩ := hFull.to n (by omega)
  rw [List.take_left' hR.len.symm] at hR1
  have HR1 := Lib.hid hR1
  have HCU := Lib.hid hCU
  have HBU := Lib.hid (bchain HW.out hbU)
  clear hw hR hB hR1 hFull hBU hCU hbU
  have hne : (((n : Int) + 80) != ((n : Int) + 80)) = false := bne_self_eq_false _
  unfold val
  go_enter Try.func22, Try.ntmps22
  go_wp2_with fail
  refine (same_rows rs (some ⟨g, 0, none⟩) ao n (n + 80) cap U _ (Below.refl _ _) HR1.out HR.out).mono ?_
  rintro e w1 ⟨rfl, b1⟩
  have HB1 := Lib.hid b1
  clear b1 hU
  go_wp2_with fail
  go_loopw [7] (fun i wr => ∃ k : Nat, k ≤ 80 ∧ i = .int .i64 ((n : Int) + k) ∧ Hid (Below U.heap.size U wr)) (fun i _ => (n : Int).toNat + 80 - (intOf i).toNat)
  case atStart => exact ⟨0, by omega, by go_num, HB1⟩
  case round =>
    rename World => wz
    obtain ⟨k, hk, rfl, HB⟩ := hrel
    by_cases hlt : k < 80
    · have hC := HCU.out.below HB.out
      unfold C at hC
      obtain ⟨a0, a1, a2⟩ := hC
      have hrow := (HBk.out.row (n + k) (by rw [List.length_append, List.length_replicate, ← HN.out]; omega)).below HB.out
      rw [List.getElem_append_right (by rw [← HN.out]; omega), List.getElem_replicate] at hrow
      obtain ⟨g0, g1, g2⟩ := hrow
      have a0' := cell_regrown a0
      have a1' := cell_regrown a1
      have a2' := cell_regrown a2
      have g0' := cell_regrown g0
      have g1' := cell_regrown g1
      have g2' := cell_regrown g2
      have q0 : (mark.term == mark.term) = true := beq_self_eq_true _
      have q1 : (mark.mem == mark.mem) = true := beq_self_eq_true _
      have q2 : (mark.data.toList == mark.data.toList) = true := beq_self_eq_true _
      go_wp2
      refine wp_region_quiet_below (by kernel_rfl) (by kernel_rfl) ?_
      repeat (first | go_big_quiet_step (fail) | quiet_step (fail))
      refine wpQuiet_nil ?_
      intro _ hw'
      obtain ⟨⟨dq, osq⟩, hw''⟩ := hw'
      subst hw''
      have HBv := Lib.hid (bchain HB.out (below_regrown wz dq osq))
      go_wp2
      go_roundw
      case rel => exact ⟨k + 1, by omega, by go_num, HBv⟩
      case measure => simp [intOf]; omega
    · go_wp2
      go_ret
      exact ⟨rfl, bchain HBU.out HB.out⟩
end Go.Proofs.Ytnelakpagjdcdaa.Et
