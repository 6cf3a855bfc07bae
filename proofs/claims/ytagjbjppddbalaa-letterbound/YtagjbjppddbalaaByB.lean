/- CONTRACTS OF THE BOOK OF MEMORY over bytes: Same, Roomy, Intact. -/
import Derived.Test.YtagjbjppddbalaaByK
import Derived.Lib.QuietBelow
namespace Go.Proofs.Ytagjbjppddbalaa.By
open Go.RowKit
open Mem

theorem take_snoc {xs ys : List UInt8} {k : Nat} (h : xs.take k = ys.take k) (ha : k < xs.length) (hb : k < ys.length) (e : xs[k] = ys[k]) : xs.take (k + 1) = ys.take (k + 1) := by
  rw [List.take_succ_eq_append_getElem ha, List.take_succ_eq_append_getElem hb, h, e]
set_option maxHeartbeats 1000000 in
theorem same_any (xs ys : List UInt8) (ao bo : Option Addr) (n m ca cb : Nat) (w : World) (hA : Ls w ao n ca xs) (hB : Ls w bo m cb ys) :
    Calls Try.prog 11 #[.slice ao n ca, .slice bo m cb] w fun e w' => e = .returned (.bool (decide (xs = ys))) ∧ Below w.heap.size w w' := by
  have HA := Lib.hid hA
  have HB := Lib.hid hB
  have HN := Lib.hid hA.len
  have HM := Lib.hid hB.len
  have hca := hA.reach
  have hfa := hA.fits
  have hcb := hB.reach
  have hfb := hB.fits
  clear hA hB
  by_cases hnm : n = m
  · subst hnm
    have hne : ((n : Int) != (n : Int)) = false := bne_self_eq_false _
    go_enter Try.func11, Try.ntmps11
    go_wp2
    go_loopw [5] (fun i wr => ∃ k : Nat, k ≤ n ∧ i = .int .i64 k ∧ Hid (xs.take k = ys.take k) ∧ Hid (Below w.heap.size w wr)) (fun i _ => n - (intOf i).toNat)
    case atStart => exact ⟨0, Nat.zero_le _, rfl, Lib.hid rfl, Lib.hid (Below.refl _ _)⟩
    case round =>
      obtain ⟨k, hk, rfl, HT, HBz⟩ := hrel
      by_cases hlt : k < n
      · obtain ⟨a, oa, rfl⟩ := HA.out.at (by omega)
        obtain ⟨b, ob, rfl⟩ := HB.out.at (by omega)
        have hka : k < xs.length := HN.out ▸ hlt
        have hkb : k < ys.length := HM.out ▸ hlt
        have c1 := HA.out.row k hka
        have c2 := HB.out.row k hkb
        rw [← (bcell HBz.out).1 _ _ (cell_lt c1)] at c1
        rw [← (bcell HBz.out).1 _ _ (cell_lt c2)] at c2
        unfold bv at c1 c2
        have hlt' : (k : Int) < (n : Int) := by omega
        by_cases hxy : xs[k] = ys[k]
        · have HT' : Hid (xs.take (k + 1) = ys.take (k + 1)) := Lib.hid (take_snoc HT.out hka hkb hxy)
          have hne : ((xs[k].toNat : Int) != (ys[k].toNat : Int)) = false := by rw [hxy]; simp
          clear hxy
          generalize xs[k] = x at *
          generalize ys[k] = y at *
          go_wp2
          go_quiet (fail)
          go_wp2
          go_roundw
          case rel => exact ⟨k + 1, by omega, by go_num, HT', Lib.hid (below_drewN HBz.out _)⟩
          case measure => simp [intOf]; omega
        · have hne : ((xs[k].toNat : Int) != (ys[k].toNat : Int)) = true := by
            rw [bne_iff_ne]
            intro h
            exact hxy (UInt8.toNat_inj.1 (by omega))
          have HF : Hid (decide (xs = ys) = false) := Lib.hid (by
            rw [decide_eq_false_iff_not]
            intro h
            subst h
            exact hxy rfl)
          clear hxy
          generalize xs[k] = x at *
          generalize ys[k] = y at *
          go_wp2
          go_quiet (fail)
          go_wp2
          go_ret
          exact ⟨by rw [HF.out]; rfl, below_drewN HBz.out _⟩
      · have HF : Hid (decide (xs = ys) = true) := Lib.hid (by
          rw [decide_eq_true_iff]
          have h1 := HT.out
          have h2 := HN.out
          have h3 := HM.out
          rwa [List.take_of_length_le (by omega), List.take_of_length_le (by omega)] at h1)
        go_wp2
        go_ret
        exact ⟨by rw [HF.out]; rfl, HBz.out⟩
  · have HF : Hid (decide (xs = ys) = false) := Lib.hid (by
      rw [decide_eq_false_iff_not]
      intro h
      subst h
      exact hnm (HN.out.trans HM.out.symm))
    have hne : ((n : Int) != (m : Int)) = true := bne_iff_ne.2 (by omega)
    go_enter Try.func11, Try.ntmps11
    go_wp2
    go_ret
    exact ⟨by rw [HF.out]; rfl, Below.refl _ _⟩
theorem set_rest {L t : List UInt8} {n k : Nat} {v : UInt8} (hn : L.length = n) : (L ++ t).set (n + k) v = L ++ t.set k v := by
  subst hn
  rw [List.set_append_right _ _ (by omega), Nat.add_sub_cancel_left]
theorem take_set {t : List UInt8} {k : Nat} {v : UInt8} (hk : k < t.length) (h : t.take k = List.replicate k v) : (t.set k v).take (k + 1) = List.replicate (k + 1) v := by
  rw [List.take_succ_eq_append_getElem (by simpa using hk), List.take_set_of_le (Nat.le_refl k), h, List.replicate_succ']
  simp
set_option maxHeartbeats 2000000 in
theorem roomy (bs : List UInt8) (mark : UInt8) (ao : Option Addr) (n cap : Nat) (w : World) (hL : Ls w ao n cap bs) (hn : n ≤ 140737488355000) :
    Calls Try.prog 19 #[.slice ao n cap, bv mark] w fun e w' => e = .returned (.slice (some ⟨w.heap.size, 0, none⟩) (n + 80) (n + 80)) ∧ Block w' w.heap.size (bs ++ List.replicate 80 mark) ∧ Below w.heap.size w w' := by
  have HL := Lib.hid hL
  have HN := Lib.hid hL.len
  have hcap := hL.reach
  have hfit := hL.fits
  clear hL
  have hmk := make (n + 80) (by omega)
  rw [show ((n + 80 : Nat) : Int) = (n : Int) + 80 from by omega] at hmk
  have hb0 := block_made w (n + 80)
  rw [← List.replicate_append_replicate] at hb0
  have hB1 := (Below.refl w.heap.size w).alloc (Nat.le_refl _) (.cells (zeros (n + 80)) 5)
  obtain ⟨W1, hcp, hblk, hbel, hsz⟩ := copy (w.alloc (.cells (zeros (n + 80)) 5)) w.heap.size 0 [] (List.replicate 80 0) (n + 80) ao n cap bs (by simpa using hb0) rfl HN.out (HL.out.below hB1).seg (some ⟨w.heap.size, 0, none⟩) (fun _ => rfl)
  rw [List.length_replicate] at hcp
  rw [List.nil_append] at hblk
  have HB1 := Lib.hid (hbel _ _ hB1 (Nat.le_refl _))
  have HBk := Lib.hid hblk
  have HM : Hid (bv mark = .int .u8 (mark.toNat : Int)) := Lib.hid rfl
  clear hb0 hblk hbel hsz hB1
  rw [HM.out]
  go_enter Try.func19, Try.ntmps19
  go_wp2
  clear hmk hcp
  generalize (mark.toNat : Int) = mk at *
  go_loopw [6] (fun i wr => ∃ (k : Nat) (t : List UInt8), k ≤ 80 ∧ i = .int .i64 ((n : Int) + k) ∧ Hid (t.length = 80 ∧ t.take k = List.replicate k mark ∧ Block wr w.heap.size (bs ++ t)) ∧ Hid (Below w.heap.size w wr)) (fun i _ => (n : Int).toNat + 80 - (intOf i).toNat)
  case atStart => exact ⟨0, List.replicate 80 0, by omega, by go_num, Lib.hid ⟨by simp, rfl, HBk.out⟩, HB1⟩
  case round =>
    obtain ⟨k, t, hk, rfl, HT, HB⟩ := hrel
    by_cases hlt : k < 80
    · have hkl : n + k < (bs ++ t).length := by rw [List.length_append, HT.out.1, ← HN.out]; omega
      have hg := HT.out.2.2.row (n + k) hkl
      have hfz := HT.out.2.2.frozen (n + k)
      obtain ⟨v0, hv0⟩ : ∃ v0, bv (bs ++ t)[n + k] = v0 := ⟨_, rfl⟩
      rw [hv0] at hg
      clear hv0
      go_wp2
      go_roundw
      case rel =>
        refine ⟨k + 1, t.set k mark, by omega, by go_num, Lib.hid ⟨by simpa using HT.out.1, take_set (by rw [HT.out.1]; exact hlt) HT.out.2.1, ?_⟩, Lib.hid (HB.out.setCell (p := ⟨w.heap.size, n + k, none⟩) (Nat.le_refl _) _)⟩
        have h := HT.out.2.2.store (n + k) mark
        rw [set_rest HN.out.symm, HM.out] at h
        exact h
      case measure => simp [intOf]; omega
    · have HF : Hid (t = List.replicate 80 mark) := Lib.hid (by
        have h := HT.out.2.1
        rw [List.take_of_length_le (by rw [HT.out.1]; omega), show k = 80 by omega] at h
        exact h)
      go_wp2
      go_ret
      exact ⟨rfl, HF.out ▸ HT.out.2.2, HB.out⟩
set_option maxHeartbeats 2000000 in
theorem intact (bs : List UInt8) (mark : UInt8) (ao : Option Addr) (g n cap : Nat) (w : World) (hL : Ls w ao n cap bs) (hB : Block w g (bs ++ List.replicate 80 mark)) (hn : n ≤ 140737488355000) :
    Calls Try.prog 21 #[.slice (some ⟨g, 0, none⟩) (n + 80) (n + 80), .slice ao n cap, bv mark] w fun e w' => e = .returned (.bool true) ∧ Below w.heap.size w w' := by
  have HL := Lib.hid hL
  have HN := Lib.hid hL.len
  have hcap := hL.reach
  have hfit := hL.fits
  have HBk := Lib.hid hB
  have hfl := hB.ls (by rw [List.length_append, List.length_replicate, ← hL.len]; omega)
  rw [show (bs ++ List.replicate 80 mark).length = n + 80 by rw [List.length_append, List.length_replicate, ← hL.len]] at hfl
  obtain ⟨hsl, hL1⟩ := hfl.to n (by omega)
  rw [List.take_left' hL.len.symm] at hL1
  have HL1 := Lib.hid hL1
  clear hL hB hfl hL1
  have hne : (((n : Int) + 80) != ((n : Int) + 80)) = false := bne_self_eq_false _
  unfold bv
  go_enter Try.func21, Try.ntmps21
  go_wp2_with fail
  refine (same_any bs bs _ _ _ _ _ _ w HL1.out HL.out).mono ?_
  rintro e w1 ⟨rfl, b1⟩
  have HB1 := Lib.hid b1
  have HBk1 := Lib.hid (HBk.out.below b1)
  rw [show decide (bs = bs) = true from decide_eq_true rfl]
  clear b1 hsl
  go_wp2_with fail
  go_loop [7] (fun i => ∃ k : Nat, k ≤ 80 ∧ i = .int .i64 ((n : Int) + k)) (fun i => (n : Int).toNat + 80 - (intOf i).toNat)
  case atStart => exact ⟨0, by omega, by go_num⟩
  case round =>
    obtain ⟨k, hk, rfl⟩ := hrel
    by_cases hlt : k < 80
    · have hc : w1.cell? ⟨g, n + k, none⟩ = some (.int .u8 (mark.toNat : Int)) := by
        have hnb := HN.out
        rw [HBk1.out.row (n + k) (by rw [List.length_append, List.length_replicate]; omega), List.getElem_append_right (by omega), List.getElem_replicate]
        rfl
      have hxx : ((mark.toNat : Int) != (mark.toNat : Int)) = false := by simp
      go_wp2
      go_round
      case rel => exact ⟨k + 1, by omega, by go_num⟩
      case measure => simp [intOf]; omega
    · go_wp2
      go_ret
      exact ⟨rfl, HB1.out⟩
end Go.Proofs.Ytagjbjppddbalaa.By
