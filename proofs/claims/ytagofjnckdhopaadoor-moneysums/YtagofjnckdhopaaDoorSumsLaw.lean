/- THE WALK OF MoneySums. -/
import Derived.Test.YtagofjnckdhopaaDoorMRuns
import Derived.Test.YtagofjnckdhopaaDoorRefMoney
import Derived.Test.YtagofjnckdhopaaDoorAppI
namespace Go.Proofs.YtagofjnckdhopaaDoor
open Go.RowKit

set_option maxHeartbeats 4000000 in
theorem sums_short (ao : Option Addr) (n cap : Nat) (zs : List Int) (w : World) (hn : n = zs.length) (h300 : n ≤ 300) (hnil : ao = none → cap = 0) (hs : SegI w ao zs) (hz : ∀ z ∈ zs, Mn.Fit z) (ht : Tab w) :
    Calls Tryd.prog 5 #[.slice ao n cap] w fun e w' => e = .returned (.bool true) ∧ Below w.heap.size w w' := by
  have HN : Hid (n = zs.length) := hn
  have HS := Lib.hid hs
  have HZ := Lib.hid hz
  have HL := Lib.hid hnil
  have HT := Lib.hid ht
  clear hn hs hz hnil ht
  have h300' : ¬ (300 : Int) < (n : Int) := by omega
  go_enter Tryd.func5, Tryd.ntmps5
  go_wp2_with (at_builtin; go_must (refine wpList_append_ints _ rfl (.tmp 15) (.tmp 16) rfl w.heap.size 0 _ [] rfl (own_lit w [] w.heap.size (Nat.le_refl _) (by simp)) ao n cap zs rfl HN.out HL.out (HS.out.below ((Below.refl _ _).alloc (Nat.le_refl _) _)) (by omega) (by simp) ?_))
  intro v w1 hown hgrow
  have HB1 : Hid (Below w.heap.size w w1) := ((Below.refl _ _).alloc (Nat.le_refl _) _).grown hgrow (by simp) (by rintro k ⟨⟩; exact Nat.le_refl _)
  obtain ⟨ao2, cp2, rfl, -, hs2⟩ := owns_seg hown
  have HS2 := Lib.hid hs2.1
  have HS1 := Lib.hid (HS.out.below HB1.out)
  clear hown hgrow hs2
  go_wp2_with fail
  refine (sum_any zs _ _ _ _ HN.out (by omega) HZ.out HS2.out).mono ?_
  rintro e w2 ⟨rfl, hw2⟩
  subst hw2
  obtain ⟨s1, s2, hs⟩ : ∃ s1 s2, sumGo 0 zs = (s1, s2) := ⟨_, _, rfl⟩
  have HSM := Lib.hid hs
  clear hs
  rw [HSM.out]
  unfold both
  go_wp2
  go_loopw [6, 7, 8] (fun t f i w' => ∃ (k : Nat) (acc fl : Int), w' = w2 ∧ k ≤ n ∧ i = .int .i64 k ∧ t = .int .i64 acc ∧ f = .int .i64 fl ∧ Hid (Mn.Fit acc) ∧ ((fl = 0 ∧ Hid (sumGo acc (zs.drop k) = (s1, s2))) ∨ (fl = 7 ∧ Hid (s1 = acc ∧ s2 = 7)))) (fun _ _ i _ => n - (intOf i).toNat)
  case atStart => exact ⟨0, 0, 0, rfl, Nat.zero_le _, rfl, rfl, rfl, ⟨by omega, by omega⟩, .inl ⟨rfl, HSM.out⟩⟩
  case round =>
    obtain ⟨k, acc, fl, rfl, hk, rfl, rfl, rfl, HA, hor⟩ := hrel
    rename World => W
    have hdone : (k < n ∧ fl = 0 ∧ Hid (sumGo acc (zs.drop k) = (s1, s2))) ∨ (((k = n ∧ fl = 0) ∨ fl = 7) ∧ Hid (s1 = acc ∧ s2 = fl)) := by
      rcases hor with ⟨h1, h2⟩ | ⟨h1, h2⟩
      · rcases Nat.lt_or_ge k n with h3 | h3
        · exact .inl ⟨h3, h1, h2⟩
        · refine .inr ⟨.inl ⟨by omega, h1⟩, ?_⟩
          have h4 := h2.out
          rw [List.drop_eq_nil_of_le (by have := HN.out; omega)] at h4
          have h5 : ((acc, 0) : Int × Int) = (s1, s2) := h4
          cases h5
          exact ⟨rfl, h1.symm⟩
      · exact .inr ⟨.inr h1, by rw [h1]; exact h2⟩
    clear hor
    rcases hdone with ⟨hlt, rfl, HD⟩ | ⟨hend, HD⟩
    · have hkz : k < zs.length := by have := HN.out; omega
      have hseg := HS1.out
      rcases hseg with h0 | ⟨b, off, hao, hc⟩
      · rw [h0] at hkz
        simp at hkz
      have c1 := hc k hkz
      have HD2 : Hid (sumGo acc (zs[k] :: zs.drop (k + 1)) = (s1, s2)) := by
        show _ = _
        rw [← drop_at hkz]
        exact HD.out
      have HF := Lib.hid (HZ.out zs[k] (List.getElem_mem _))
      generalize zs[k] = z at *
      have hlt' : (k : Int) < (n : Int) := by omega
      clear hc HD
      first | subst hao | (cases hao)
      go_wp2_with fail
      refine (refAdd_any acc z _ HA.out HF.out).mono ?_
      rintro e w3 ⟨rfl, hw3⟩
      subst hw3
      by_cases hf : Mn.Fit (acc + z)
      · rw [both_fit hf]
        unfold both
        have HF2 := Lib.hid hf
        clear hf
        go_wp2
        go_roundw
        case rel =>
          refine ⟨k + 1, acc + z, 0, trivial, by omega, by go_num, rfl, rfl, HF2.out, .inl ⟨rfl, ?_⟩⟩
          show _ = _
          rw [← HD2.out, sumGo_fit HF2.out]
        case measure => simp [intOf]; omega
      · rw [both_not hf]
        unfold both
        have HF2 := Lib.hid hf
        clear hf
        go_wp2
        go_roundw
        case rel =>
          refine ⟨k + 1, 0, 7, trivial, by omega, by go_num, rfl, rfl, ⟨by omega, by omega⟩, .inr ⟨rfl, ?_⟩⟩
          have h1 := HD2.out
          rw [sumGo_not HF2.out] at h1
          cases h1
          exact ⟨rfl, rfl⟩
        case measure => simp [intOf]; omega
    · obtain ⟨h1, h2⟩ := HD.out
      clear HD HSM
      have hend2 : (fl = 0 ∧ ¬ (k : Int) < (n : Int)) ∨ (fl = 7 ∧ (k : Int) < (n : Int)) ∨ (fl = 7 ∧ ¬ (k : Int) < (n : Int)) := by omega
      clear hend
      rcases hend2 with ⟨rfl, hkn⟩ | ⟨rfl, hkn⟩ | ⟨rfl, hkn⟩
      all_goals (
        subst h1 h2
        go_wp2
        go_loopw [9] (fun i wr => ∃ j : Nat, j ≤ n ∧ i = .int .i64 j ∧ Below W.heap.size W wr) (fun i _ => n - (intOf i).toNat)
        case atStart => exact ⟨0, Nat.zero_le _, rfl, Below.refl _ _⟩
        case round =>
          obtain ⟨j, hj, rfl, hbw⟩ := hrel
          rename World => V
          have HBW := Lib.hid hbw
          by_cases hjl : j < n
          · have hjz : j < zs.length := by have := HN.out; omega
            rcases HS1.out with h0 | ⟨b, off, hao, hc⟩
            · rw [h0] at hjz
              simp at hjz
            rcases HS2.out with h0 | ⟨b2, off2, hao2, hc2⟩
            · rw [h0] at hjz
              simp at hjz
            have c1 := (hbw.cell (p := ⟨b, off + j, none⟩) (lt_of_cell (hc j hjz))).trans (hc j hjz)
            have c2 := (hbw.cell (p := ⟨b2, off2 + j, none⟩) (lt_of_cell (hc2 j hjz))).trans (hc2 j hjz)
            clear hc hc2 hbw
            generalize zs[j] = z at *
            have hne : (z != z) = false := by simp
            have hjl' : (j : Int) < (n : Int) := by omega
            first | subst hao | (cases hao)
            subst hao2
            go_wp2
            go_quiet (fail)
            go_wp2
            go_roundw
            case rel => exact ⟨j + 1, by omega, by go_num, below_drewN HBW.out _⟩
            case measure => simp [intOf]; omega
          · have hjl' : ¬ (j : Int) < (n : Int) := by omega
            clear hbw
            go_wp2_with fail
            refine (runs_from w _ HT.out (HB1.out.trans (HBW.out.mono HB1.out.size))).mono ?_
            rintro e w5 ⟨rfl, b5⟩
            have HB5 := Lib.hid b5
            clear b5
            go_wp2_with fail
            go_ret
            exact ⟨rfl, HB5.out⟩)
set_option maxHeartbeats 4000000 in
theorem sums_long (b off n cap : Nat) (ys : List Int) (w : World) (hn : 300 = ys.length) (h300 : 300 < n) (hcap : n ≤ cap) (hcap2 : cap ≤ 140737488351232) (hs : SegI w (some ⟨b, off, none⟩) ys) (hz : ∀ z ∈ ys, Mn.Fit z) (ht : Tab w) :
    Calls Tryd.prog 5 #[.slice (some ⟨b, off, none⟩) n cap] w fun e w' => e = .returned (.bool true) ∧ Below w.heap.size w w' := by
  have HN : Hid (300 = ys.length) := hn
  have HS := Lib.hid hs
  have HZ := Lib.hid hz
  have HL : Hid ((some (⟨b, off, none⟩ : Addr)) = none → cap = 0) := fun h => by cases h
  have HT := Lib.hid ht
  clear hn hs hz ht
  have h300' : (300 : Int) < (n : Int) := by omega
  go_enter Tryd.func5, Tryd.ntmps5
  go_wp2_with (at_builtin; go_must (refine wpList_append_ints _ rfl (.tmp 15) (.tmp 16) rfl w.heap.size 0 _ [] rfl (own_lit w [] w.heap.size (Nat.le_refl _) (by simp)) (some ⟨b, off, none⟩) 300 cap ys rfl HN.out HL.out (HS.out.below ((Below.refl _ _).alloc (Nat.le_refl _) _)) (by omega) (by simp) ?_))
  intro v w1 hown hgrow
  have HB1 : Hid (Below w.heap.size w w1) := ((Below.refl _ _).alloc (Nat.le_refl _) _).grown hgrow (by simp) (by rintro k ⟨⟩; exact Nat.le_refl _)
  obtain ⟨ao2, cp2, rfl, -, hs2⟩ := owns_seg hown
  have HS2 := Lib.hid hs2.1
  have HS1 := Lib.hid (HS.out.below HB1.out)
  clear hown hgrow hs2
  go_wp2_with fail
  refine (sum_any ys _ _ _ _ HN.out (by omega) HZ.out HS2.out).mono ?_
  rintro e w2 ⟨rfl, hw2⟩
  subst hw2
  obtain ⟨s1, s2, hs⟩ : ∃ s1 s2, sumGo 0 ys = (s1, s2) := ⟨_, _, rfl⟩
  have HSM := Lib.hid hs
  clear hs
  rw [HSM.out]
  unfold both
  go_wp2
  go_loopw [6, 7, 8] (fun t f i w' => ∃ (k : Nat) (acc fl : Int), w' = w2 ∧ k ≤ 300 ∧ i = .int .i64 k ∧ t = .int .i64 acc ∧ f = .int .i64 fl ∧ Hid (Mn.Fit acc) ∧ ((fl = 0 ∧ Hid (sumGo acc (ys.drop k) = (s1, s2))) ∨ (fl = 7 ∧ Hid (s1 = acc ∧ s2 = 7)))) (fun _ _ i _ => 300 - (intOf i).toNat)
  case atStart => exact ⟨0, 0, 0, rfl, Nat.zero_le _, rfl, rfl, rfl, ⟨by omega, by omega⟩, .inl ⟨rfl, HSM.out⟩⟩
  case round =>
    obtain ⟨k, acc, fl, rfl, hk, rfl, rfl, rfl, HA, hor⟩ := hrel
    rename World => W
    have hdone : (k < 300 ∧ fl = 0 ∧ Hid (sumGo acc (ys.drop k) = (s1, s2))) ∨ (((k = 300 ∧ fl = 0) ∨ fl = 7) ∧ Hid (s1 = acc ∧ s2 = fl)) := by
      rcases hor with ⟨h1, h2⟩ | ⟨h1, h2⟩
      · rcases Nat.lt_or_ge k 300 with h3 | h3
        · exact .inl ⟨h3, h1, h2⟩
        · refine .inr ⟨.inl ⟨by omega, h1⟩, ?_⟩
          have h4 := h2.out
          rw [List.drop_eq_nil_of_le (by have := HN.out; omega)] at h4
          have h5 : ((acc, 0) : Int × Int) = (s1, s2) := h4
          cases h5
          exact ⟨rfl, h1.symm⟩
      · exact .inr ⟨.inr h1, by rw [h1]; exact h2⟩
    clear hor
    rcases hdone with ⟨hlt, rfl, HD⟩ | ⟨hend, HD⟩
    · have hkz : k < ys.length := by have := HN.out; omega
      have hseg := HS1.out
      rcases hseg with h0 | ⟨b, off, hao, hc⟩
      · rw [h0] at hkz
        simp at hkz
      have c1 := hc k hkz
      have HD2 : Hid (sumGo acc (ys[k] :: ys.drop (k + 1)) = (s1, s2)) := by
        show _ = _
        rw [← drop_at hkz]
        exact HD.out
      have HF := Lib.hid (HZ.out ys[k] (List.getElem_mem _))
      generalize ys[k] = z at *
      have hlt' : (k : Int) < (300 : Int) := by omega
      clear hc HD
      first | subst hao | (cases hao)
      go_wp2_with fail
      refine (refAdd_any acc z _ HA.out HF.out).mono ?_
      rintro e w3 ⟨rfl, hw3⟩
      subst hw3
      by_cases hf : Mn.Fit (acc + z)
      · rw [both_fit hf]
        unfold both
        have HF2 := Lib.hid hf
        clear hf
        go_wp2
        go_roundw
        case rel =>
          refine ⟨k + 1, acc + z, 0, trivial, by omega, by go_num, rfl, rfl, HF2.out, .inl ⟨rfl, ?_⟩⟩
          show _ = _
          rw [← HD2.out, sumGo_fit HF2.out]
        case measure => simp [intOf]; omega
      · rw [both_not hf]
        unfold both
        have HF2 := Lib.hid hf
        clear hf
        go_wp2
        go_roundw
        case rel =>
          refine ⟨k + 1, 0, 7, trivial, by omega, by go_num, rfl, rfl, ⟨by omega, by omega⟩, .inr ⟨rfl, ?_⟩⟩
          have h1 := HD2.out
          rw [sumGo_not HF2.out] at h1
          cases h1
          exact ⟨rfl, rfl⟩
        case measure => simp [intOf]; omega
    · obtain ⟨h1, h2⟩ := HD.out
      clear HD HSM
      have hend2 : (fl = 0 ∧ ¬ (k : Int) < (300 : Int)) ∨ (fl = 7 ∧ (k : Int) < (300 : Int)) ∨ (fl = 7 ∧ ¬ (k : Int) < (300 : Int)) := by omega
      clear hend
      rcases hend2 with ⟨rfl, hkn⟩ | ⟨rfl, hkn⟩ | ⟨rfl, hkn⟩
      all_goals (
        subst h1 h2
        go_wp2
        go_loopw [9] (fun i wr => ∃ j : Nat, j ≤ 300 ∧ i = .int .i64 j ∧ Below W.heap.size W wr) (fun i _ => 300 - (intOf i).toNat)
        case atStart => exact ⟨0, Nat.zero_le _, rfl, Below.refl _ _⟩
        case round =>
          obtain ⟨j, hj, rfl, hbw⟩ := hrel
          rename World => V
          have HBW := Lib.hid hbw
          by_cases hjl : j < 300
          · have hjz : j < ys.length := by have := HN.out; omega
            rcases HS1.out with h0 | ⟨b, off, hao, hc⟩
            · rw [h0] at hjz
              simp at hjz
            rcases HS2.out with h0 | ⟨b2, off2, hao2, hc2⟩
            · rw [h0] at hjz
              simp at hjz
            have c1 := (hbw.cell (p := ⟨b, off + j, none⟩) (lt_of_cell (hc j hjz))).trans (hc j hjz)
            have c2 := (hbw.cell (p := ⟨b2, off2 + j, none⟩) (lt_of_cell (hc2 j hjz))).trans (hc2 j hjz)
            clear hc hc2 hbw
            generalize ys[j] = z at *
            have hne : (z != z) = false := by simp
            have hjl' : (j : Int) < (300 : Int) := by omega
            first | subst hao | (cases hao)
            subst hao2
            go_wp2
            go_quiet (fail)
            go_wp2
            go_roundw
            case rel => exact ⟨j + 1, by omega, by go_num, below_drewN HBW.out _⟩
            case measure => simp [intOf]; omega
          · have hjl' : ¬ (j : Int) < (300 : Int) := by omega
            clear hbw
            go_wp2_with fail
            refine (runs_from w _ HT.out (HB1.out.trans (HBW.out.mono HB1.out.size))).mono ?_
            rintro e w5 ⟨rfl, b5⟩
            have HB5 := Lib.hid b5
            clear b5
            go_wp2_with fail
            go_ret
            exact ⟨rfl, HB5.out⟩)
theorem moneySums_walk (ao : Option Addr) (n cap : Nat) (zs : List Int) (w : World) (h : IsInts w ao n cap zs) (ht : Tab w) :
    Calls Tryd.prog 5 #[.slice ao n cap] w fun e w' => e = .returned (.bool true) ∧ Below w.heap.size w w' := by
  by_cases h300 : n ≤ 300
  · exact sums_short ao n cap zs w h.len h300 h.nil h.seg h.wf ht
  · have hl := h.len
    rcases h.seg with h0 | ⟨b, off, rfl, hc⟩
    · rw [h0] at hl
      simp at hl
      omega
    · refine sums_long b off n cap (zs.take 300) w (by rw [List.length_take]; omega) (by omega) h.fits h.reach (SegI.takes (.inr ⟨b, off, rfl, hc⟩) 300) (fun z hz => h.wf z (List.mem_of_mem_take hz)) ht
end Go.Proofs.YtagofjnckdhopaaDoor
