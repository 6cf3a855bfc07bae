/- THE DOCUMENT's OWN ANSWER, as impostlaw13 has it: join, leave, look. -/
import Derived.Test.YtfilanbjfnnknaaRfKp
import Derived.Deep.RegionHeld3
set_option linter.unusedVariables false
set_option maxRecDepth 100000
namespace Go.Proofs.Ytfilanbjfnnknaa
open Go.RowKit
open Mem

set_option maxHeartbeats 8000000 in
theorem lw_join (rs : List Sn.T) (i : Int) (ao : Option Addr) (n cap : Nat) (w : World) (hR : Sn.Ls w ao n cap rs) (hn : n ≤ 1000) :
    Calls Try.prog 12 #[.slice ao n cap, .int .i64 i] w (JoinE w rs i) := by
  have HR := Lib.hid hR
  have HN := Lib.hid hR.len
  have hcap := hR.reach
  have hfit := hR.fits
  clear hR
  go_enter Try.func12, Try.ntmps12
  go_wp2_with fail
  refine (rses_right rs ao n cap w _ (Below.refl _ _) HR.out).mono ?_
  rintro e w1 ⟨rfl, b1⟩
  have HB1 := Lib.hid b1
  have HR1 := Lib.hid (HR.out.below b1)
  clear b1
  cases hT : Sp.rightB rs
  · have HP := Lib.hid (Sp.join_arg (i := i) hT)
    clear hT
    go_wp2_with fail
    go_ret2
    exact ⟨_, by rw [HP.out.1]; rfl, by rw [HP.out.2]; exact Sn.own_nil _ _, HB1.out⟩
  · have HT := Lib.hid hT
    clear hT
    by_cases h1 : i < 1
    · have HP := Lib.hid (Sp.join_low HT.out h1)
      have d1 : decide (i < 1) = true := decide_eq_true h1
      go_wp2_with fail
      go_ret2
      exact ⟨_, by rw [HP.out.1]; rfl, by rw [HP.out.2]; exact Sn.own_nil _ _, HB1.out⟩
    · have d1 : decide (i < 1) = false := decide_eq_false h1
      have H1 := Lib.hid h1
      clear h1
      go_wp2_with fail
      refine (at_any rs i ao n cap w1 HR1.out).mono ?_
      rintro e w2 ⟨rfl, hw2⟩
      have hw3 := hw2.symm
      clear hw2
      subst hw3
      by_cases hlt : Sp.ix i rs < rs.length
      · have HP := Lib.hid (Sp.join_taken HT.out (by have := H1.out; omega) hlt)
        rw [Sp.pos_at hlt]
        clear hlt
        go_wp2_with fail
        go_ret2
        exact ⟨_, by rw [HP.out.1]; rfl, by rw [HP.out.2]; exact Sn.own_nil _ _, HB1.out⟩
      · rw [Sp.pos_no hlt]
        by_cases h8 : 8 ≤ n
        · have HP := Lib.hid (Sp.join_full HT.out (by have := H1.out; omega) hlt (by rw [← HN.out]; exact h8))
          clear hlt
          go_wp2_with fail
          go_ret2
          exact ⟨_, by rw [HP.out.1]; rfl, by rw [HP.out.2]; exact Sn.own_nil _ _, HB1.out⟩
        · have HP := Lib.hid (Sp.join_ok HT.out (by have := H1.out; omega) hlt (by rw [← HN.out]; omega))
          clear hlt
          go_wp2_with fail
          go_loop [6] (fun x => ∃ k : Nat, k ≤ n ∧ x = .int .i64 k ∧ Hid (k + Sp.spot i (rs.drop k) = Sp.spot i rs)) (fun x => n - (intOf x).toNat)
          case atStart => exact ⟨0, by omega, rfl, Lib.hid (Nat.zero_add _)⟩
          case round =>
            have HB := HB1
            have HRx := HR1
            clear HB1 HR1
            rename World => x
            obtain ⟨k, hk, rfl, HK⟩ := hrel
            by_cases hkn : k < n
            · obtain ⟨b, off, rfl⟩ := HR.out.at (by omega)
              have hkr : k < rs.length := HN.out ▸ hkn
              obtain ⟨q, hq⟩ : ∃ q, rs[k] = q := ⟨_, rfl⟩
              have hrow := HRx.out.row k hkr
              have HSt := Lib.hid (Sp.spot_at i rs k hkr)
              rw [hq] at hrow HSt
              obtain ⟨g0, g1, g2, g3, g4⟩ := hrow
              clear hq
              by_cases hl : q.id < i
              · have dl : decide (q.id < i) = true := decide_eq_true hl
                have HSt2 : Hid (Sp.spot i (rs.drop k) = Sp.spot i (rs.drop (k + 1)) + 1) := Lib.hid (by rw [HSt.out]; exact if_pos (Sp.lt_iff.2 hl))
                go_wp2
                go_round
                case rel => exact ⟨k + 1, by omega, by go_num, Lib.hid (by rw [← HK.out, HSt2.out]; omega)⟩
                case measure => simp [intOf]; omega
              · have dl : decide (q.id < i) = false := decide_eq_false hl
                have HSp : Hid (Sp.spot i rs = k) := Lib.hid (by rw [← HK.out, HSt.out, if_neg (by rw [Sp.lt_iff]; exact hl)]; rfl)
                have HP2 : Hid (Sp.openL rs (Sp.new i) = rs.take k ++ ⟨i, 0, 0, 0, 0⟩ :: rs.drop k) := Lib.hid (by unfold Sp.openL; rw [show (Sp.new i).id = i from rfl, HSp.out]; rfl)
                obtain ⟨hs1, hR1⟩ := HRx.out.to k (by omega)
                obtain ⟨ao2, cap2, hs2, hR2⟩ := HRx.out.from k (by omega)
                obtain ⟨j, hj⟩ : ∃ j, n - k = j := ⟨_, rfl⟩
                rw [hj] at hs2 hR2
                have HR1 := Lib.hid hR1
                have HR2 := Lib.hid hR2
                have hjb : j ≤ 8 := by omega
                have hkb : k ≤ 8 := by omega
                clear hR1 hR2 hj
                go_wp2
                go_region_held3 (fun y => Below x.heap.size x y) (first | assumption | exact (Below.refl _ _).drew | exact below_box (by assumption) _) (first | (refine Sn.step_append y2 x b2 (by rfl) (.tmp 47) (.tmp 50) (by rfl) v2 ([] ++ rs.take k ++ [⟨i, 0, 0, 0, 0⟩]) (by rfl) o2 ao2 j cap2 (rs.drop k) (by rfl) HR2.out.len HR2.out.nil (HR2.out.seg.below b2) (by simp; omega) ?_; intro v3 y3 o3 gr3 b3) | (refine Sn.step_append (y1.alloc (.cells #[.int .i64 i, .int .i64 0, .int .i64 0, .int .i64 0, .int .i64 0] 33)) x (below_box b1 _) (by rfl) (.tmp 43) (.tmp 46) (by rfl) v1 ([] ++ rs.take k) (by rfl) (Sn.own_alloc o1 _) (some ⟨y1.heap.size, 0, none⟩) 1 1 [⟨i, 0, 0, 0, 0⟩] (by rfl) rfl (fun h => by cases h) (Sn.seg_block (heap_alloc_new y1 _)) (by simp; omega) ?_; intro v2 y2 o2 gr2 b2) | (refine Sn.step_append y1 x b1 (by rfl) (.tmp 43) (.tmp 46) (by rfl) v1 ([] ++ rs.take k) (by rfl) o1 (some ⟨_, 0, none⟩) 1 1 [⟨i, 0, 0, 0, 0⟩] (by rfl) rfl (fun h => by cases h) (Sn.seg_block F) (by simp; omega) ?_; intro v2 y2 o2 gr2 b2) | (refine Sn.step_append (x.alloc (.cells #[] 33)).drew x (by assumption) (by rfl) (.tmp 39) (.tmp 42) (by rfl) (.slice (some ⟨x.heap.size, 0, none⟩) 0 0) [] (by rfl) (Sn.own_empty (Nat.le_refl _) (heap_alloc_new x _)) (some ⟨b, off, none⟩) k cap (rs.take k) (by rfl) HR1.out.len HR1.out.nil (HR1.out.seg.below (by assumption)) (by simp; omega) ?_; intro v1 y1 o1 gr1 b1) | (refine Sn.step_append ((x.alloc (.cells #[] 33)).alloc (.cells #[.int .i64 i, .int .i64 0, .int .i64 0, .int .i64 0, .int .i64 0] 33)).drew x (by assumption) (by rfl) (.tmp 39) (.tmp 42) (by rfl) (.slice (some ⟨x.heap.size, 0, none⟩) 0 0) [] (by rfl) (Sn.own_empty (Nat.le_refl _) (heap_old (heap_alloc_new x _))) (some ⟨b, off, none⟩) k cap (rs.take k) (by rfl) HR1.out.len HR1.out.nil (HR1.out.seg.below (by assumption)) (by simp; omega) ?_; intro v1 y1 o1 gr1 b1; have F : y1.heap[x.heap.size + 1]? = some (Sn.block ⟨i, 0, 0, 0, 0⟩) := blk_keep gr1 (heap_next x _ _) (by simp [Value.ownBlock])) | (refine Sn.step_append ((x.alloc (.cells #[.int .i64 i, .int .i64 0, .int .i64 0, .int .i64 0, .int .i64 0] 33)).alloc (.cells #[] 33)).drew x (by assumption) (by rfl) (.tmp 39) (.tmp 42) (by rfl) (.slice (some ⟨x.heap.size + 1, 0, none⟩) 0 0) [] (by rfl) (Sn.own_empty (Nat.le_succ _) (heap_next x _ _)) (some ⟨b, off, none⟩) k cap (rs.take k) (by rfl) HR1.out.len HR1.out.nil (HR1.out.seg.below (by assumption)) (by simp; omega) ?_; intro v1 y1 o1 gr1 b1; have F : y1.heap[x.heap.size]? = some (Sn.block ⟨i, 0, 0, 0, 0⟩) := blk_keep gr1 (heap_old (heap_alloc_new x _)) (by simp [Value.ownBlock])) | fail)
                all_goals
                  go_wp2
                  go_ret2
                  exact ⟨v3, by rw [HP.out.1]; rfl, by rw [HP.out.2, HP2.out, show rs.take k ++ (⟨i, 0, 0, 0, 0⟩ : Sn.T) :: rs.drop k = [] ++ rs.take k ++ [⟨i, 0, 0, 0, 0⟩] ++ rs.drop k from by simp]; exact Sn.own_mono o3 HB.out.size, bchain HB.out b3⟩
            · obtain rfl : k = n := by omega
              have HSp : Hid (Sp.spot i rs = k) := Lib.hid (by rw [← HK.out, List.drop_eq_nil_of_le (Nat.le_of_eq HN.out.symm)]; rfl)
              have HP2 : Hid (Sp.openL rs (Sp.new i) = rs.take k ++ ⟨i, 0, 0, 0, 0⟩ :: rs.drop k) := Lib.hid (by unfold Sp.openL; rw [show (Sp.new i).id = i from rfl, HSp.out]; rfl)
              obtain ⟨hs1, hR1⟩ := HRx.out.to k (by omega)
              obtain ⟨ao2, cap2, hs2, hR2⟩ := HRx.out.from k (by omega)
              obtain ⟨j, hj⟩ : ∃ j, k - k = j := ⟨_, rfl⟩
              rw [hj] at hs2 hR2
              have HR1 := Lib.hid hR1
              have HR2 := Lib.hid hR2
              have hjb : j ≤ 8 := by omega
              have hkb : k ≤ 8 := by omega
              clear hR1 hR2 hj
              go_wp2
              go_region_held3 (fun y => Below x.heap.size x y) (first | assumption | exact (Below.refl _ _).drew | exact below_box (by assumption) _) (first | (refine Sn.step_append y2 x b2 (by rfl) (.tmp 47) (.tmp 50) (by rfl) v2 ([] ++ rs.take k ++ [⟨i, 0, 0, 0, 0⟩]) (by rfl) o2 ao2 j cap2 (rs.drop k) (by rfl) HR2.out.len HR2.out.nil (HR2.out.seg.below b2) (by simp; omega) ?_; intro v3 y3 o3 gr3 b3) | (refine Sn.step_append (y1.alloc (.cells #[.int .i64 i, .int .i64 0, .int .i64 0, .int .i64 0, .int .i64 0] 33)) x (below_box b1 _) (by rfl) (.tmp 43) (.tmp 46) (by rfl) v1 ([] ++ rs.take k) (by rfl) (Sn.own_alloc o1 _) (some ⟨y1.heap.size, 0, none⟩) 1 1 [⟨i, 0, 0, 0, 0⟩] (by rfl) rfl (fun h => by cases h) (Sn.seg_block (heap_alloc_new y1 _)) (by simp; omega) ?_; intro v2 y2 o2 gr2 b2) | (refine Sn.step_append y1 x b1 (by rfl) (.tmp 43) (.tmp 46) (by rfl) v1 ([] ++ rs.take k) (by rfl) o1 (some ⟨_, 0, none⟩) 1 1 [⟨i, 0, 0, 0, 0⟩] (by rfl) rfl (fun h => by cases h) (Sn.seg_block F) (by simp; omega) ?_; intro v2 y2 o2 gr2 b2) | (refine Sn.step_append (x.alloc (.cells #[] 33)).drew x (by assumption) (by rfl) (.tmp 39) (.tmp 42) (by rfl) (.slice (some ⟨x.heap.size, 0, none⟩) 0 0) [] (by rfl) (Sn.own_empty (Nat.le_refl _) (heap_alloc_new x _)) ao k cap (rs.take k) (by rfl) HR1.out.len HR1.out.nil (HR1.out.seg.below (by assumption)) (by simp; omega) ?_; intro v1 y1 o1 gr1 b1) | (refine Sn.step_append ((x.alloc (.cells #[] 33)).alloc (.cells #[.int .i64 i, .int .i64 0, .int .i64 0, .int .i64 0, .int .i64 0] 33)).drew x (by assumption) (by rfl) (.tmp 39) (.tmp 42) (by rfl) (.slice (some ⟨x.heap.size, 0, none⟩) 0 0) [] (by rfl) (Sn.own_empty (Nat.le_refl _) (heap_old (heap_alloc_new x _))) ao k cap (rs.take k) (by rfl) HR1.out.len HR1.out.nil (HR1.out.seg.below (by assumption)) (by simp; omega) ?_; intro v1 y1 o1 gr1 b1; have F : y1.heap[x.heap.size + 1]? = some (Sn.block ⟨i, 0, 0, 0, 0⟩) := blk_keep gr1 (heap_next x _ _) (by simp [Value.ownBlock])) | (refine Sn.step_append ((x.alloc (.cells #[.int .i64 i, .int .i64 0, .int .i64 0, .int .i64 0, .int .i64 0] 33)).alloc (.cells #[] 33)).drew x (by assumption) (by rfl) (.tmp 39) (.tmp 42) (by rfl) (.slice (some ⟨x.heap.size + 1, 0, none⟩) 0 0) [] (by rfl) (Sn.own_empty (Nat.le_succ _) (heap_next x _ _)) ao k cap (rs.take k) (by rfl) HR1.out.len HR1.out.nil (HR1.out.seg.below (by assumption)) (by simp; omega) ?_; intro v1 y1 o1 gr1 b1; have F : y1.heap[x.heap.size]? = some (Sn.block ⟨i, 0, 0, 0, 0⟩) := blk_keep gr1 (heap_old (heap_alloc_new x _)) (by simp [Value.ownBlock])) | fail)
              all_goals
                go_wp2
                go_ret2
                exact ⟨v3, by rw [HP.out.1]; rfl, by rw [HP.out.2, HP2.out, show rs.take k ++ (⟨i, 0, 0, 0, 0⟩ : Sn.T) :: rs.drop k = [] ++ rs.take k ++ [⟨i, 0, 0, 0, 0⟩] ++ rs.drop k from by simp]; exact Sn.own_mono o3 HB.out.size, bchain HB.out b3⟩
set_option maxHeartbeats 8000000 in
theorem lw_leave (rs : List Sn.T) (i : Int) (ao : Option Addr) (n cap : Nat) (w : World) (hR : Sn.Ls w ao n cap rs) (hn : n ≤ 1000) :
    Calls Try.prog 13 #[.slice ao n cap, .int .i64 i] w (LeaveE w rs i) := by
  have HR := Lib.hid hR
  have HN := Lib.hid hR.len
  have hcap := hR.reach
  have hfit := hR.fits
  clear hR
  go_enter Try.func13, Try.ntmps13
  go_wp2_with fail
  refine (rses_right rs ao n cap w _ (Below.refl _ _) HR.out).mono ?_
  rintro e w1 ⟨rfl, b1⟩
  have HB1 := Lib.hid b1
  have HR1 := Lib.hid (HR.out.below b1)
  clear b1
  cases hT : Sp.rightB rs
  · have HP := Lib.hid (Sp.leave_arg (i := i) hT)
    clear hT
    go_wp2_with fail
    go_ret2
    exact ⟨_, by rw [HP.out.1]; rfl, by rw [HP.out.2]; exact Sn.own_nil _ _, HB1.out⟩
  · have HT := Lib.hid hT
    clear hT
    go_wp2_with fail
    refine (at_any rs i ao n cap w1 HR1.out).mono ?_
    rintro e w2 ⟨rfl, hw2⟩
    have hw3 := hw2.symm
    clear hw2
    subst hw3
    by_cases hlt : Sp.ix i rs < rs.length
    · have HP := Lib.hid (Sp.leave_ok HT.out hlt)
      rw [Sp.pos_at hlt]
      have hin : Sp.ix i rs < n := by have := HN.out; omega
      obtain ⟨k, hk⟩ : ∃ k, Sp.ix i rs = k := ⟨_, rfl⟩
      rw [hk] at HP hin
      rw [hk]
      clear hk hlt
      obtain ⟨hs1, hR1⟩ := HR1.out.to k (by omega)
      obtain ⟨ao2, cap2, hs2, hR2⟩ := HR1.out.from (k + 1) (by omega)
      rw [show (((k + 1 : Nat) : Int)) = (k : Int) + 1 by omega] at hs2
      obtain ⟨m, hm⟩ : ∃ m, n - (k + 1) = m := ⟨_, rfl⟩
      rw [hm] at hs2 hR2
      have HA := Lib.hid hR1
      have HD := Lib.hid hR2
      have hmb : m ≤ 1000 := by omega
      have hw1 : IntKind.i64.wrap ((k : Int) + 1) = (k : Int) + 1 := by rw [IntKind.wrap_i64] <;> omega
      clear hR1 hR2 hm
      rename World => x
      go_wp2_with fail
      go_region_held3 (fun y => Below x.heap.size x y) (first | assumption | exact (Below.refl _ _).drew | exact below_box (by assumption) _) (first | (refine Sn.step_append y1 x b1 (by rfl) (.tmp 19) (.tmp 23) (by rfl) v1 ([] ++ rs.take k) (by rfl) o1 ao2 m cap2 (rs.drop (k + 1)) (by rfl) HD.out.len HD.out.nil (HD.out.seg.below b1) (by simp; omega) ?_; intro v3 y3 o3 gr3 b3) | (refine Sn.step_append (x.alloc (.cells #[] 33)).drew x (by assumption) (by rfl) (.tmp 15) (.tmp 18) (by rfl) (.slice (some ⟨x.heap.size, 0, none⟩) 0 0) [] (by rfl) (Sn.own_empty (Nat.le_refl _) (heap_alloc_new x _)) ao k cap (rs.take k) (by rfl) HA.out.len HA.out.nil (HA.out.seg.below (by assumption)) (by simp; omega) ?_; intro v1 y1 o1 gr1 b1) | fail)
      all_goals (try go_wp2_with fail)
      all_goals go_ret2
      all_goals exact ⟨v3, by rw [HP.out.1]; rfl, Sn.own_mono (by rw [HP.out.2]; unfold Sp.cut; rw [show rs.take k ++ rs.drop (k + 1) = [] ++ rs.take k ++ rs.drop (k + 1) from by simp]; exact o3) HB1.out.size, bchain HB1.out b3⟩
    · have HP := Lib.hid (Sp.leave_none HT.out hlt)
      rw [Sp.pos_no hlt]
      clear hlt
      go_wp2_with fail
      go_ret2
      exact ⟨_, by rw [HP.out.1]; rfl, by rw [HP.out.2]; exact Sn.own_nil _ _, HB1.out⟩
end Go.Proofs.Ytfilanbjfnnknaa
