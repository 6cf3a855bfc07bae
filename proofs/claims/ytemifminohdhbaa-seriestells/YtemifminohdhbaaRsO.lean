/- THE DOCUMENT's OWN ANSWER: impostref8's Open. (By genserref2.py.) -/
import Derived.Test.YtemifminohdhbaaRsR
import Derived.Test.YtemifminohdhbaaSsO
import Derived.Deep.RegionHeld3
namespace Go.Proofs.Ytemifminohdhbaa
open Go.RowKit
open Mem
open Go.Sort (grow)

set_option maxHeartbeats 4000000 in
theorem rser_open (rs : List Sr.T) (s : ByteArray) (m : Int) (ao : Option Addr) (n cap : Nat) (w : World) (hR : Sr.Ls w ao n cap rs) (hs : s.size ≤ 140737488355328) :
    Calls Try.prog 13 #[.slice ao n cap, .string s, .int .i64 m] w (OpenE w rs s m) := by
  have HR := Lib.hid hR
  have HN := Lib.hid hR.len
  have HS := Lib.hid hs
  have hcap := hR.reach
  have hfit := hR.fits
  clear hR hs
  go_enter Try.func13, Try.ntmps13
  go_wp2_with fail
  refine (rser_right rs ao n cap _ _ (Below.refl _ _) HR.out).mono ?_
  rintro e w1 ⟨rfl, b1⟩
  have HB1 := Lib.hid b1
  clear b1
  cases hT : Se.rightB rs
  · have HP := Lib.hid (Se.open_arg (s := s) (n := m) hT)
    clear hT
    go_wp2_with fail
    go_ret2
    exact ⟨_, by rw [HP.out.1]; rfl, by rw [HP.out.2]; exact Sr.own_nil _ _, HB1.out⟩
  · have HT := Lib.hid hT
    clear hT
    go_wp2_with fail
    refine (refName_gen s _ _ HB1.out HS.out).mono ?_
    rintro e w2 ⟨rfl, b2⟩
    have HB2 := Lib.hid b2
    clear b2
    cases hn : Rn.name (txt s)
    · have HP := Lib.hid (Se.open_name (n := m) HT.out hn)
      clear hn
      go_wp2_with fail
      go_ret2
      exact ⟨_, by rw [HP.out.1]; rfl, by rw [HP.out.2]; exact Sr.own_nil _ _, HB2.out⟩
    · have HNm := Lib.hid hn
      clear hn
      by_cases hl1 : m < 1
      · have HP := Lib.hid (Se.open_lim HT.out HNm.out (Se.lim_no.2 (.inl hl1)))
        go_wp2_with fail
        go_ret2
        exact ⟨_, by rw [HP.out.1]; rfl, by rw [HP.out.2]; exact Sr.own_nil _ _, HB2.out⟩
      · by_cases hl2 : 1099511627776 < m
        · have HP := Lib.hid (Se.open_lim HT.out HNm.out (Se.lim_no.2 (.inr hl2)))
          go_wp2_with fail
          go_ret2
          exact ⟨_, by rw [HP.out.1]; rfl, by rw [HP.out.2]; exact Sr.own_nil _ _, HB2.out⟩
        · have HLm := Lib.hid (Se.lim_iff.2 ⟨Int.not_lt.1 hl1, Int.not_lt.1 hl2⟩)
          go_wp2_with fail
          refine (rfind rs s ao n cap _ (HR.out.below HB2.out)).mono ?_
          rintro e w3 ⟨rfl, rfl⟩
          rw [Se.fnd_ix]
          by_cases hlt : Se.ix s rs < rs.length
          · have HP := Lib.hid (Se.open_taken HT.out HNm.out HLm.out hlt)
            rw [if_pos hlt]
            clear hlt
            generalize Se.ix s rs = i at *
            go_wp2_with fail
            go_ret2
            exact ⟨_, by rw [HP.out.1]; rfl, by rw [HP.out.2]; exact Sr.own_nil _ _, HB2.out⟩
          · have HNo := Lib.hid hlt
            rw [if_neg hlt]
            clear hlt
            by_cases h8 : 8 ≤ n
            · have HP := Lib.hid (Se.open_full HT.out HNm.out HLm.out HNo.out (by have := HN.out; omega))
              go_wp2_with fail
              go_ret2
              exact ⟨_, by rw [HP.out.1]; rfl, by rw [HP.out.2]; exact Sr.own_nil _ _, HB2.out⟩
            · have HP := Lib.hid (Se.open_ok HT.out HNm.out HLm.out HNo.out (by have := HN.out; omega))
              go_wp2_with fail
              go_loop [8] (fun i => ∃ k : Nat, k ≤ n ∧ i = .int .i64 k ∧ Hid (k + Se.spot s (rs.drop k) = Se.spot s rs)) (fun i => n - (intOf i).toNat)
              case atStart => exact ⟨0, by omega, rfl, Lib.hid (Nat.zero_add _)⟩
              case round =>
                have HB := HB2
                clear HB1 HB2
                rename World => x
                obtain ⟨k, hk, rfl, HK⟩ := hrel
                by_cases hlt : k < n
                · obtain ⟨b, off, rfl⟩ := HR.out.at (by omega)
                  have hkr : k < rs.length := HN.out ▸ hlt
                  obtain ⟨q, hq⟩ : ∃ q, rs[k] = q := ⟨_, rfl⟩
                  have hrow := (HR.out.row k hkr).below HB.out
                  have HSt := Lib.hid (Se.spot_at s rs k hkr)
                  rw [hq] at hrow HSt
                  obtain ⟨g0, g1, g2, g3⟩ := hrow
                  clear hq
                  unfold Se.lt at HSt
                  cases hqr : Op.bytesLess q.name.toList s.toList
                  · rw [hqr, if_neg (by simp)] at HSt
                    have HSp : Hid (Se.spot s rs = k) := Lib.hid (by rw [← HK.out, HSt.out]; rfl)
                    have HP2 : Hid (Se.openL rs ⟨s, 1, m, false⟩ = rs.take k ++ ⟨s, 1, m, false⟩ :: rs.drop k) := Lib.hid (by unfold Se.openL; rw [HSp.out])
                    have HRx := Lib.hid (HR.out.below HB.out)
                    obtain ⟨hs1, hR1⟩ := HRx.out.to k (by omega)
                    obtain ⟨ao2, cap2, hs2, hR2⟩ := HRx.out.from k (by omega)
                    obtain ⟨j, hj⟩ : ∃ j, n - k = j := ⟨_, rfl⟩
                    rw [hj] at hs2 hR2
                    have HR1 := Lib.hid hR1
                    have HR2 := Lib.hid hR2
                    have hjb : j ≤ 8 := by omega
                    have hkb : k ≤ 8 := by omega
                    clear hR1 hR2 hj
                    go_wp2
                    go_region_held3 (fun y => Below x.heap.size x y) (first | assumption | exact (Below.refl _ _).drew | exact below_box (by assumption) _) (first | (refine Sr.step_append y2 x b2 (by rfl) (.tmp 57) (.tmp 60) (by rfl) v2 ([] ++ rs.take k ++ [⟨s, 1, m, false⟩]) (by rfl) o2 ao2 j cap2 (rs.drop k) (by rfl) HR2.out.len HR2.out.nil (HR2.out.seg.below b2) (by simp; omega) ?_; intro v3 y3 o3 gr3 b3) | (refine Sr.step_append (y1.alloc (.cells #[.string s, .int .i64 1, .int .i64 m, .bool false] 32)) x (below_box b1 _) (by rfl) (.tmp 52) (.tmp 56) (by rfl) v1 ([] ++ rs.take k) (by rfl) (Sr.own_alloc o1 _) (some ⟨y1.heap.size, 0, none⟩) 1 1 [⟨s, 1, m, false⟩] (by rfl) rfl (fun h => by cases h) (Sr.seg_block (heap_alloc_new y1 _)) (by simp; omega) ?_; intro v2 y2 o2 gr2 b2) | (refine Sr.step_append y1 x b1 (by rfl) (.tmp 52) (.tmp 56) (by rfl) v1 ([] ++ rs.take k) (by rfl) o1 (some ⟨_, 0, none⟩) 1 1 [⟨s, 1, m, false⟩] (by rfl) rfl (fun h => by cases h) (Sr.seg_block F) (by simp; omega) ?_; intro v2 y2 o2 gr2 b2) | (refine Sr.step_append (x.alloc (.cells #[] 32)).drew x (by assumption) (by rfl) (.tmp 48) (.tmp 51) (by rfl) (.slice (some ⟨x.heap.size, 0, none⟩) 0 0) [] (by rfl) (Sr.own_empty (Nat.le_refl _) (heap_alloc_new x _)) (some ⟨b, off, none⟩) k cap (rs.take k) (by rfl) HR1.out.len HR1.out.nil (HR1.out.seg.below (by assumption)) (by simp; omega) ?_; intro v1 y1 o1 gr1 b1) | (refine Sr.step_append ((x.alloc (.cells #[] 32)).alloc (.cells #[.string s, .int .i64 1, .int .i64 m, .bool false] 32)).drew x (by assumption) (by rfl) (.tmp 48) (.tmp 51) (by rfl) (.slice (some ⟨x.heap.size, 0, none⟩) 0 0) [] (by rfl) (Sr.own_empty (Nat.le_refl _) (heap_old (heap_alloc_new x _))) (some ⟨b, off, none⟩) k cap (rs.take k) (by rfl) HR1.out.len HR1.out.nil (HR1.out.seg.below (by assumption)) (by simp; omega) ?_; intro v1 y1 o1 gr1 b1; have F : y1.heap[x.heap.size + 1]? = some (Sr.block ⟨s, 1, m, false⟩) := blk_keep gr1 (heap_next x _ _) (by simp [Value.ownBlock])) | (refine Sr.step_append ((x.alloc (.cells #[.string s, .int .i64 1, .int .i64 m, .bool false] 32)).alloc (.cells #[] 32)).drew x (by assumption) (by rfl) (.tmp 48) (.tmp 51) (by rfl) (.slice (some ⟨x.heap.size + 1, 0, none⟩) 0 0) [] (by rfl) (Sr.own_empty (Nat.le_succ _) (heap_next x _ _)) (some ⟨b, off, none⟩) k cap (rs.take k) (by rfl) HR1.out.len HR1.out.nil (HR1.out.seg.below (by assumption)) (by simp; omega) ?_; intro v1 y1 o1 gr1 b1; have F : y1.heap[x.heap.size]? = some (Sr.block ⟨s, 1, m, false⟩) := blk_keep gr1 (heap_old (heap_alloc_new x _)) (by simp [Value.ownBlock])) | fail)
                    all_goals
                      go_wp2
                      go_ret2
                      exact ⟨v3, by rw [HP.out.1]; rfl, by rw [HP.out.2, HP2.out, show rs.take k ++ (⟨s, 1, m, false⟩ : Sr.T) :: rs.drop k = [] ++ rs.take k ++ [⟨s, 1, m, false⟩] ++ rs.drop k from by simp]; exact Sr.own_mono o3 HB.out.size, bchain HB.out b3⟩
                  · rw [hqr, if_pos rfl] at HSt
                    go_wp2
                    go_round
                    case rel => exact ⟨k + 1, by omega, by go_num, Lib.hid (by rw [← HK.out, HSt.out]; omega)⟩
                    case measure => simp [intOf]; omega
                · obtain rfl : k = n := by omega
                  have HSp : Hid (Se.spot s rs = k) := Lib.hid (by rw [← HK.out, List.drop_eq_nil_of_le (Nat.le_of_eq HN.out.symm)]; rfl)
                  have HP2 : Hid (Se.openL rs ⟨s, 1, m, false⟩ = rs.take k ++ ⟨s, 1, m, false⟩ :: rs.drop k) := Lib.hid (by unfold Se.openL; rw [HSp.out])
                  have HRx := Lib.hid (HR.out.below HB.out)
                  obtain ⟨hs1, hR1⟩ := HRx.out.to k (by omega)
                  obtain ⟨ao2, cap2, hs2, hR2⟩ := HRx.out.from k (by omega)
                  obtain ⟨j, hj⟩ : ∃ j, k - k = j := ⟨_, rfl⟩
                  rw [hj] at hs2 hR2
                  have HR1 := Lib.hid hR1
                  have HR2 := Lib.hid hR2
                  have hjb : j ≤ 8 := by omega
                  have hkb : k ≤ 8 := by omega
                  clear hR1 hR2 hj
                  go_wp2
                  go_region_held3 (fun y => Below x.heap.size x y) (first | assumption | exact (Below.refl _ _).drew | exact below_box (by assumption) _) (first | (refine Sr.step_append y2 x b2 (by rfl) (.tmp 57) (.tmp 60) (by rfl) v2 ([] ++ rs.take k ++ [⟨s, 1, m, false⟩]) (by rfl) o2 ao2 j cap2 (rs.drop k) (by rfl) HR2.out.len HR2.out.nil (HR2.out.seg.below b2) (by simp; omega) ?_; intro v3 y3 o3 gr3 b3) | (refine Sr.step_append (y1.alloc (.cells #[.string s, .int .i64 1, .int .i64 m, .bool false] 32)) x (below_box b1 _) (by rfl) (.tmp 52) (.tmp 56) (by rfl) v1 ([] ++ rs.take k) (by rfl) (Sr.own_alloc o1 _) (some ⟨y1.heap.size, 0, none⟩) 1 1 [⟨s, 1, m, false⟩] (by rfl) rfl (fun h => by cases h) (Sr.seg_block (heap_alloc_new y1 _)) (by simp; omega) ?_; intro v2 y2 o2 gr2 b2) | (refine Sr.step_append y1 x b1 (by rfl) (.tmp 52) (.tmp 56) (by rfl) v1 ([] ++ rs.take k) (by rfl) o1 (some ⟨_, 0, none⟩) 1 1 [⟨s, 1, m, false⟩] (by rfl) rfl (fun h => by cases h) (Sr.seg_block F) (by simp; omega) ?_; intro v2 y2 o2 gr2 b2) | (refine Sr.step_append (x.alloc (.cells #[] 32)).drew x (by assumption) (by rfl) (.tmp 48) (.tmp 51) (by rfl) (.slice (some ⟨x.heap.size, 0, none⟩) 0 0) [] (by rfl) (Sr.own_empty (Nat.le_refl _) (heap_alloc_new x _)) ao k cap (rs.take k) (by rfl) HR1.out.len HR1.out.nil (HR1.out.seg.below (by assumption)) (by simp; omega) ?_; intro v1 y1 o1 gr1 b1) | (refine Sr.step_append ((x.alloc (.cells #[] 32)).alloc (.cells #[.string s, .int .i64 1, .int .i64 m, .bool false] 32)).drew x (by assumption) (by rfl) (.tmp 48) (.tmp 51) (by rfl) (.slice (some ⟨x.heap.size, 0, none⟩) 0 0) [] (by rfl) (Sr.own_empty (Nat.le_refl _) (heap_old (heap_alloc_new x _))) ao k cap (rs.take k) (by rfl) HR1.out.len HR1.out.nil (HR1.out.seg.below (by assumption)) (by simp; omega) ?_; intro v1 y1 o1 gr1 b1; have F : y1.heap[x.heap.size + 1]? = some (Sr.block ⟨s, 1, m, false⟩) := blk_keep gr1 (heap_next x _ _) (by simp [Value.ownBlock])) | (refine Sr.step_append ((x.alloc (.cells #[.string s, .int .i64 1, .int .i64 m, .bool false] 32)).alloc (.cells #[] 32)).drew x (by assumption) (by rfl) (.tmp 48) (.tmp 51) (by rfl) (.slice (some ⟨x.heap.size + 1, 0, none⟩) 0 0) [] (by rfl) (Sr.own_empty (Nat.le_succ _) (heap_next x _ _)) ao k cap (rs.take k) (by rfl) HR1.out.len HR1.out.nil (HR1.out.seg.below (by assumption)) (by simp; omega) ?_; intro v1 y1 o1 gr1 b1; have F : y1.heap[x.heap.size]? = some (Sr.block ⟨s, 1, m, false⟩) := blk_keep gr1 (heap_old (heap_alloc_new x _)) (by simp [Value.ownBlock])) | fail)
                  all_goals
                    go_wp2
                    go_ret2
                    exact ⟨v3, by rw [HP.out.1]; rfl, by rw [HP.out.2, HP2.out, show rs.take k ++ (⟨s, 1, m, false⟩ : Sr.T) :: rs.drop k = [] ++ rs.take k ++ [⟨s, 1, m, false⟩] ++ rs.drop k from by simp]; exact Sr.own_mono o3 HB.out.size, bchain HB.out b3⟩
end Go.Proofs.Ytemifminohdhbaa
