/- CONTRACTS OF PACKAGE session: with. (genser.py's text, turned.) -/
import Derived.Test.YtfilanbjfnnknaaSnCr
namespace Go.Proofs.Ytfilanbjfnnknaa
open Go.RowKit
open Mem
open Go.Sort (grow)

set_option maxHeartbeats 4000000 in
theorem ses_with (rs : List Sn.T) (ao : Option Addr) (n cap : Nat) (r : Sn.T) (w : World) (hR : Sn.Ls w ao n cap rs) (hn : n < 8) :
    Calls Try.prog 23 #[.slice ao n cap, Sn.val r] w fun e w' => ∃ v, e = .returned v ∧ Sn.Own w' w.heap.size v (Sp.openL rs r) ∧ Below w.heap.size w w' := by
  have HR := Lib.hid hR
  have HN := Lib.hid hR.len
  have hcap := hR.reach
  have hfit := hR.fits
  clear hR
  unfold Sn.val
  go_enter Try.func23, Try.ntmps23
  go_wp2
  go_loopw [5] (fun i wr => ∃ k : Nat, k ≤ n ∧ i = .int .i64 k ∧ Hid (k + Sp.spot r.id (rs.drop k) = Sp.spot r.id rs) ∧ Hid (Below w.heap.size w wr) ∧ Hid (Sn.C wr w.heap.size r)) (fun i _ => n - (intOf i).toNat)
  case atStart => exact ⟨0, by omega, rfl, Lib.hid (Nat.zero_add _), Lib.hid (Sn.below_own w r), Lib.hid (Sn.c_box w r)⟩
  case round =>
    rename World => wz
    obtain ⟨k, hk, rfl, HK, HB, HCz⟩ := hrel
    have hC := HCz.out
    unfold Sn.C at hC
    obtain ⟨a0, a1, a2, a3, a4⟩ := hC
    have l0 := cell_regrown a0
    have l1 := cell_regrown a1
    have l2 := cell_regrown a2
    have l3 := cell_regrown a3
    have l4 := cell_regrown a4
    by_cases hlt : k < n
    · obtain ⟨b, off, rfl⟩ := HR.out.at (by omega)
      have hkr : k < rs.length := HN.out ▸ hlt
      obtain ⟨q, hq⟩ : ∃ q, rs[k] = q := ⟨_, rfl⟩
      have hrow := (HR.out.row k hkr).below HB.out
      have HSt := Lib.hid (Sp.spot_at r.id rs k hkr)
      rw [hq] at hrow HSt
      obtain ⟨g0, g1, g2, g3, g4⟩ := hrow
      have k0 := cell_regrown g0
      have k1 := cell_regrown g1
      have k2 := cell_regrown g2
      have k3 := cell_regrown g3
      have k4 := cell_regrown g4
      clear hq
      unfold Sp.lt at HSt
      cases hqr : decide (q.id < r.id)
      · rw [hqr, if_neg (by simp)] at HSt
        have HSp : Hid (Sp.spot r.id rs = k) := Lib.hid (by rw [← HK.out, HSt.out]; rfl)
        go_wp2
        refine wp_region_quiet_below (by kernel_rfl) (by kernel_rfl) ?_
        repeat (first | go_big_quiet_step (fail) | quiet_step (fail))
        refine wpQuiet_nil ?_
        intro _ hw'
        obtain ⟨⟨dq, osq⟩, hw''⟩ := hw'
        subst hw''
        have HBx := Lib.hid (bchain HB.out (below_regrown wz dq osq))
        have HCx := Lib.hid (HCz.out.below (below_regrown wz dq osq))
        clear l0 l1 l2 l3 l4 a0 a1 a2 a3 a4 k0 k1 k2 k3 k4 g0 g1 g2 g3 g4 hqr
        generalize grow (redrawn wz dq) osq = x at *
        have HP : Hid (Sp.openL rs r = rs.take k ++ r :: rs.drop k) := Lib.hid (by unfold Sp.openL; rw [HSp.out])
        have HRx := Lib.hid (HR.out.below HBx.out)
        obtain ⟨hs1, hR1⟩ := HRx.out.to k (by omega)
        obtain ⟨ao2, cap2, hs2, hR2⟩ := HRx.out.from k (by omega)
        obtain ⟨j, hj⟩ : ∃ j, n - k = j := ⟨_, rfl⟩
        rw [hj] at hs2 hR2
        have HR1 := Lib.hid hR1
        have HR2 := Lib.hid hR2
        have hjb : j ≤ 8 := by omega
        have hkb : k ≤ 8 := by omega
        have hmk := Sn.make_cap n (by omega)
        clear hR1 hR2 hj
        have hB1 : Below x.heap.size x (x.alloc (.cells (Sn.zeros (n + 1)) 33)) := (Below.refl _ _).alloc (Nat.le_refl _) _
        have HB1 := Lib.hid hB1
        clear hB1
        go_wp2_with (at_builtin; go_must (refine Sn.wpList_append _ rfl (.tmp 27) (.tmp 30) rfl x.heap.size (.slice (some ⟨x.heap.size, 0, none⟩) 0 (n + 1)) [] rfl (Sn.own_cap x x.heap.size (n + 1) (Nat.le_refl _) (by omega)) (some ⟨b, off, none⟩) k cap (rs.take k) rfl HR1.out.len HR1.out.nil (HR1.out.below HB1.out).seg (by simp only [List.length_nil]; omega) (by simp) ?_))
        intro v1 y1 o1 gr1 _
        have hb1 := HB1.out.grown gr1 HB1.out.size (Sn.own_ge (Sn.own_cap x x.heap.size (n + 1) (Nat.le_refl _) (by omega)))
        have HO1 : Hid (∀ o, Sn.Own (y1.alloc o) x.heap.size v1 ([] ++ rs.take k)) := fun o => Sn.own_alloc o1 o
        have HY1 := Lib.hid hb1
        have hC := HCx.out.below hb1
        unfold Sn.C at hC
        obtain ⟨a0, a1, a2, a3, a4⟩ := hC
        have hsz1 : x.heap.size ≤ y1.heap.size := hb1.size
        clear o1 gr1 hb1
        go_wp2_with (at_builtin; go_must (refine Sn.wpList_append _ rfl (.tmp 32) (.tmp 34) rfl x.heap.size v1 ([] ++ rs.take k) rfl (HO1.out _) (some ⟨y1.heap.size, 0, none⟩) 1 1 [r] rfl rfl (fun h => by cases h) (Sn.seg_block (heap_alloc_new y1 _)) (by rw [List.nil_append, ← HR1.out.len]; omega) (by simp; omega) ?_))
        intro v2 y2 o2 gr2 _
        have hb2 := (HY1.out.alloc HY1.out.size (Sn.block r)).grown gr2 (HY1.out.alloc HY1.out.size (Sn.block r)).size (Sn.own_ge (HO1.out (Sn.block r)))
        have HO2 := Lib.hid o2
        have HY2 := Lib.hid hb2
        clear o2 gr2 hb2 a0 a1 a2 a3 a4
        go_wp2_with (at_builtin; go_must (refine Sn.wpList_append _ rfl (.tmp 36) (.tmp 39) rfl x.heap.size v2 ([] ++ rs.take k ++ [r]) rfl HO2.out ao2 j cap2 (rs.drop k) rfl HR2.out.len HR2.out.nil (HR2.out.below HY2.out).seg (by rw [List.nil_append, List.length_append, ← HR1.out.len, List.length_singleton]; omega) HY2.out.size ?_))
        intro v3 y3 o3 gr3 _
        have hb3 := HY2.out.grown gr3 HY2.out.size (Sn.own_ge HO2.out)
        have HO3 := Lib.hid o3
        have HY3 := Lib.hid hb3
        clear o3 gr3 hb3
        go_wp2
        go_ret
        exact ⟨v3, rfl, by rw [HP.out]; exact Sn.own_mono HO3.out HBx.out.size, bchain HBx.out HY3.out⟩
      · rw [hqr, if_pos rfl] at HSt
        go_wp2
        refine wp_region_quiet_below (by kernel_rfl) (by kernel_rfl) ?_
        repeat (first | go_big_quiet_step (fail) | quiet_step (fail))
        refine wpQuiet_nil ?_
        intro _ hw'
        obtain ⟨⟨dq, osq⟩, hw''⟩ := hw'
        subst hw''
        have HBv := Lib.hid (bchain HB.out (below_regrown wz dq osq))
        go_wp2
        go_roundw
        case rel => exact ⟨k + 1, by omega, by go_num, Lib.hid (by rw [← HK.out, HSt.out]; omega), HBv, Lib.hid (HCz.out.below (below_regrown wz dq osq))⟩
        case measure => simp [intOf]; omega
    · obtain rfl : k = n := by omega
      have HSp : Hid (Sp.spot r.id rs = k) := Lib.hid (by rw [← HK.out, List.drop_eq_nil_of_le (Nat.le_of_eq HN.out.symm)]; rfl)
      go_wp2
      refine wp_region_quiet_below (by kernel_rfl) (by kernel_rfl) ?_
      repeat (first | go_big_quiet_step (fail) | quiet_step (fail))
      refine wpQuiet_nil ?_
      intro _ hw'
      obtain ⟨⟨dq, osq⟩, hw''⟩ := hw'
      subst hw''
      have HBx := Lib.hid (bchain HB.out (below_regrown wz dq osq))
      have HCx := Lib.hid (HCz.out.below (below_regrown wz dq osq))
      clear l0 l1 l2 l3 l4 a0 a1 a2 a3 a4
      generalize grow (redrawn wz dq) osq = x at *
      have HP : Hid (Sp.openL rs r = rs.take k ++ r :: rs.drop k) := Lib.hid (by unfold Sp.openL; rw [HSp.out])
      have HRx := Lib.hid (HR.out.below HBx.out)
      obtain ⟨hs1, hR1⟩ := HRx.out.to k (by omega)
      obtain ⟨ao2, cap2, hs2, hR2⟩ := HRx.out.from k (by omega)
      obtain ⟨j, hj⟩ : ∃ j, k - k = j := ⟨_, rfl⟩
      rw [hj] at hs2 hR2
      have HR1 := Lib.hid hR1
      have HR2 := Lib.hid hR2
      have hjb : j ≤ 8 := by omega
      have hkb : k ≤ 8 := by omega
      have hmk := Sn.make_cap k (by omega)
      clear hR1 hR2 hj
      have hB1 : Below x.heap.size x (x.alloc (.cells (Sn.zeros (k + 1)) 33)) := (Below.refl _ _).alloc (Nat.le_refl _) _
      have HB1 := Lib.hid hB1
      clear hB1
      go_wp2_with (at_builtin; go_must (refine Sn.wpList_append _ rfl (.tmp 27) (.tmp 30) rfl x.heap.size (.slice (some ⟨x.heap.size, 0, none⟩) 0 (k + 1)) [] rfl (Sn.own_cap x x.heap.size (k + 1) (Nat.le_refl _) (by omega)) ao k cap (rs.take k) rfl HR1.out.len HR1.out.nil (HR1.out.below HB1.out).seg (by simp only [List.length_nil]; omega) (by simp) ?_))
      intro v1 y1 o1 gr1 _
      have hb1 := HB1.out.grown gr1 HB1.out.size (Sn.own_ge (Sn.own_cap x x.heap.size (k + 1) (Nat.le_refl _) (by omega)))
      have HO1 : Hid (∀ o, Sn.Own (y1.alloc o) x.heap.size v1 ([] ++ rs.take k)) := fun o => Sn.own_alloc o1 o
      have HY1 := Lib.hid hb1
      have hC := HCx.out.below hb1
      unfold Sn.C at hC
      obtain ⟨a0, a1, a2, a3, a4⟩ := hC
      have hsz1 : x.heap.size ≤ y1.heap.size := hb1.size
      clear o1 gr1 hb1
      go_wp2_with (at_builtin; go_must (refine Sn.wpList_append _ rfl (.tmp 32) (.tmp 34) rfl x.heap.size v1 ([] ++ rs.take k) rfl (HO1.out _) (some ⟨y1.heap.size, 0, none⟩) 1 1 [r] rfl rfl (fun h => by cases h) (Sn.seg_block (heap_alloc_new y1 _)) (by rw [List.nil_append, ← HR1.out.len]; omega) (by simp; omega) ?_))
      intro v2 y2 o2 gr2 _
      have hb2 := (HY1.out.alloc HY1.out.size (Sn.block r)).grown gr2 (HY1.out.alloc HY1.out.size (Sn.block r)).size (Sn.own_ge (HO1.out (Sn.block r)))
      have HO2 := Lib.hid o2
      have HY2 := Lib.hid hb2
      clear o2 gr2 hb2 a0 a1 a2 a3 a4
      go_wp2_with (at_builtin; go_must (refine Sn.wpList_append _ rfl (.tmp 36) (.tmp 39) rfl x.heap.size v2 ([] ++ rs.take k ++ [r]) rfl HO2.out ao2 j cap2 (rs.drop k) rfl HR2.out.len HR2.out.nil (HR2.out.below HY2.out).seg (by rw [List.nil_append, List.length_append, ← HR1.out.len, List.length_singleton]; omega) HY2.out.size ?_))
      intro v3 y3 o3 gr3 _
      have hb3 := HY2.out.grown gr3 HY2.out.size (Sn.own_ge HO2.out)
      have HO3 := Lib.hid o3
      have HY3 := Lib.hid hb3
      clear o3 gr3 hb3
      go_wp2
      go_ret
      exact ⟨v3, rfl, by rw [HP.out]; exact Sn.own_mono HO3.out HBx.out.size, bchain HBx.out HY3.out⟩
end Go.Proofs.Ytfilanbjfnnknaa
