/- THE DOCUMENT's OWN ANSWER: impostref3's Put. -/
import Derived.Test.YtgcjhlnolmjdeaaRefTable
import Derived.Test.YtgcjhlnolmjdeaaAppR
import Derived.Test.YtgcjhlnolmjdeaaVSlice
import Derived.Deep.RegionHeld3
namespace Go.Proofs.Ytgcjhlnolmjdeaa
open Go.RowKit
open Vt (Rt)
open Go.Sort (grow)

/-- what Put answers: new memory, or nothing -/
def PutE (w : World) (rs : List Rt) (r : Rt) (e : Ending) (w' : World) : Prop := ∃ v, e = .returned (.tuple #[v, .int .i64 (Vt.putE rs r)]) ∧ OwnR w' w.heap.size v (Vt.putR rs r) ∧ Below w.heap.size w w'
theorem own_nil (w : World) (B : Nat) : OwnR w B (.slice none 0 0) [] := ⟨rfl, .inl ⟨rfl, rfl⟩⟩
theorem put_table {rs : List Rt} {r : Rt} (h : Vt.tableB rs = false) : Vt.putE rs r = 1 ∧ Vt.putR rs r = [] := by
  have e : Vt.putE rs r = 1 := if_pos h
  refine ⟨e, ?_⟩
  unfold Vt.putR
  rw [e]
  rfl
theorem put_row {rs : List Rt} {r : Rt} (h : Vt.tableB rs = true) (k : Vt.rowE r ≠ 0) : Vt.putE rs r = Vt.rowE r ∧ Vt.putR rs r = [] := by
  have e : Vt.putE rs r = Vt.rowE r := by
    unfold Vt.putE
    rw [if_neg (by rw [h]; simp), if_pos k]
  refine ⟨e, ?_⟩
  unfold Vt.putR
  rw [e, if_neg k]
theorem put_taken {rs : List Rt} {r : Rt} (h : Vt.tableB rs = true) (k : Vt.rowE r = 0) (l : Vt.taken rs r = true) : Vt.putE rs r = 12 ∧ Vt.putR rs r = [] := by
  have e : Vt.putE rs r = 12 := by
    unfold Vt.putE
    rw [if_neg (by rw [h]; simp), if_neg (by simpa using k), if_pos l]
  refine ⟨e, ?_⟩
  unfold Vt.putR
  rw [e]
  rfl
theorem put_long {rs : List Rt} {r : Rt} (h : Vt.tableB rs = true) (k : Vt.rowE r = 0) (l : Vt.taken rs r = false) (m : 24 ≤ rs.length) : Vt.putE rs r = 2 ∧ Vt.putR rs r = [] := by
  have e : Vt.putE rs r = 2 := by
    unfold Vt.putE
    rw [if_neg (by rw [h]; simp), if_neg (by simpa using k), if_neg (by rw [l]; simp), if_pos m]
  refine ⟨e, ?_⟩
  unfold Vt.putR
  rw [e]
  rfl
theorem put_ok {rs : List Rt} {r : Rt} (h : Vt.tableB rs = true) (k : Vt.rowE r = 0) (l : Vt.taken rs r = false) (m : rs.length < 24) : Vt.putE rs r = 0 ∧ Vt.putR rs r = Vt.putL rs r := by
  have e : Vt.putE rs r = 0 := by
    unfold Vt.putE
    rw [if_neg (by rw [h]; simp), if_neg (by simpa using k), if_neg (by rw [l]; simp), if_neg (by omega)]
  refine ⟨e, ?_⟩
  unfold Vt.putR
  rw [e]
  rfl
theorem spot_at (r : Rt) (rs : List Rt) (k : Nat) (h : k < rs.length) : Vt.spot r (rs.drop k) = if Vt.lt rs[k] r = true then Vt.spot r (rs.drop (k + 1)) + 1 else 0 := by
  rw [List.drop_eq_getElem_cons h]
  rfl
theorem below_boxR' (w : World) (r : Rt) : Below w.heap.size w (w.alloc (.cells #[.string r.cat, .int .i64 r.y, .int .i64 r.m, .int .i64 r.d, .int .i64 r.bp] 25)) := (Below.refl _ _).alloc (Nat.le_refl _) _
set_option maxHeartbeats 2000000 in
theorem refPut_any (rs : List Rt) (ao : Option Addr) (n cap : Nat) (r : Rt) (w : World) (hR : Rts w ao n cap rs) (hs : Short r) :
    Calls Try.prog 21 #[.slice ao n cap, rowV r] w (PutE w rs r) := by
  have HR := Lib.hid hR
  have HS := Lib.hid hs
  have HN := Lib.hid hR.len
  have hcap := hR.reach
  have hfit := hR.fits
  clear hR hs
  unfold rowV
  go_enter Try.func21, Try.ntmps21
  go_wp2_with fail
  refine (refTable_any rs ao n cap _ _ (Below.refl _ _) (HR.out.below (below_boxR' w r))).mono ?_
  rintro e w1 ⟨rfl, b1⟩
  cases hT : Vt.tableB rs
  · have HP := Lib.hid (put_table (r := r) hT)
    have HB := Lib.hid (bchain (below_boxR' w r) b1)
    clear b1
    go_wp2_with fail
    go_ret2
    exact ⟨_, by rw [HP.out.1]; rfl, by rw [HP.out.2]; exact own_nil _ _, HB.out⟩
  · have HTT := Lib.hid hT
    have hC := (rowC_box w r).below b1
    have HC := Lib.hid hC
    unfold RowC at hC
    obtain ⟨a0, a1, a2, a3, a4⟩ := hC
    have HB1 := Lib.hid (bchain (below_boxR' w r) b1)
    clear b1 hT
    go_wp2_with fail
    refine (refRow_any r _ _ (Below.refl _ _) HS.out).mono ?_
    rintro e w2 ⟨rfl, b2⟩
    clear a0 a1 a2 a3 a4
    have HC2 := Lib.hid (HC.out.below b2)
    have HB2 := Lib.hid (bchain HB1.out b2)
    clear b2
    by_cases he : Vt.rowE r = 0
    · have HE := Lib.hid he
      rw [he]
      go_wp2_with fail
      go_loopw [7] (fun i wr => ∃ k : Nat, k ≤ n ∧ i = .int .i64 k ∧ Hid (k + Vt.spot r (rs.drop k) = Vt.spot r rs) ∧ Hid (Below w.heap.size w wr) ∧ Hid (RowC wr w.heap.size r)) (fun i _ => n - (intOf i).toNat)
      case atStart => exact ⟨0, by omega, rfl, Lib.hid (Nat.zero_add _), HB2, HC2⟩
      case round =>
        rename World => wz
        obtain ⟨k, hk, rfl, HK, HB, HCz⟩ := hrel
        clear HB1 HB2 HC HC2
        have hC := HCz.out
        unfold RowC at hC
        obtain ⟨a0, a1, a2, a3, a4⟩ := hC
        have l0 := cell_regrown a0
        have l1 := cell_regrown a1
        have l2 := cell_regrown a2
        have l3 := cell_regrown a3
        have l4 := cell_regrown a4
        by_cases hlt : k < n
        · obtain ⟨b, off, rfl⟩ := HR.out.at (by omega)
          have hkr : k < rs.length := HN.out ▸ hlt
          obtain ⟨q, hq⟩ : ∃ q, rs[k] = q := ⟨_, rfl⟩
          have hrow := (HR.out.row k hkr).below HB.out
          have HSt := Lib.hid (spot_at r rs k hkr)
          rw [hq] at hrow HSt
          obtain ⟨g0, g1, g2, g3, g4⟩ := hrow
          have k0 := cell_regrown g0
          have k1 := cell_regrown g1
          have k2 := cell_regrown g2
          have k3 := cell_regrown g3
          have k4 := cell_regrown g4
          have c1 := refBefore_agg q r
          cases hqr : Vt.lt q r
          · rw [hqr] at c1
            rw [hqr, if_neg (by simp)] at HSt
            have HSp : Hid (Vt.spot r rs = k) := Lib.hid (by rw [← HK.out, HSt.out]; rfl)
            have HTk : Hid (Vt.taken rs r = !(Vt.lt r q)) := by
              show _ = _
              unfold Vt.taken
              rw [HSp.out, List.getElem?_eq_getElem hkr, hq]
            go_wp2
            refine wp_region_quiet_below (by kernel_rfl) (by kernel_rfl) ?_
            repeat (first | go_big_quiet_step (first | (go_at_call 34; exact c1 _ _ _)) | quiet_step (first | (go_at_call 34; exact c1 _ _ _)))
            refine wpQuiet_nil ?_
            intro _ hw'
            obtain ⟨⟨dq, osq⟩, hw''⟩ := hw'
            subst hw''
            have HBv := Lib.hid (bchain HB.out (below_regrown wz dq osq))
            have HCv := Lib.hid (HCz.out.below (below_regrown wz dq osq))
            have rowq := HR.out.row k hkr
            rw [hq] at rowq
            clear hq
            clear k0 k1 k2 k3 k4 l0 l1 l2 l3 l4 g0 g1 g2 g3 g4 a0 a1 a2 a3 a4 c1
            generalize grow (redrawn wz dq) osq = u at *
            have hC := HCv.out
            unfold RowC at hC
            obtain ⟨a0, a1, a2, a3, a4⟩ := hC
            have l0 := cell_regrown a0
            have l1 := cell_regrown a1
            have l2 := cell_regrown a2
            have l3 := cell_regrown a3
            have l4 := cell_regrown a4
            obtain ⟨g0, g1, g2, g3, g4⟩ := rowq.below HBv.out
            have k0 := cell_regrown g0
            have k1 := cell_regrown g1
            have k2 := cell_regrown g2
            have k3 := cell_regrown g3
            have k4 := cell_regrown g4
            have c2 := refBefore_agg r q
            cases hrq : Vt.lt r q
            · rw [hrq] at c2 HTk
              go_wp2
              refine wp_region_quiet_below (by kernel_rfl) (by kernel_rfl) ?_
              repeat (first | go_big_quiet_step (first | (go_at_call 34; exact c2 _ _ _)) | quiet_step (first | (go_at_call 34; exact c2 _ _ _)))
              refine wpQuiet_nil ?_
              intro _ hw'
              obtain ⟨⟨dq, osq⟩, hw''⟩ := hw'
              subst hw''
              have HBx := Lib.hid (bchain HBv.out (below_regrown u dq osq))
              have HP := Lib.hid (put_taken HTT.out HE.out HTk.out)
              go_wp2_with fail
              go_ret2
              exact ⟨_, by rw [HP.out.1]; rfl, by rw [HP.out.2]; exact own_nil _ _, HBx.out⟩
            · rw [hrq] at c2 HTk
              go_wp2
              refine wp_region_quiet_below (by kernel_rfl) (by kernel_rfl) ?_
              repeat (first | go_big_quiet_step (first | (go_at_call 34; exact c2 _ _ _)) | quiet_step (first | (go_at_call 34; exact c2 _ _ _)))
              refine wpQuiet_nil ?_
              intro _ hw'
              obtain ⟨⟨dq, osq⟩, hw''⟩ := hw'
              subst hw''
              have HBx := Lib.hid (bchain HBv.out (below_regrown u dq osq))
              have HCx := Lib.hid (HCv.out.below (below_regrown u dq osq))
              clear k0 k1 k2 k3 k4 l0 l1 l2 l3 l4 g0 g1 g2 g3 g4 a0 a1 a2 a3 a4 c2
              generalize grow (redrawn u dq) osq = x at *
              by_cases h24 : 24 ≤ n
              · have hl24 : 24 ≤ rs.length := HN.out ▸ h24
                have HP := Lib.hid (put_long HTT.out HE.out HTk.out hl24)
                go_wp2_with fail
                go_ret2
                exact ⟨_, by rw [HP.out.1]; rfl, by rw [HP.out.2]; exact own_nil _ _, HBx.out⟩
              · have HP := Lib.hid (put_ok HTT.out HE.out HTk.out (by have := HN.out; omega))
                have HRx := Lib.hid (HR.out.below HBx.out)
                obtain ⟨hs1, hR1⟩ := rts_to HRx.out k (by omega)
                obtain ⟨ao2, cap2, hs2, hR2⟩ := rts_from HRx.out k (by omega)
                obtain ⟨j, hj⟩ : ∃ j, n - k = j := ⟨_, rfl⟩
                rw [hj] at hs2 hR2
                have HR1 := Lib.hid hR1
                have HR2 := Lib.hid hR2
                have HJ := Lib.hid hj
                have hjb : j ≤ 24 := by omega
                have hkb : k ≤ 24 := by omega
                have lx : ∀ y, Below x.heap.size x y → y.cell? ⟨w.heap.size, 0, none⟩ = some (.string r.cat) ∧ y.cell? ⟨w.heap.size, 1, none⟩ = some (.int .i64 r.y) ∧ y.cell? ⟨w.heap.size, 2, none⟩ = some (.int .i64 r.m) ∧ y.cell? ⟨w.heap.size, 3, none⟩ = some (.int .i64 r.d) ∧ y.cell? ⟨w.heap.size, 4, none⟩ = some (.int .i64 r.bp) := fun y hy => HCx.out.below hy
                obtain ⟨d0, d1, d2, d3, d4⟩ := lx x.drew (Below.refl _ _).drew
                clear hR1 hR2 hj
                go_wp2
                go_region_held3 (fun y => Below x.heap.size x y) (first | assumption | exact (Below.refl _ _).drew | exact below_box (by assumption) _) (first | (refine step_rows y2 x b2 (by rfl) (.tmp 53) (.tmp 56) (by rfl) v2 ([] ++ rs.take k ++ [r]) (by rfl) o2 ao2 j cap2 (rs.drop k) (by rfl) HR2.out.len HR2.out.nil (HR2.out.seg.below b2) (by simp; omega) ?_; intro v3 y3 o3 gr3 b3) | (refine step_rows (y1.alloc (.cells #[.string r.cat, .int .i64 r.y, .int .i64 r.m, .int .i64 r.d, .int .i64 r.bp] 25)) x (below_box b1 _) (by rfl) (.tmp 50) (.tmp 52) (by rfl) v1 ([] ++ rs.take k) (by rfl) (own_alloc o1 _) (some ⟨y1.heap.size, 0, none⟩) 1 1 [r] (by rfl) rfl (fun h => by cases h) (seg_block (heap_alloc_new y1 _)) (by simp; omega) ?_; intro v2 y2 o2 gr2 b2) | (refine step_rows y1 x b1 (by rfl) (.tmp 50) (.tmp 52) (by rfl) v1 ([] ++ rs.take k) (by rfl) o1 (some ⟨_, 0, none⟩) 1 1 [r] (by rfl) rfl (fun h => by cases h) (seg_block F) (by simp; omega) ?_; intro v2 y2 o2 gr2 b2) | (refine step_rows (x.alloc (.cells #[] 25)).drew x (by assumption) (by rfl) (.tmp 46) (.tmp 49) (by rfl) (.slice (some ⟨x.heap.size, 0, none⟩) 0 0) [] (by rfl) (own_empty (Nat.le_refl _) (heap_alloc_new x _)) (some ⟨b, off, none⟩) k cap (rs.take k) (by rfl) HR1.out.len HR1.out.nil (HR1.out.seg.below (by assumption)) (by simp; omega) ?_; intro v1 y1 o1 gr1 b1) | (refine step_rows ((x.alloc (.cells #[] 25)).alloc (.cells #[.string r.cat, .int .i64 r.y, .int .i64 r.m, .int .i64 r.d, .int .i64 r.bp] 25)).drew x (by assumption) (by rfl) (.tmp 46) (.tmp 49) (by rfl) (.slice (some ⟨x.heap.size, 0, none⟩) 0 0) [] (by rfl) (own_empty (Nat.le_refl _) (heap_old (heap_alloc_new x _))) (some ⟨b, off, none⟩) k cap (rs.take k) (by rfl) HR1.out.len HR1.out.nil (HR1.out.seg.below (by assumption)) (by simp; omega) ?_; intro v1 y1 o1 gr1 b1; have F : y1.heap[x.heap.size + 1]? = some (rowBlock r) := blk_keep gr1 (heap_next x _ _) (by simp [Value.ownBlock])) | (refine step_rows ((x.alloc (.cells #[.string r.cat, .int .i64 r.y, .int .i64 r.m, .int .i64 r.d, .int .i64 r.bp] 25)).alloc (.cells #[] 25)).drew x (by assumption) (by rfl) (.tmp 46) (.tmp 49) (by rfl) (.slice (some ⟨x.heap.size + 1, 0, none⟩) 0 0) [] (by rfl) (own_empty (Nat.le_succ _) (heap_next x _ _)) (some ⟨b, off, none⟩) k cap (rs.take k) (by rfl) HR1.out.len HR1.out.nil (HR1.out.seg.below (by assumption)) (by simp; omega) ?_; intro v1 y1 o1 gr1 b1; have F : y1.heap[x.heap.size]? = some (rowBlock r) := blk_keep gr1 (heap_old (heap_alloc_new x _)) (by simp [Value.ownBlock])) | fail)
                all_goals
                  go_wp2
                  go_ret2
                  exact ⟨v3, by rw [HP.out.1]; rfl, by rw [HP.out.2, show Vt.putL rs r = [] ++ rs.take k ++ [r] ++ rs.drop k from by unfold Vt.putL; rw [HSp.out]; simp]; exact own_mono o3 HBx.out.size, bchain HBx.out b3⟩
          · rw [hqr] at c1
            rw [hqr, if_pos rfl] at HSt
            clear hq
            go_wp2
            refine wp_region_quiet_below (by kernel_rfl) (by kernel_rfl) ?_
            repeat (first | go_big_quiet_step (first | (go_at_call 34; exact c1 _ _ _)) | quiet_step (first | (go_at_call 34; exact c1 _ _ _)))
            refine wpQuiet_nil ?_
            intro _ hw'
            obtain ⟨⟨dq, osq⟩, hw''⟩ := hw'
            subst hw''
            have HBv := Lib.hid (bchain HB.out (below_regrown wz dq osq))
            go_wp2
            go_roundw
            case rel => exact ⟨k + 1, by omega, by go_num, Lib.hid (by rw [← HK.out, HSt.out]; omega), HBv, Lib.hid (HCz.out.below (below_regrown wz dq osq))⟩
            case measure => simp [intOf]; omega
        · obtain rfl : k = n := by omega
          have HSp : Hid (Vt.spot r rs = k) := Lib.hid (by rw [← HK.out, List.drop_eq_nil_of_le (Nat.le_of_eq HN.out.symm)]; rfl)
          have HTk : Hid (Vt.taken rs r = false) := by
            show _ = _
            unfold Vt.taken
            rw [HSp.out, List.getElem?_eq_none (Nat.le_of_eq HN.out.symm)]
          go_wp2
          refine wp_region_quiet_below (by kernel_rfl) (by kernel_rfl) ?_
          repeat (first | go_big_quiet_step (fail) | quiet_step (fail))
          refine wpQuiet_nil ?_
          intro _ hw'
          obtain ⟨⟨dq, osq⟩, hw''⟩ := hw'
          subst hw''
          have HBv := Lib.hid (bchain HB.out (below_regrown wz dq osq))
          have HCv := Lib.hid (HCz.out.below (below_regrown wz dq osq))
          clear l0 l1 l2 l3 l4 a0 a1 a2 a3 a4
          generalize grow (redrawn wz dq) osq = u at *
          go_wp2
          refine wp_region_quiet_below (by kernel_rfl) (by kernel_rfl) ?_
          repeat (first | go_big_quiet_step (fail) | quiet_step (fail))
          refine wpQuiet_nil ?_
          intro _ hw'
          obtain ⟨⟨dq, osq⟩, hw''⟩ := hw'
          subst hw''
          have HBx := Lib.hid (bchain HBv.out (below_regrown u dq osq))
          have HCx := Lib.hid (HCv.out.below (below_regrown u dq osq))
          generalize grow (redrawn u dq) osq = x at *
          by_cases h24 : 24 ≤ k
          · have hl24 : 24 ≤ rs.length := HN.out ▸ h24
            have HP := Lib.hid (put_long HTT.out HE.out HTk.out hl24)
            go_wp2_with fail
            go_ret2
            exact ⟨_, by rw [HP.out.1]; rfl, by rw [HP.out.2]; exact own_nil _ _, HBx.out⟩
          · have HP := Lib.hid (put_ok HTT.out HE.out HTk.out (by have := HN.out; omega))
            have HRx := Lib.hid (HR.out.below HBx.out)
            obtain ⟨hs1, hR1⟩ := rts_to HRx.out k (by omega)
            obtain ⟨ao2, cap2, hs2, hR2⟩ := rts_from HRx.out k (by omega)
            obtain ⟨j, hj⟩ : ∃ j, k - k = j := ⟨_, rfl⟩
            rw [hj] at hs2 hR2
            have HR1 := Lib.hid hR1
            have HR2 := Lib.hid hR2
            have HJ := Lib.hid hj
            have hjb : j ≤ 24 := by omega
            have hkb : k ≤ 24 := by omega
            have lx : ∀ y, Below x.heap.size x y → y.cell? ⟨w.heap.size, 0, none⟩ = some (.string r.cat) ∧ y.cell? ⟨w.heap.size, 1, none⟩ = some (.int .i64 r.y) ∧ y.cell? ⟨w.heap.size, 2, none⟩ = some (.int .i64 r.m) ∧ y.cell? ⟨w.heap.size, 3, none⟩ = some (.int .i64 r.d) ∧ y.cell? ⟨w.heap.size, 4, none⟩ = some (.int .i64 r.bp) := fun y hy => HCx.out.below hy
            obtain ⟨d0, d1, d2, d3, d4⟩ := lx x.drew (Below.refl _ _).drew
            clear hR1 hR2 hj
            go_wp2
            go_region_held3 (fun y => Below x.heap.size x y) (first | assumption | exact (Below.refl _ _).drew | exact below_box (by assumption) _) (first | (refine step_rows y2 x b2 (by rfl) (.tmp 53) (.tmp 56) (by rfl) v2 ([] ++ rs.take k ++ [r]) (by rfl) o2 ao2 j cap2 (rs.drop k) (by rfl) HR2.out.len HR2.out.nil (HR2.out.seg.below b2) (by simp; omega) ?_; intro v3 y3 o3 gr3 b3) | (refine step_rows (y1.alloc (.cells #[.string r.cat, .int .i64 r.y, .int .i64 r.m, .int .i64 r.d, .int .i64 r.bp] 25)) x (below_box b1 _) (by rfl) (.tmp 50) (.tmp 52) (by rfl) v1 ([] ++ rs.take k) (by rfl) (own_alloc o1 _) (some ⟨y1.heap.size, 0, none⟩) 1 1 [r] (by rfl) rfl (fun h => by cases h) (seg_block (heap_alloc_new y1 _)) (by simp; omega) ?_; intro v2 y2 o2 gr2 b2) | (refine step_rows y1 x b1 (by rfl) (.tmp 50) (.tmp 52) (by rfl) v1 ([] ++ rs.take k) (by rfl) o1 (some ⟨_, 0, none⟩) 1 1 [r] (by rfl) rfl (fun h => by cases h) (seg_block F) (by simp; omega) ?_; intro v2 y2 o2 gr2 b2) | (refine step_rows (x.alloc (.cells #[] 25)).drew x (by assumption) (by rfl) (.tmp 46) (.tmp 49) (by rfl) (.slice (some ⟨x.heap.size, 0, none⟩) 0 0) [] (by rfl) (own_empty (Nat.le_refl _) (heap_alloc_new x _)) ao k cap (rs.take k) (by rfl) HR1.out.len HR1.out.nil (HR1.out.seg.below (by assumption)) (by simp; omega) ?_; intro v1 y1 o1 gr1 b1) | (refine step_rows ((x.alloc (.cells #[] 25)).alloc (.cells #[.string r.cat, .int .i64 r.y, .int .i64 r.m, .int .i64 r.d, .int .i64 r.bp] 25)).drew x (by assumption) (by rfl) (.tmp 46) (.tmp 49) (by rfl) (.slice (some ⟨x.heap.size, 0, none⟩) 0 0) [] (by rfl) (own_empty (Nat.le_refl _) (heap_old (heap_alloc_new x _))) ao k cap (rs.take k) (by rfl) HR1.out.len HR1.out.nil (HR1.out.seg.below (by assumption)) (by simp; omega) ?_; intro v1 y1 o1 gr1 b1; have F : y1.heap[x.heap.size + 1]? = some (rowBlock r) := blk_keep gr1 (heap_next x _ _) (by simp [Value.ownBlock])) | (refine step_rows ((x.alloc (.cells #[.string r.cat, .int .i64 r.y, .int .i64 r.m, .int .i64 r.d, .int .i64 r.bp] 25)).alloc (.cells #[] 25)).drew x (by assumption) (by rfl) (.tmp 46) (.tmp 49) (by rfl) (.slice (some ⟨x.heap.size + 1, 0, none⟩) 0 0) [] (by rfl) (own_empty (Nat.le_succ _) (heap_next x _ _)) ao k cap (rs.take k) (by rfl) HR1.out.len HR1.out.nil (HR1.out.seg.below (by assumption)) (by simp; omega) ?_; intro v1 y1 o1 gr1 b1; have F : y1.heap[x.heap.size]? = some (rowBlock r) := blk_keep gr1 (heap_old (heap_alloc_new x _)) (by simp [Value.ownBlock])) | fail)
            all_goals
              go_wp2
              go_ret2
              exact ⟨v3, by rw [HP.out.1]; rfl, by rw [HP.out.2, show Vt.putL rs r = [] ++ rs.take k ++ [r] ++ rs.drop k from by unfold Vt.putL; rw [HSp.out]; simp]; exact own_mono o3 HBx.out.size, bchain HBx.out b3⟩
    · have hne : (Vt.rowE r != 0) = true := bne_iff_ne.2 he
      have HP := Lib.hid (put_row HTT.out he)
      go_wp2_with fail
      go_ret2
      exact ⟨_, by rw [HP.out.1]; rfl, by rw [HP.out.2]; exact own_nil _ _, HB2.out⟩
end Go.Proofs.Ytgcjhlnolmjdeaa
