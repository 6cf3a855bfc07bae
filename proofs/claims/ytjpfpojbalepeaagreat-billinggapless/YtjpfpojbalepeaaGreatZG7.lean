import Derived.Deep.RegionHeld3
import Derived.Laws.CopyOwn
import Derived.Laws.MakeOwn
import Derived.Lib.QuietBelow
import Derived.Test.YtjpfpojbalepeaaGreatZG1
import Derived.Test.YtjpfpojbalepeaaGreatZG2
import Derived.Test.YtjpfpojbalepeaaGreatZG4
import Derived.Test.YtjpfpojbalepeaaGreatZG5
import Derived.Test.YtjpfpojbalepeaaGreatZG6
namespace Go.Proofs.YtjpfpojbalepeaaGreat
open Go.RowKit
open Vt (Rt)
open Go.Sort (grow)
def PutE (w : World) (rs : List Rt) (r : Rt) (e : Ending) (w' : World) : Prop := ∃ v,e = .returned (.tuple #[v,.int .i64 (Vt.putE rs r)]) ∧ OwnR w' w.heap.size v (Vt.putR rs r) ∧ Below w.heap.size w w'
theorem own_nil (w : World) (B : Nat) : OwnR w B (.slice none 0 0) [] := ⟨rfl,.inl ⟨rfl,rfl⟩⟩
theorem put_table {rs : List Rt} {r : Rt} (h : Vt.tableB rs = false) : Vt.putE rs r = 1 ∧ Vt.putR rs r = [] := by
 have e : Vt.putE rs r = 1 := if_pos h
 refine ⟨e,?_⟩
 unfold Vt.putR
 rw [e]
 rfl
theorem put_row {rs : List Rt} {r : Rt} (h : Vt.tableB rs = true) (k : Vt.rowE r ≠ 0) : Vt.putE rs r = Vt.rowE r ∧ Vt.putR rs r = [] := by
 have e : Vt.putE rs r = Vt.rowE r := by
  unfold Vt.putE
  rw [if_neg (by rw [h]; simp),if_pos k]
 refine ⟨e,?_⟩
 unfold Vt.putR
 rw [e,if_neg k]
theorem put_taken {rs : List Rt} {r : Rt} (h : Vt.tableB rs = true) (k : Vt.rowE r = 0) (l : Vt.taken rs r = true) : Vt.putE rs r = 12 ∧ Vt.putR rs r = [] := by
 have e : Vt.putE rs r = 12 := by
  unfold Vt.putE
  rw [if_neg (by rw [h]; simp),if_neg (by simpa using k),if_pos l]
 refine ⟨e,?_⟩
 unfold Vt.putR
 rw [e]
 rfl
theorem put_long {rs : List Rt} {r : Rt} (h : Vt.tableB rs = true) (k : Vt.rowE r = 0) (l : Vt.taken rs r = false) (m : 24 ≤ rs.length) : Vt.putE rs r = 2 ∧ Vt.putR rs r = [] := by
 have e : Vt.putE rs r = 2 := by
  unfold Vt.putE
  rw [if_neg (by rw [h]; simp),if_neg (by simpa using k),if_neg (by rw [l]; simp),if_pos m]
 refine ⟨e,?_⟩
 unfold Vt.putR
 rw [e]
 rfl
theorem put_ok {rs : List Rt} {r : Rt} (h : Vt.tableB rs = true) (k : Vt.rowE r = 0) (l : Vt.taken rs r = false) (m : rs.length < 24) : Vt.putE rs r = 0 ∧ Vt.putR rs r = Vt.putL rs r := by
 have e : Vt.putE rs r = 0 := by
  unfold Vt.putE
  rw [if_neg (by rw [h]; simp),if_neg (by simpa using k),if_neg (by rw [l]; simp),if_neg (by omega)]
 refine ⟨e,?_⟩
 unfold Vt.putR
 rw [e]
 rfl
theorem spot_at (r : Rt) (rs : List Rt) (k : Nat) (h : k < rs.length) : Vt.spot r (rs.drop k) = if Vt.lt rs[k] r = true then Vt.spot r (rs.drop (k + 1)) + 1 else 0 := by
 rw [List.drop_eq_getElem_cons h]
 rfl
theorem below_boxR' (w : World) (r : Rt) : Below w.heap.size w (w.alloc (.cells #[.string r.cat,.int .i64 r.y,.int .i64 r.m,.int .i64 r.d,.int .i64 r.bp] 25)) := (Below.refl _ _).alloc (Nat.le_refl _) _
end Go.Proofs.YtjpfpojbalepeaaGreat
namespace Go.Proofs.YtjpfpojbalepeaaGreat
open Go.RowKit
open Vt (Rt)
open Go.Sort (grow)
theorem make_cap (n : Nat) (hn : n ≤ 1000) (u : World) : (Instr.makeSlice 36 (.int .i64 0) (.int .i64 ((n : Int) + 1))).run Tryz.prog u =
  .ok (.slice (some ⟨u.heap.size,0,none⟩) 0 (n + 1)) (u.alloc (.cells (zerosR (n + 1)) 25)) := by
 obtain ⟨i0,hi,hz0,hz1,hz2⟩ := info_parts infoZ
 have h := run_make (P := Tryz.prog) u 36 25 i0 zeroV Tryz.underlying36 hi hz0 .i64 .i64 0 ((n : Int) + 1) (by omega) (by omega) (by rw [hz2]; omega) (by omega)
 rw [hz1,show ((n : Int) + 1).toNat = n + 1 from by omega,made_rows] at h
 exact h
theorem own_cap (u : World) (B c : Nat) (hB : B ≤ u.heap.size) (hc : c ≤ 1000) : OwnR (u.alloc (.cells (zerosR c) 25)) B (.slice (some ⟨u.heap.size,0,none⟩) 0 c) [] :=
 ⟨rfl,.inr ⟨u.heap.size,c,zerosR c,rfl,hB,heap_alloc_new u _,Nat.zero_le _,by have : maxLen = 9223372036854775807 := rfl; omega,by unfold zerosR; rw [List.size_toArray,flat_len,List.length_replicate],rfl⟩⟩
set_option maxHeartbeats 4000000 in
theorem vat_with (rs : List Rt) (ao : Option Addr) (n cap : Nat) (r : Rt) (w : World) (hR : Rts w ao n cap rs) (hs : Short r) (hn : n < 24) (hE : ∀ a ∈ rs,Vt.rowE a = 0) (he : Vt.rowE r = 0) :
  Calls Tryz.prog 163 #[.slice ao n cap,rowV r] w fun e w' => ∃ v,e = .returned v ∧ OwnR w' w.heap.size v (Vt.putL rs r) ∧ Below w.heap.size w w' := by
 have HR := Lib.hid hR
 have HS := Lib.hid hs
 have HN := Lib.hid hR.len
 have HE := Lib.hid hE
 have HEr := Lib.hid he
 have hcap := hR.reach
 have hfit := hR.fits
 clear hR hs hE he
 unfold rowV
 go_enter Tryz.func163,Tryz.ntmps163
 go_wp2
 go_loopw [5] (fun i wr => ∃ k : Nat,k ≤ n ∧ i = .int .i64 k ∧ Hid (k + Vt.spot r (rs.drop k) = Vt.spot r rs) ∧ Hid (Below w.heap.size w wr) ∧ Hid (RowC wr w.heap.size r)) (fun i _ => n - (intOf i).toNat)
 case atStart => exact ⟨0,by omega,rfl,Lib.hid (Nat.zero_add _),Lib.hid (below_boxR w r),Lib.hid (rowC_box w r)⟩
 case round =>
  rename World => wz
  obtain ⟨k,hk,rfl,HK,HB,HCz⟩ := hrel
  have hC := HCz.out
  unfold RowC at hC
  obtain ⟨a0,a1,a2,a3,a4⟩ := hC
  have l0 := cell_regrown a0
  have l1 := cell_regrown a1
  have l2 := cell_regrown a2
  have l3 := cell_regrown a3
  have l4 := cell_regrown a4
  by_cases hlt : k < n
  ·
   obtain ⟨b,off,rfl⟩ := HR.out.at (by omega)
   have hkr : k < rs.length := HN.out ▸ hlt
   obtain ⟨q,hq⟩ : ∃ q,rs[k] = q := ⟨_,rfl⟩
   have hmem : q ∈ rs := hq ▸ List.getElem_mem hkr
   have hrow := (HR.out.row k hkr).below HB.out
   have HSt := Lib.hid (spot_at r rs k hkr)
   rw [hq] at hrow HSt
   obtain ⟨g0,g1,g2,g3,g4⟩ := hrow
   have k0 := cell_regrown g0
   have k1 := cell_regrown g1
   have k2 := cell_regrown g2
   have k3 := cell_regrown g3
   have k4 := cell_regrown g4
   have c1 := vatAhead_agg q r (HR.out.short q hmem) HS.out (HE.out q hmem) HEr.out
   clear hq hmem
   cases hqr : Vt.lt q r
   ·
    rw [hqr] at c1
    rw [hqr,if_neg (by simp)] at HSt
    have HSp : Hid (Vt.spot r rs = k) := Lib.hid (by rw [← HK.out,HSt.out]; rfl)
    go_wp2
    refine wp_region_quiet_below (by kernel_rfl) (by kernel_rfl) ?_
    repeat (first | go_big_quiet_step (first | (go_at_call 66; exact c1 _ _ _)) | quiet_step (first | (go_at_call 66; exact c1 _ _ _)))
    refine wpQuiet_nil ?_
    intro _ hw'
    obtain ⟨⟨dq,osq⟩,hw''⟩ := hw'
    subst hw''
    have HBx := Lib.hid (bchain HB.out (below_regrown wz dq osq))
    have HCx := Lib.hid (HCz.out.below (below_regrown wz dq osq))
    clear k0 k1 k2 k3 k4 l0 l1 l2 l3 l4 g0 g1 g2 g3 g4 a0 a1 a2 a3 a4 c1
    generalize grow (redrawn wz dq) osq = x at *
    have HP : Hid (Vt.putL rs r = rs.take k ++ r :: rs.drop k) := Lib.hid (by unfold Vt.putL; rw [HSp.out])
    have HRx := Lib.hid (HR.out.below HBx.out)
    obtain ⟨hs1,hR1⟩ := rts_to HRx.out k (by omega)
    obtain ⟨ao2,cap2,hs2,hR2⟩ := rts_from HRx.out k (by omega)
    obtain ⟨j,hj⟩ : ∃ j,n - k = j := ⟨_,rfl⟩
    rw [hj] at hs2 hR2
    have HR1 := Lib.hid hR1
    have HR2 := Lib.hid hR2
    have hjb : j ≤ 24 := by omega
    have hkb : k ≤ 24 := by omega
    have hmk := make_cap n (by omega)
    clear hR1 hR2 hj
    have hB1 : Below x.heap.size x (x.alloc (.cells (zerosR (n + 1)) 25)) := (Below.refl _ _).alloc (Nat.le_refl _) _
    have HB1 := Lib.hid hB1
    clear hB1
    go_wp2_with (at_builtin; go_must (refine wpList_append_rows _ rfl (.tmp 25) (.tmp 28) rfl x.heap.size (.slice (some ⟨x.heap.size,0,none⟩) 0 (n + 1)) [] rfl (own_cap x x.heap.size (n + 1) (Nat.le_refl _) (by omega)) (some ⟨b,off,none⟩) k cap (rs.take k) rfl HR1.out.len HR1.out.nil (HR1.out.below HB1.out).seg (by simp only [List.length_nil]; omega) (by simp) ?_))
    intro v1 y1 o1 gr1 _
    have hb1 := HB1.out.grown gr1 HB1.out.size (own_ge (own_cap x x.heap.size (n + 1) (Nat.le_refl _) (by omega)))
    have HO1 : Hid (∀ o,OwnR (y1.alloc o) x.heap.size v1 ([] ++ rs.take k)) := fun o => own_alloc o1 o
    have HY1 := Lib.hid hb1
    have hC := HCx.out.below hb1
    have HC1 := Lib.hid hC
    unfold RowC at hC
    obtain ⟨a0,a1,a2,a3,a4⟩ := hC
    have hsz1 : x.heap.size ≤ y1.heap.size := hb1.size
    clear o1 gr1 hb1
    go_wp2_with (at_builtin; go_must (refine wpList_append_rows _ rfl (.tmp 30) (.tmp 32) rfl x.heap.size v1 ([] ++ rs.take k) rfl (HO1.out _) (some ⟨y1.heap.size,0,none⟩) 1 1 [r] rfl rfl (fun h => by cases h) (seg_block (heap_alloc_new y1 _)) (by rw [List.nil_append,← HR1.out.len]; omega) (by simp; omega) ?_))
    intro v2 y2 o2 gr2 _
    have hb2 := (HY1.out.alloc HY1.out.size (rowBlock r)).grown gr2 (HY1.out.alloc HY1.out.size (rowBlock r)).size (own_ge (HO1.out (rowBlock r)))
    have HO2 := Lib.hid o2
    have HY2 := Lib.hid hb2
    clear o2 gr2 hb2 a0 a1 a2 a3 a4
    go_wp2_with (at_builtin; go_must (refine wpList_append_rows _ rfl (.tmp 34) (.tmp 37) rfl x.heap.size v2 ([] ++ rs.take k ++ [r]) rfl HO2.out ao2 j cap2 (rs.drop k) rfl HR2.out.len HR2.out.nil (HR2.out.below HY2.out).seg (by rw [List.nil_append,List.length_append,← HR1.out.len,List.length_singleton]; omega) HY2.out.size ?_))
    intro v3 y3 o3 gr3 _
    have hb3 := HY2.out.grown gr3 HY2.out.size (own_ge HO2.out)
    have HO3 := Lib.hid o3
    have HY3 := Lib.hid hb3
    clear o3 gr3 hb3
    go_wp2
    go_ret
    exact ⟨v3,rfl,by rw [HP.out]; exact own_mono HO3.out HBx.out.size,bchain HBx.out HY3.out⟩
   ·
    rw [hqr] at c1
    rw [hqr,if_pos rfl] at HSt
    go_wp2
    refine wp_region_quiet_below (by kernel_rfl) (by kernel_rfl) ?_
    repeat (first | go_big_quiet_step (first | (go_at_call 66; exact c1 _ _ _)) | quiet_step (first | (go_at_call 66; exact c1 _ _ _)))
    refine wpQuiet_nil ?_
    intro _ hw'
    obtain ⟨⟨dq,osq⟩,hw''⟩ := hw'
    subst hw''
    have HBv := Lib.hid (bchain HB.out (below_regrown wz dq osq))
    go_wp2
    go_roundw
    case rel => exact ⟨k + 1,by omega,by go_num,Lib.hid (by rw [← HK.out,HSt.out]; omega),HBv,Lib.hid (HCz.out.below (below_regrown wz dq osq))⟩
    case measure => simp [intOf]; omega
  ·
   obtain rfl : k = n := by omega
   have HSp : Hid (Vt.spot r rs = k) := Lib.hid (by rw [← HK.out,List.drop_eq_nil_of_le (Nat.le_of_eq HN.out.symm)]; rfl)
   go_wp2
   refine wp_region_quiet_below (by kernel_rfl) (by kernel_rfl) ?_
   repeat (first | go_big_quiet_step (fail) | quiet_step (fail))
   refine wpQuiet_nil ?_
   intro _ hw'
   obtain ⟨⟨dq,osq⟩,hw''⟩ := hw'
   subst hw''
   have HBx := Lib.hid (bchain HB.out (below_regrown wz dq osq))
   have HCx := Lib.hid (HCz.out.below (below_regrown wz dq osq))
   clear l0 l1 l2 l3 l4 a0 a1 a2 a3 a4
   generalize grow (redrawn wz dq) osq = x at *
   have HP : Hid (Vt.putL rs r = rs.take k ++ r :: rs.drop k) := Lib.hid (by unfold Vt.putL; rw [HSp.out])
   have HRx := Lib.hid (HR.out.below HBx.out)
   obtain ⟨hs1,hR1⟩ := rts_to HRx.out k (by omega)
   obtain ⟨ao2,cap2,hs2,hR2⟩ := rts_from HRx.out k (by omega)
   obtain ⟨j,hj⟩ : ∃ j,k - k = j := ⟨_,rfl⟩
   rw [hj] at hs2 hR2
   have HR1 := Lib.hid hR1
   have HR2 := Lib.hid hR2
   have hjb : j ≤ 24 := by omega
   have hkb : k ≤ 24 := by omega
   have hmk := make_cap k (by omega)
   clear hR1 hR2 hj
   have hB1 : Below x.heap.size x (x.alloc (.cells (zerosR (k + 1)) 25)) := (Below.refl _ _).alloc (Nat.le_refl _) _
   have HB1 := Lib.hid hB1
   clear hB1
   go_wp2_with (at_builtin; go_must (refine wpList_append_rows _ rfl (.tmp 25) (.tmp 28) rfl x.heap.size (.slice (some ⟨x.heap.size,0,none⟩) 0 (k + 1)) [] rfl (own_cap x x.heap.size (k + 1) (Nat.le_refl _) (by omega)) ao k cap (rs.take k) rfl HR1.out.len HR1.out.nil (HR1.out.below HB1.out).seg (by simp only [List.length_nil]; omega) (by simp) ?_))
   intro v1 y1 o1 gr1 _
   have hb1 := HB1.out.grown gr1 HB1.out.size (own_ge (own_cap x x.heap.size (k + 1) (Nat.le_refl _) (by omega)))
   have HO1 : Hid (∀ o,OwnR (y1.alloc o) x.heap.size v1 ([] ++ rs.take k)) := fun o => own_alloc o1 o
   have HY1 := Lib.hid hb1
   have hC := HCx.out.below hb1
   have HC1 := Lib.hid hC
   unfold RowC at hC
   obtain ⟨a0,a1,a2,a3,a4⟩ := hC
   have hsz1 : x.heap.size ≤ y1.heap.size := hb1.size
   clear o1 gr1 hb1
   go_wp2_with (at_builtin; go_must (refine wpList_append_rows _ rfl (.tmp 30) (.tmp 32) rfl x.heap.size v1 ([] ++ rs.take k) rfl (HO1.out _) (some ⟨y1.heap.size,0,none⟩) 1 1 [r] rfl rfl (fun h => by cases h) (seg_block (heap_alloc_new y1 _)) (by rw [List.nil_append,← HR1.out.len]; omega) (by simp; omega) ?_))
   intro v2 y2 o2 gr2 _
   have hb2 := (HY1.out.alloc HY1.out.size (rowBlock r)).grown gr2 (HY1.out.alloc HY1.out.size (rowBlock r)).size (own_ge (HO1.out (rowBlock r)))
   have HO2 := Lib.hid o2
   have HY2 := Lib.hid hb2
   clear o2 gr2 hb2 a0 a1 a2 a3 a4
   go_wp2_with (at_builtin; go_must (refine wpList_append_rows _ rfl (.tmp 34) (.tmp 37) rfl x.heap.size v2 ([] ++ rs.take k ++ [r]) rfl HO2.out ao2 j cap2 (rs.drop k) rfl HR2.out.len HR2.out.nil (HR2.out.below HY2.out).seg (by rw [List.nil_append,List.length_append,← HR1.out.len,List.length_singleton]; omega) HY2.out.size ?_))
   intro v3 y3 o3 gr3 _
   have hb3 := HY2.out.grown gr3 HY2.out.size (own_ge HO2.out)
   have HO3 := Lib.hid o3
   have HY3 := Lib.hid hb3
   clear o3 gr3 hb3
   go_wp2
   go_ret
   exact ⟨v3,rfl,by rw [HP.out]; exact own_mono HO3.out HBx.out.size,bchain HBx.out HY3.out⟩
end Go.Proofs.YtjpfpojbalepeaaGreat
namespace Go.Proofs.YtjpfpojbalepeaaGreat
open Go.RowKit
open Vt (Rt)
open Go.Sort (grow)
set_option maxHeartbeats 2000000 in
theorem vat_put (rs : List Rt) (ao : Option Addr) (n cap : Nat) (r : Rt) (w : World) (hR : Rts w ao n cap rs) (hs : Short r) :
  Calls Tryz.prog 140 #[.slice ao n cap,rowV r] w (PutE w rs r) := by
 have HR := Lib.hid hR
 have HS := Lib.hid hs
 have HN := Lib.hid hR.len
 have hcap := hR.reach
 have hfit := hR.fits
 clear hR hs
 unfold rowV
 go_enter Tryz.func140,Tryz.ntmps140
 go_wp2_with fail
 refine (vat_right rs ao n cap _ _ (Below.refl _ _) (HR.out.below (below_boxR' w r))).mono ?_
 rintro e w1 ⟨rfl,b1⟩
 cases hT : Vt.tableB rs
 ·
  have HP := Lib.hid (put_table (r := r) hT)
  have HB := Lib.hid (bchain (below_boxR' w r) b1)
  clear b1
  go_wp2_with fail
  go_ret2
  exact ⟨_,by rw [HP.out.1]; rfl,by rw [HP.out.2]; exact own_nil _ _,HB.out⟩
 ·
  have HTT := Lib.hid hT
  have hC := (rowC_box w r).below b1
  have HC := Lib.hid hC
  unfold RowC at hC
  obtain ⟨a0,a1,a2,a3,a4⟩ := hC
  have HB1 := Lib.hid (bchain (below_boxR' w r) b1)
  clear b1 hT
  go_wp2_with fail
  refine (vat_row r _ _ (Below.refl _ _) HS.out).mono ?_
  rintro e w2 ⟨rfl,b2⟩
  clear a0 a1 a2 a3 a4
  have hC := HC.out.below b2
  have HC2 := Lib.hid hC
  unfold RowC at hC
  obtain ⟨a0,a1,a2,a3,a4⟩ := hC
  have HB2 := Lib.hid (bchain HB1.out b2)
  clear b2
  by_cases he : Vt.rowE r = 0
  ·
   have HE := Lib.hid he
   have HTk := Lib.hid (Vt.taken_any r HE.out rs ((Vt.table_iff rs).1 HTT.out).2.2 ((Vt.table_iff rs).1 HTT.out).2.1)
   rw [he]
   clear he
   go_wp2_with fail
   refine (vat_taken rs ao n cap r _ _ (Below.refl _ _) (HR.out.below HB2.out)).mono ?_
   rintro e w3 ⟨rfl,b3⟩
   clear a0 a1 a2 a3 a4
   have hC := HC2.out.below b3
   unfold RowC at hC
   obtain ⟨a0,a1,a2,a3,a4⟩ := hC
   have HB3 := Lib.hid (bchain HB2.out b3)
   clear b3
   cases hk : rs.any (Vt.sameB r)
   ·
    have HK : Hid (Vt.taken rs r = false) := Lib.hid (HTk.out.trans hk)
    clear hk
    by_cases h24 : n = 24
    ·
     have hq : ((n : Int) == 24) = true := beq_iff_eq.2 (by omega)
     have HP := Lib.hid (put_long HTT.out HE.out HK.out (by have := HN.out; omega))
     clear h24
     go_wp2_with fail
     go_ret2
     exact ⟨_,by rw [HP.out.1]; rfl,by rw [HP.out.2]; exact own_nil _ _,HB3.out⟩
    ·
     have hq : ((n : Int) == 24) = false := beq_eq_false_iff_ne.2 (by omega)
     have HL : Hid (n < 24) := Lib.hid (by have h1 := ((Vt.table_iff rs).1 HTT.out).1; have := HN.out; omega)
     have HP := Lib.hid (put_ok HTT.out HE.out HK.out (by have := HL.out; have := HN.out; omega))
     clear h24
     go_wp2_with fail
     refine (vat_with rs ao n cap r _ (HR.out.below HB3.out) HS.out HL.out ((Vt.table_iff rs).1 HTT.out).2.1 HE.out).mono ?_
     rintro e w4 ⟨v,rfl,o4,b4⟩
     have HO := Lib.hid (own_mono o4 HB3.out.size)
     have HB4 := Lib.hid (bchain HB3.out b4)
     clear o4 b4
     go_wp2_with fail
     go_ret2
     exact ⟨v,by rw [HP.out.1]; rfl,by rw [HP.out.2]; exact HO.out,HB4.out⟩
   ·
    have HP := Lib.hid (put_taken HTT.out HE.out (HTk.out.trans hk))
    clear hk
    go_wp2_with fail
    go_ret2
    exact ⟨_,by rw [HP.out.1]; rfl,by rw [HP.out.2]; exact own_nil _ _,HB3.out⟩
  ·
   have hne : (Vt.rowE r != 0) = true := bne_iff_ne.2 he
   have HP := Lib.hid (put_row HTT.out he)
   go_wp2_with fail
   go_ret2
   exact ⟨_,by rw [HP.out.1]; rfl,by rw [HP.out.2]; exact own_nil _ _,HB2.out⟩
end Go.Proofs.YtjpfpojbalepeaaGreat
namespace Go.Proofs.YtjpfpojbalepeaaGreat
open Go.RowKit
open Mem
open Go.Sort (grow)
set_option maxHeartbeats 4000000 in
theorem ses_with (rs : List Sn.T) (ao : Option Addr) (n cap : Nat) (r : Sn.T) (w : World) (hR : Sn.Ls w ao n cap rs) (hn : n < 8) :
  Calls Tryz.prog 134 #[.slice ao n cap,Sn.val r] w fun e w' => ∃ v,e = .returned v ∧ Sn.Own w' w.heap.size v (Sp.openL rs r) ∧ Below w.heap.size w w' := by
 have HR := Lib.hid hR
 have HN := Lib.hid hR.len
 have hcap := hR.reach
 have hfit := hR.fits
 clear hR
 unfold Sn.val
 go_enter Tryz.func134,Tryz.ntmps134
 go_wp2
 go_loopw [5] (fun i wr => ∃ k : Nat,k ≤ n ∧ i = .int .i64 k ∧ Hid (k + Sp.spot r.id (rs.drop k) = Sp.spot r.id rs) ∧ Hid (Below w.heap.size w wr) ∧ Hid (Sn.C wr w.heap.size r)) (fun i _ => n - (intOf i).toNat)
 case atStart => exact ⟨0,by omega,rfl,Lib.hid (Nat.zero_add _),Lib.hid (Sn.below_own w r),Lib.hid (Sn.c_box w r)⟩
 case round =>
  rename World => wz
  obtain ⟨k,hk,rfl,HK,HB,HCz⟩ := hrel
  have hC := HCz.out
  unfold Sn.C at hC
  obtain ⟨a0,a1,a2,a3,a4⟩ := hC
  have l0 := cell_regrown a0
  have l1 := cell_regrown a1
  have l2 := cell_regrown a2
  have l3 := cell_regrown a3
  have l4 := cell_regrown a4
  by_cases hlt : k < n
  ·
   obtain ⟨b,off,rfl⟩ := HR.out.at (by omega)
   have hkr : k < rs.length := HN.out ▸ hlt
   obtain ⟨q,hq⟩ : ∃ q,rs[k] = q := ⟨_,rfl⟩
   have hrow := (HR.out.row k hkr).below HB.out
   have HSt := Lib.hid (Sp.spot_at r.id rs k hkr)
   rw [hq] at hrow HSt
   obtain ⟨g0,g1,g2,g3,g4⟩ := hrow
   have k0 := cell_regrown g0
   have k1 := cell_regrown g1
   have k2 := cell_regrown g2
   have k3 := cell_regrown g3
   have k4 := cell_regrown g4
   clear hq
   unfold Sp.lt at HSt
   cases hqr : decide (q.id < r.id)
   ·
    rw [hqr,if_neg (by simp)] at HSt
    have HSp : Hid (Sp.spot r.id rs = k) := Lib.hid (by rw [← HK.out,HSt.out]; rfl)
    go_wp2
    refine wp_region_quiet_below (by kernel_rfl) (by kernel_rfl) ?_
    repeat (first | go_big_quiet_step (fail) | quiet_step (fail))
    refine wpQuiet_nil ?_
    intro _ hw'
    obtain ⟨⟨dq,osq⟩,hw''⟩ := hw'
    subst hw''
    have HBx := Lib.hid (bchain HB.out (below_regrown wz dq osq))
    have HCx := Lib.hid (HCz.out.below (below_regrown wz dq osq))
    clear l0 l1 l2 l3 l4 a0 a1 a2 a3 a4 k0 k1 k2 k3 k4 g0 g1 g2 g3 g4 hqr
    generalize grow (redrawn wz dq) osq = x at *
    have HP : Hid (Sp.openL rs r = rs.take k ++ r :: rs.drop k) := Lib.hid (by unfold Sp.openL; rw [HSp.out])
    have HRx := Lib.hid (HR.out.below HBx.out)
    obtain ⟨hs1,hR1⟩ := HRx.out.to k (by omega)
    obtain ⟨ao2,cap2,hs2,hR2⟩ := HRx.out.from k (by omega)
    obtain ⟨j,hj⟩ : ∃ j,n - k = j := ⟨_,rfl⟩
    rw [hj] at hs2 hR2
    have HR1 := Lib.hid hR1
    have HR2 := Lib.hid hR2
    have hjb : j ≤ 8 := by omega
    have hkb : k ≤ 8 := by omega
    have hmk := Sn.make_cap n (by omega)
    clear hR1 hR2 hj
    have hB1 : Below x.heap.size x (x.alloc (.cells (Sn.zeros (n + 1)) 82)) := (Below.refl _ _).alloc (Nat.le_refl _) _
    have HB1 := Lib.hid hB1
    clear hB1
    go_wp2_with (at_builtin; go_must (refine Sn.wpList_append _ rfl (.tmp 27) (.tmp 30) rfl x.heap.size (.slice (some ⟨x.heap.size,0,none⟩) 0 (n + 1)) [] rfl (Sn.own_cap x x.heap.size (n + 1) (Nat.le_refl _) (by omega)) (some ⟨b,off,none⟩) k cap (rs.take k) rfl HR1.out.len HR1.out.nil (HR1.out.below HB1.out).seg (by simp only [List.length_nil]; omega) (by simp) ?_))
    intro v1 y1 o1 gr1 _
    have hb1 := HB1.out.grown gr1 HB1.out.size (Sn.own_ge (Sn.own_cap x x.heap.size (n + 1) (Nat.le_refl _) (by omega)))
    have HO1 : Hid (∀ o,Sn.Own (y1.alloc o) x.heap.size v1 ([] ++ rs.take k)) := fun o => Sn.own_alloc o1 o
    have HY1 := Lib.hid hb1
    have hC := HCx.out.below hb1
    unfold Sn.C at hC
    obtain ⟨a0,a1,a2,a3,a4⟩ := hC
    have hsz1 : x.heap.size ≤ y1.heap.size := hb1.size
    clear o1 gr1 hb1
    go_wp2_with (at_builtin; go_must (refine Sn.wpList_append _ rfl (.tmp 32) (.tmp 34) rfl x.heap.size v1 ([] ++ rs.take k) rfl (HO1.out _) (some ⟨y1.heap.size,0,none⟩) 1 1 [r] rfl rfl (fun h => by cases h) (Sn.seg_block (heap_alloc_new y1 _)) (by rw [List.nil_append,← HR1.out.len]; omega) (by simp; omega) ?_))
    intro v2 y2 o2 gr2 _
    have hb2 := (HY1.out.alloc HY1.out.size (Sn.block r)).grown gr2 (HY1.out.alloc HY1.out.size (Sn.block r)).size (Sn.own_ge (HO1.out (Sn.block r)))
    have HO2 := Lib.hid o2
    have HY2 := Lib.hid hb2
    clear o2 gr2 hb2 a0 a1 a2 a3 a4
    go_wp2_with (at_builtin; go_must (refine Sn.wpList_append _ rfl (.tmp 36) (.tmp 39) rfl x.heap.size v2 ([] ++ rs.take k ++ [r]) rfl HO2.out ao2 j cap2 (rs.drop k) rfl HR2.out.len HR2.out.nil (HR2.out.below HY2.out).seg (by rw [List.nil_append,List.length_append,← HR1.out.len,List.length_singleton]; omega) HY2.out.size ?_))
    intro v3 y3 o3 gr3 _
    have hb3 := HY2.out.grown gr3 HY2.out.size (Sn.own_ge HO2.out)
    have HO3 := Lib.hid o3
    have HY3 := Lib.hid hb3
    clear o3 gr3 hb3
    go_wp2
    go_ret
    exact ⟨v3,rfl,by rw [HP.out]; exact Sn.own_mono HO3.out HBx.out.size,bchain HBx.out HY3.out⟩
   ·
    rw [hqr,if_pos rfl] at HSt
    go_wp2
    refine wp_region_quiet_below (by kernel_rfl) (by kernel_rfl) ?_
    repeat (first | go_big_quiet_step (fail) | quiet_step (fail))
    refine wpQuiet_nil ?_
    intro _ hw'
    obtain ⟨⟨dq,osq⟩,hw''⟩ := hw'
    subst hw''
    have HBv := Lib.hid (bchain HB.out (below_regrown wz dq osq))
    go_wp2
    go_roundw
    case rel => exact ⟨k + 1,by omega,by go_num,Lib.hid (by rw [← HK.out,HSt.out]; omega),HBv,Lib.hid (HCz.out.below (below_regrown wz dq osq))⟩
    case measure => simp [intOf]; omega
  ·
   obtain rfl : k = n := by omega
   have HSp : Hid (Sp.spot r.id rs = k) := Lib.hid (by rw [← HK.out,List.drop_eq_nil_of_le (Nat.le_of_eq HN.out.symm)]; rfl)
   go_wp2
   refine wp_region_quiet_below (by kernel_rfl) (by kernel_rfl) ?_
   repeat (first | go_big_quiet_step (fail) | quiet_step (fail))
   refine wpQuiet_nil ?_
   intro _ hw'
   obtain ⟨⟨dq,osq⟩,hw''⟩ := hw'
   subst hw''
   have HBx := Lib.hid (bchain HB.out (below_regrown wz dq osq))
   have HCx := Lib.hid (HCz.out.below (below_regrown wz dq osq))
   clear l0 l1 l2 l3 l4 a0 a1 a2 a3 a4
   generalize grow (redrawn wz dq) osq = x at *
   have HP : Hid (Sp.openL rs r = rs.take k ++ r :: rs.drop k) := Lib.hid (by unfold Sp.openL; rw [HSp.out])
   have HRx := Lib.hid (HR.out.below HBx.out)
   obtain ⟨hs1,hR1⟩ := HRx.out.to k (by omega)
   obtain ⟨ao2,cap2,hs2,hR2⟩ := HRx.out.from k (by omega)
   obtain ⟨j,hj⟩ : ∃ j,k - k = j := ⟨_,rfl⟩
   rw [hj] at hs2 hR2
   have HR1 := Lib.hid hR1
   have HR2 := Lib.hid hR2
   have hjb : j ≤ 8 := by omega
   have hkb : k ≤ 8 := by omega
   have hmk := Sn.make_cap k (by omega)
   clear hR1 hR2 hj
   have hB1 : Below x.heap.size x (x.alloc (.cells (Sn.zeros (k + 1)) 82)) := (Below.refl _ _).alloc (Nat.le_refl _) _
   have HB1 := Lib.hid hB1
   clear hB1
   go_wp2_with (at_builtin; go_must (refine Sn.wpList_append _ rfl (.tmp 27) (.tmp 30) rfl x.heap.size (.slice (some ⟨x.heap.size,0,none⟩) 0 (k + 1)) [] rfl (Sn.own_cap x x.heap.size (k + 1) (Nat.le_refl _) (by omega)) ao k cap (rs.take k) rfl HR1.out.len HR1.out.nil (HR1.out.below HB1.out).seg (by simp only [List.length_nil]; omega) (by simp) ?_))
   intro v1 y1 o1 gr1 _
   have hb1 := HB1.out.grown gr1 HB1.out.size (Sn.own_ge (Sn.own_cap x x.heap.size (k + 1) (Nat.le_refl _) (by omega)))
   have HO1 : Hid (∀ o,Sn.Own (y1.alloc o) x.heap.size v1 ([] ++ rs.take k)) := fun o => Sn.own_alloc o1 o
   have HY1 := Lib.hid hb1
   have hC := HCx.out.below hb1
   unfold Sn.C at hC
   obtain ⟨a0,a1,a2,a3,a4⟩ := hC
   have hsz1 : x.heap.size ≤ y1.heap.size := hb1.size
   clear o1 gr1 hb1
   go_wp2_with (at_builtin; go_must (refine Sn.wpList_append _ rfl (.tmp 32) (.tmp 34) rfl x.heap.size v1 ([] ++ rs.take k) rfl (HO1.out _) (some ⟨y1.heap.size,0,none⟩) 1 1 [r] rfl rfl (fun h => by cases h) (Sn.seg_block (heap_alloc_new y1 _)) (by rw [List.nil_append,← HR1.out.len]; omega) (by simp; omega) ?_))
   intro v2 y2 o2 gr2 _
   have hb2 := (HY1.out.alloc HY1.out.size (Sn.block r)).grown gr2 (HY1.out.alloc HY1.out.size (Sn.block r)).size (Sn.own_ge (HO1.out (Sn.block r)))
   have HO2 := Lib.hid o2
   have HY2 := Lib.hid hb2
   clear o2 gr2 hb2 a0 a1 a2 a3 a4
   go_wp2_with (at_builtin; go_must (refine Sn.wpList_append _ rfl (.tmp 36) (.tmp 39) rfl x.heap.size v2 ([] ++ rs.take k ++ [r]) rfl HO2.out ao2 j cap2 (rs.drop k) rfl HR2.out.len HR2.out.nil (HR2.out.below HY2.out).seg (by rw [List.nil_append,List.length_append,← HR1.out.len,List.length_singleton]; omega) HY2.out.size ?_))
   intro v3 y3 o3 gr3 _
   have hb3 := HY2.out.grown gr3 HY2.out.size (Sn.own_ge HO2.out)
   have HO3 := Lib.hid o3
   have HY3 := Lib.hid hb3
   clear o3 gr3 hb3
   go_wp2
   go_ret
   exact ⟨v3,rfl,by rw [HP.out]; exact Sn.own_mono HO3.out HBx.out.size,bchain HBx.out HY3.out⟩
end Go.Proofs.YtjpfpojbalepeaaGreat
set_option linter.unusedVariables false
namespace Go.Proofs.YtjpfpojbalepeaaGreat
open Go.RowKit
open Mem
open Go.Sort (grow)
set_option maxHeartbeats 2000000 in
theorem ses_join (ls : List Sn.T) (i : Int) (ao : Option Addr) (n cap : Nat) (w : World) (hL : Sn.Ls w ao n cap ls) (hi : Fit i) :
  Calls Tryz.prog 98 #[.slice ao n cap,.int .i64 i] w (JoinE w ls i) := by
 have HR := Lib.hid hL
 have HN := Lib.hid hL.len
 have hcap := hL.reach
 have hfit := hL.fits
 clear hL hi
 go_enter Tryz.func98,Tryz.ntmps98
 go_wp2_with fail
 refine (ses_right ls ao n cap _ _ (Below.refl _ _) HR.out).mono ?_
 rintro e w1 ⟨rfl,b1⟩
 have HB1 := Lib.hid b1
 clear b1
 cases hT : Sp.rightB ls
 ·
  have HP := Lib.hid (Sp.join_arg (i := i) hT)
  clear hT
  go_wp2_with fail
  go_ret2
  exact ⟨_,by rw [HP.out.1]; rfl,by rw [HP.out.2]; exact Sn.own_nil _ _,HB1.out⟩
 ·
  have HT := Lib.hid hT
  clear hT
  by_cases hi : i < 1
  ·
   have HP := Lib.hid (Sp.join_low HT.out hi)
   have hd : decide (i < 1) = true := decide_eq_true hi
   clear hi
   go_wp2_with fail
   go_ret2
   exact ⟨_,by rw [HP.out.1]; rfl,by rw [HP.out.2]; exact Sn.own_nil _ _,HB1.out⟩
  ·
   have HI1 := Lib.hid hi
   have hd : decide (i < 1) = false := decide_eq_false hi
   clear hi
   go_wp2_with fail
   refine (ses_index ls i ao n cap _ _ HB1.out (HR.out.below HB1.out)).mono ?_
   rintro e w4 ⟨rfl,b4⟩
   have HB4 := Lib.hid b4
   have HI : Hid (Sp.ix i ls ≤ n) := Lib.hid (by have := Sp.ix_le i ls; have := HN.out; omega)
   clear b4
   obtain ⟨j,hj⟩ : ∃ j,Sp.ix i ls = j := ⟨_,rfl⟩
   have HIx := Lib.hid hj
   rw [hj] at HI
   rw [hj]
   clear hj
   have hin := HI.out
   by_cases hlt : j < n
   ·
    have HP := Lib.hid (Sp.join_taken (i := i) HT.out (by have := HI1.out; omega) (by rw [HIx.out]; exact HN.out ▸ hlt))
    go_wp2_with fail
    go_ret2
    exact ⟨_,by rw [HP.out.1]; rfl,by rw [HP.out.2]; exact Sn.own_nil _ _,HB4.out⟩
   ·
    have HNo : Hid (¬ Sp.ix i ls < ls.length) := Lib.hid (by rw [HIx.out]; exact HN.out ▸ hlt)
    by_cases h8 : n = 8
    ·
     have hq : ((n : Int) == 8) = true := beq_iff_eq.2 (by omega)
     have HP := Lib.hid (Sp.join_full (i := i) HT.out (by have := HI1.out; omega) HNo.out (by have := HN.out; omega))
     clear h8
     go_wp2_with fail
     go_ret2
     exact ⟨_,by rw [HP.out.1]; rfl,by rw [HP.out.2]; exact Sn.own_nil _ _,HB4.out⟩
    ·
     have hq : ((n : Int) == 8) = false := beq_eq_false_iff_ne.2 (by omega)
     have HL8 : Hid (n < 8) := Lib.hid (by have h1 := ((Sp.right_iff ls).1 HT.out).1; have := HN.out; omega)
     have HP := Lib.hid (Sp.join_ok (i := i) HT.out (by have := HI1.out; omega) HNo.out (by have := HL8.out; have := HN.out; omega))
     clear h8
     go_wp2_with fail
     refine (ses_fresh i _ _ HB4.out).mono ?_
     rintro e w6 ⟨rfl,b6⟩
     have HB6 := Lib.hid b6
     clear b6
     go_wp2_with fail
     refine (ses_with ls ao n cap (Sp.new i) _ (HR.out.below HB6.out) HL8.out).mono ?_
     rintro e w5 ⟨v,rfl,o5,b5⟩
     have HO := Lib.hid (Sn.own_mono o5 HB6.out.size)
     have HB5 := Lib.hid (bchain HB6.out b5)
     clear o5 b5
     go_wp2_with fail
     go_ret2
     exact ⟨v,by rw [HP.out.1]; rfl,by rw [HP.out.2]; exact HO.out,HB5.out⟩
theorem Sn.make_room (c : Nat) (hn : c ≤ 1000) (u : World) : (Instr.makeSlice 40 (.int .i64 0) (.int .i64 (c : Int))).run Tryz.prog u =
  .ok (.slice (some ⟨u.heap.size,0,none⟩) 0 c) (u.alloc (.cells (Sn.zeros c) 82)) := by
 obtain ⟨i0,hi,hz0,hz1,hz2⟩ := info_parts Sn.info
 have h := run_make (P := Tryz.prog) u 40 82 i0 Sn.zeroV Tryz.underlying40 hi hz0 .i64 .i64 0 (c : Int) (by omega) (by omega) (by rw [hz2]; omega) (by omega)
 rw [hz1,Int.toNat_natCast,Sn.made] at h
 exact h
set_option maxHeartbeats 2000000 in
theorem ses_leave (ls : List Sn.T) (i : Int) (ao : Option Addr) (n cap : Nat) (w : World) (hL : Sn.Ls w ao n cap ls) (hi : Fit i) :
  Calls Tryz.prog 145 #[.slice ao n cap,.int .i64 i] w (LeaveE w ls i) := by
 have HR := Lib.hid hL
 have HN := Lib.hid hL.len
 have hcap := hL.reach
 have hfit := hL.fits
 clear hL hi
 go_enter Tryz.func145,Tryz.ntmps145
 go_wp2_with fail
 refine (ses_right ls ao n cap _ _ (Below.refl _ _) HR.out).mono ?_
 rintro e w1 ⟨rfl,b1⟩
 have HB1 := Lib.hid b1
 clear b1
 cases hT : Sp.rightB ls
 ·
  have HP := Lib.hid (Sp.leave_arg (i := i) hT)
  clear hT
  go_wp2_with fail
  go_ret2
  exact ⟨_,by rw [HP.out.1]; rfl,by rw [HP.out.2]; exact Sn.own_nil _ _,HB1.out⟩
 ·
  have HT := Lib.hid hT
  have HL8 : Hid (n ≤ 8) := Lib.hid (by have h1 := ((Sp.right_iff ls).1 hT).1; have := HN.out; omega)
  clear hT
  go_wp2_with fail
  refine (ses_index ls i ao n cap _ _ HB1.out (HR.out.below HB1.out)).mono ?_
  rintro e x ⟨rfl,b4⟩
  have HB4 := Lib.hid b4
  have HI : Hid (Sp.ix i ls ≤ n) := Lib.hid (by have := Sp.ix_le i ls; have := HN.out; omega)
  clear b4
  obtain ⟨k,hj⟩ : ∃ j,Sp.ix i ls = j := ⟨_,rfl⟩
  have HIx := Lib.hid hj
  rw [hj] at HI
  rw [hj]
  clear hj
  have hin := HI.out
  by_cases hlt : k < n
  ·
   have hq : ((k : Int) == (n : Int)) = false := beq_eq_false_iff_ne.2 (by omega)
   have HP := Lib.hid (Sp.leave_ok HT.out (by rw [HIx.out]; exact HN.out ▸ hlt))
   rw [HIx.out] at HP
   have HRx := Lib.hid (HR.out.below HB4.out)
   obtain ⟨m,hm⟩ : ∃ m,n = m + 1 := ⟨n - 1,by omega⟩
   have hnm : (n : Int) - 1 = (m : Int) := by omega
   obtain ⟨p,hp⟩ : ∃ p,k + 1 = p := ⟨_,rfl⟩
   have hkp : (k : Int) + 1 = (p : Int) := by omega
   rw [show Sp.cut ls k = [] ++ ls.take k ++ ls.drop p by unfold Sp.cut; rw [hp]; rfl] at HP
   obtain ⟨hs1,hR1⟩ := HRx.out.to k (by omega)
   obtain ⟨ao2,cap2,hs2,hR2⟩ := HRx.out.from p (by omega)
   obtain ⟨j,hj⟩ : ∃ j,n - p = j := ⟨_,rfl⟩
   rw [hj] at hs2 hR2
   have HR1 := Lib.hid hR1
   have HR2 := Lib.hid hR2
   have hmb : m ≤ 8 := by have := HL8.out; omega
   have hjb : j ≤ 8 := by have := HL8.out; omega
   have hkb : k ≤ 8 := by have := HL8.out; omega
   have hmk := Sn.make_room m (by omega)
   clear hR1 hR2 hj hm hp
   have hB1 : Below x.heap.size x (x.alloc (.cells (Sn.zeros m) 82)) := (Below.refl _ _).alloc (Nat.le_refl _) _
   have HB2 := Lib.hid hB1
   clear hB1
   go_wp2_with (at_builtin; go_must (refine Sn.wpList_append _ rfl (.tmp 22) (.tmp 25) rfl x.heap.size (.slice (some ⟨x.heap.size,0,none⟩) 0 m) [] rfl (Sn.own_cap x x.heap.size m (Nat.le_refl _) (by omega)) ao k cap (ls.take k) rfl HR1.out.len HR1.out.nil (HR1.out.below HB2.out).seg (by simp only [List.length_nil]; omega) (by simp) ?_))
   intro v1 y1 o1 gr1 _
   have hb1 := HB2.out.grown gr1 HB2.out.size (Sn.own_ge (Sn.own_cap x x.heap.size m (Nat.le_refl _) (by omega)))
   have HO1 := Lib.hid o1
   have HY1 := Lib.hid hb1
   have hsz1 : x.heap.size ≤ y1.heap.size := hb1.size
   clear o1 gr1 hb1
   go_wp2_with (at_builtin; go_must (refine Sn.wpList_append _ rfl (.tmp 27) (.tmp 31) rfl x.heap.size v1 ([] ++ ls.take k) rfl HO1.out ao2 j cap2 (ls.drop p) rfl HR2.out.len HR2.out.nil (HR2.out.below HY1.out).seg (by rw [List.nil_append,← HR1.out.len]; omega) hsz1 ?_))
   intro v2 y2 o2 gr2 _
   have hb2 := HY1.out.grown gr2 HY1.out.size (Sn.own_ge HO1.out)
   have HO2 := Lib.hid o2
   have HY2 := Lib.hid hb2
   clear o2 gr2 hb2
   go_wp2
   go_ret2
   exact ⟨v2,by rw [HP.out.1]; rfl,by rw [HP.out.2]; exact Sn.own_mono HO2.out HB4.out.size,bchain HB4.out HY2.out⟩
  ·
   obtain rfl : k = n := by omega
   have hq : ((k : Int) == (k : Int)) = true := beq_self_eq_true _
   have HP := Lib.hid (Sp.leave_none HT.out (by rw [HIx.out]; exact HN.out ▸ hlt))
   go_wp2_with fail
   go_ret2
   exact ⟨_,by rw [HP.out.1]; rfl,by rw [HP.out.2]; exact Sn.own_nil _ _,HB4.out⟩
def Rp.none0 : Rp.T := ⟨0,0,0⟩
theorem Rp.frz0 (w : World) (r : Rp.T) (o : Nat) : (Rp.box w r).frozen? ⟨w.heap.size,o,none⟩ = false := frozen_of_row (Rp.box w r) w.heap.size o _ _ (heap_alloc_new w _)
theorem bset30 {w0 u : World} {p : Nat} (h : Below w0.heap.size w0 u) (hp : w0.heap.size ≤ p) (x0 x1 x2 : Value) : Below w0.heap.size w0 (((u.setCell ⟨p,0,none⟩ x0).setCell ⟨p,1,none⟩ x1).setCell ⟨p,2,none⟩ x2) := bset (bset (bset h hp _ _) hp _ _) hp _ _
set_option maxHeartbeats 2000000 in
theorem ses_look (ls : List Sn.T) (i q : Int) (ao : Option Addr) (n cap : Nat) (w0 w : World) (hw : Below w0.heap.size w0 w) (hL : Sn.Ls w ao n cap ls) (hi : Fit i) (hq : Fit q) :
  Calls Tryz.prog 56 #[.slice ao n cap,.int .i64 i,.int .i64 q] w (LookE w0 ls i q) := by
 have HW := Lib.hid hw
 have HR := Lib.hid hL
 have HN := Lib.hid hL.len
 have hcap := hL.reach
 have hfit := hL.fits
 clear hL hi hw hq
 go_enter Tryz.func56,Tryz.ntmps56
 go_wp2_with fail
 refine (ses_right ls ao n cap (Rp.box w Rp.none0) _ (Below.refl _ _) (HR.out.below (Rp.below_own w Rp.none0))).mono ?_
 rintro e w1 ⟨rfl,b1⟩
 cases hT : Sp.rightB ls
 ·
  have HP := Lib.hid (Sp.look_arg (i := i) (q := q) hT)
  have HO := Lib.hid (Sp.look_bad (l := ls) (i := i) (q := q) (by rw [HP.out]; omega))
  have hx := b1
  have hC := (Rp.c_box w Rp.none0).below hx
  unfold Rp.C at hC
  obtain ⟨a0,a1,a2⟩ := hC
  have hsz : w.heap.size < (Rp.box w Rp.none0).heap.size := by rw [Rp.box_size]; omega
  have f0 := ((bcell hx).2 w.heap.size 0 hsz).trans (Rp.frz0 w Rp.none0 0)
  have f1 := ((bcell hx).2 w.heap.size 1 hsz).trans (Rp.frz0 w Rp.none0 1)
  have f2 := ((bcell hx).2 w.heap.size 2 hsz).trans (Rp.frz0 w Rp.none0 2)
  have hB1 := bchain (Rp.below_own w Rp.none0) hx
  have HB1 := Lib.hid (And.intro (bchain HW.out hB1) HW.out.size)
  have HBw := Lib.hid hB1
  clear b1 hx hsz hB1
  clear hT
  go_wp2_with fail
  exact bodyPost_ret (v := .tuple #[Rp.val Rp.none0,.bool false,.int .i64 1]) (by simp [results,Rp.val,Rp.none0,Tryz.results56,go_sem,a0,a1,a2]; try rfl) rfl ⟨by rw [HP.out,HO.out.1,HO.out.2]; rfl,bset30 HB1.out.1 HB1.out.2 _ _ _⟩
 ·
  have HT := Lib.hid hT
  have HB0 := Lib.hid b1
  clear hT b1
  go_wp2_with fail
  refine (ses_index ls i ao n cap (Rp.box w Rp.none0) _ HB0.out (HR.out.below (bchain (Rp.below_own w Rp.none0) HB0.out))).mono ?_
  rintro e w1 ⟨rfl,hx⟩
  have hC := (Rp.c_box w Rp.none0).below hx
  unfold Rp.C at hC
  obtain ⟨a0,a1,a2⟩ := hC
  have hsz : w.heap.size < (Rp.box w Rp.none0).heap.size := by rw [Rp.box_size]; omega
  have f0 := ((bcell hx).2 w.heap.size 0 hsz).trans (Rp.frz0 w Rp.none0 0)
  have f1 := ((bcell hx).2 w.heap.size 1 hsz).trans (Rp.frz0 w Rp.none0 1)
  have f2 := ((bcell hx).2 w.heap.size 2 hsz).trans (Rp.frz0 w Rp.none0 2)
  have hB1 := bchain (Rp.below_own w Rp.none0) hx
  have HB1 := Lib.hid (And.intro (bchain HW.out hB1) HW.out.size)
  have HBw := Lib.hid hB1
  clear hx hsz hB1
  have HI : Hid (Sp.ix i ls ≤ n) := Lib.hid (by have := Sp.ix_le i ls; have := HN.out; omega)
  by_cases hlt : Sp.ix i ls < ls.length
  ·
   have hO := Sp.own_at hlt
   have HLt := Lib.hid hlt
   have hin : Sp.ix i ls < n := by have := HN.out; omega
   obtain ⟨b,off,rfl⟩ := HR.out.at (by omega)
   have hrow := (HR.out.row (Sp.ix i ls) hlt).below HBw.out
   rw [← hO] at hrow
   obtain ⟨r,hr⟩ : ∃ r,Sp.own ls i = r := ⟨_,rfl⟩
   have HRr := Lib.hid hr
   rw [hr] at hrow
   clear hO hr hlt
   obtain ⟨j,hj⟩ : ∃ j,Sp.ix i ls = j := ⟨_,rfl⟩
   rw [hj] at hrow hin
   rw [hj]
   clear hj HI
   obtain ⟨g0,g1,g2,g3,g4⟩ := hrow
   have hq : ((j : Int) == (n : Int)) = false := beq_eq_false_iff_ne.2 (by omega)
   go_wp2_with fail
   refine (ses_numbers q _).mono ?_
   rintro e w2 ⟨rfl,hw2⟩
   have hw3 := hw2.symm
   clear hw2
   subst hw3
   cases hn : Sp.numB q
   ·
    have HP := Lib.hid (Sp.look_seq HT.out HLt.out hn)
    have HO := Lib.hid (Sp.look_bad (l := ls) (i := i) (q := q) (by rw [HP.out]; omega))
    clear hn
    go_wp2_with fail
    exact bodyPost_ret (v := .tuple #[Rp.val Rp.none0,.bool false,.int .i64 1]) (by simp [results,Rp.val,Rp.none0,Tryz.results56,go_sem,a0,a1,a2]; try rfl) rfl ⟨by rw [HP.out,HO.out.1,HO.out.2]; rfl,bset30 HB1.out.1 HB1.out.2 _ _ _⟩
   ·
    have HNm := Lib.hid hn
    clear hn
    by_cases he : q = r.last
    ·
     have HP := Lib.hid (Sp.look_ok HT.out HLt.out HNm.out (by rw [HRr.out]; omega))
     have HO := Lib.hid (Sp.look_old HP.out (by rw [HRr.out]; exact he))
     have hqe : (q == r.last) = true := beq_iff_eq.2 he
     clear he
     go_wp2_with fail
     exact bodyPost_ret (v := .tuple #[Rp.val (Sp.rep r),.bool true,.int .i64 0]) (by simp [results,Rp.val,Sp.rep,Tryz.results56,go_sem,a0,a1,a2]; try rfl) rfl ⟨by rw [HP.out,HO.out.1,HO.out.2,HRr.out],bset30 HB1.out.1 HB1.out.2 _ _ _⟩
    ·
     have hqe : (q == r.last) = false := beq_eq_false_iff_ne.2 he
     by_cases hs : q < r.last
     ·
      have HP := Lib.hid (Sp.look_stale HT.out HLt.out HNm.out (by rw [HRr.out]; exact hs))
      have HO := Lib.hid (Sp.look_bad (l := ls) (i := i) (q := q) (by rw [HP.out]; omega))
      have hqs : decide (q < r.last) = true := decide_eq_true hs
      clear he hs
      go_wp2_with fail
      exact bodyPost_ret (v := .tuple #[Rp.val Rp.none0,.bool false,.int .i64 16]) (by simp [results,Rp.val,Rp.none0,Tryz.results56,go_sem,a0,a1,a2]; try rfl) rfl ⟨by rw [HP.out,HO.out.1,HO.out.2]; rfl,bset30 HB1.out.1 HB1.out.2 _ _ _⟩
     ·
      have HP := Lib.hid (Sp.look_ok HT.out HLt.out HNm.out (by rw [HRr.out]; exact hs))
      have HO := Lib.hid (Sp.look_new HP.out (by rw [HRr.out]; exact he))
      have hqs : decide (q < r.last) = false := decide_eq_false hs
      clear he hs
      go_wp2_with fail
      exact bodyPost_ret (v := .tuple #[Rp.val Rp.none0,.bool false,.int .i64 0]) (by simp [results,Rp.val,Rp.none0,Tryz.results56,go_sem,a0,a1,a2]; try rfl) rfl ⟨by rw [HP.out,HO.out.1,HO.out.2]; rfl,bset30 HB1.out.1 HB1.out.2 _ _ _⟩
  ·
   have HP := Lib.hid (Sp.look_gone (q := q) HT.out hlt)
   have HO := Lib.hid (Sp.look_bad (l := ls) (i := i) (q := q) (by rw [HP.out]; omega))
   have hix : Sp.ix i ls = n := by have := Sp.ix_le i ls; have := HN.out; omega
   rw [hix]
   have hq : ((n : Int) == (n : Int)) = true := beq_self_eq_true _
   clear hlt hix
   go_wp2_with fail
   exact bodyPost_ret (v := .tuple #[Rp.val Rp.none0,.bool false,.int .i64 15]) (by simp [results,Rp.val,Rp.none0,Tryz.results56,go_sem,a0,a1,a2]; try rfl) rfl ⟨by rw [HP.out,HO.out.1,HO.out.2]; rfl,bset30 HB1.out.1 HB1.out.2 _ _ _⟩
set_option maxHeartbeats 4000000 in
theorem ses_keep (ls : List Sn.T) (i q : Int) (r : Rp.T) (ao : Option Addr) (n cap : Nat) (w : World) (hL : Sn.Ls w ao n cap ls) (hi : Fit i) (hq : Fit q) (hr : Rp.Short r) :
  Calls Tryz.prog 109 #[.slice ao n cap,.int .i64 i,.int .i64 q,Rp.val r] w (KeepE w ls i q r) := by
 obtain ⟨U,hU,hbU,hCU⟩ := Rp.boxed1 w r
 have HL := Lib.hid (hL.below hbU)
 have HN := Lib.hid hL.len
 have HBU := Lib.hid hbU
 have HCU := Lib.hid hCU
 have HF := Lib.hid (And.intro hi hq)
 have hcap := hL.reach
 have hfit := hL.fits
 clear hL hbU hCU hi hq hr
 unfold Rp.val
 go_enter Tryz.func109,Tryz.ntmps109
 go_wp2_with fail
 refine (ses_look ls i q ao n cap U _ (Below.refl _ _) HL.out HF.out.1 HF.out.2).mono ?_
 rintro e w1 ⟨rfl,b1⟩
 have HB1 := Lib.hid b1
 clear b1 hU
 obtain ⟨rp,hrp⟩ : ∃ rp,Sp.rep (Sp.lookT ls i q) = rp := ⟨_,rfl⟩
 rw [hrp]
 clear hrp
 unfold Rp.val
 by_cases hE : Sp.lookE ls i q = 0
 ·
  cases hO : Sp.lookO ls i q
  ·
   have HP := Lib.hid (Sp.keep_ok (y := r.why) (n := r.num) (g := r.gross) hE hO)
   obtain ⟨hT,hlt,_⟩ := Sp.look_0 hE
   have hn8 : n ≤ 8 := by have := ((Sp.right_iff ls).1 hT).1; have := HN.out; omega
   have hin : Sp.ix i ls < n := by have := HN.out; omega
   rw [hE]
   obtain ⟨k,hk⟩ : ∃ k,Sp.ix i ls = k := ⟨_,rfl⟩
   have HK := Lib.hid hk
   rw [hk] at hin hlt HP
   have HX := Lib.hid hlt
   have hbx := bchain HB1.out (Rp.below_own w1 rp)
   have hmk := Sn.make n (by omega)
   have hblk0 := Sn.block_made (Rp.box w1 rp) n
   have hbel0 : Below (Rp.box w1 rp).heap.size (Rp.box w1 rp) ((Rp.box w1 rp).alloc (.cells (Sn.zeros n) 82)) := (Below.refl _ _).alloc (Nat.le_refl _) _
   have hbx2 := bchain hbx hbel0
   obtain ⟨W3,hcp,hblk,hbel,hsz⟩ := Sn.copy ((Rp.box w1 rp).alloc (.cells (Sn.zeros n) 82)) (Rp.box w1 rp).heap.size [] n ao n cap ls (by rw [List.append_nil]; exact hblk0) HN.out ((HL.out.below hbx2).seg)
   rw [List.length_nil,Nat.add_zero] at hcp
   rw [List.append_nil] at hblk
   have hb3 := bchain hbx (hbel _ _ hbel0 (Nat.le_refl _))
   have hUs : U.heap.size ≤ (Rp.box w1 rp).heap.size := hbx.size
   have HB3 := Lib.hid hb3
   have HBk := Lib.hid hblk
   have hC := HCU.out.below hb3
   have hUs2 : w.heap.size < U.heap.size := cell_lt HCU.out.1
   rw [Rp.box_size] at hcp HBk hUs
   unfold Rp.box at hcp
   clear hbx hblk0 hbel0 hbx2 hblk hbel hb3 hE hO hT hlt hk hsz
   unfold Rp.C at hC
   obtain ⟨a0,a1,a2⟩ := hC
   have HGt := Lib.hid (show U.heap.size ≤ w1.heap.size + 1 from hUs)
   have hne : ¬ w.heap.size = w1.heap.size + 1 := by omega
   clear hUs
   go_wp2_with fail
   go_region_with (go_at_call 99; refine (ses_index ls i ao n cap W3 _ (by first | exact Below.refl _ _ | exact (Below.refl _ _).drew) (by first | exact HL.out.below HB3.out | exact (HL.out.below HB3.out).below (Below.refl _ _).drew)).mono ?_; rintro e w4 ⟨rfl,b4⟩; rw [HK.out]; have HB4 := Lib.hid b4; have HOw := Lib.hid (Sn.own_of_block (B := w1.heap.size + 1) (HBk.out.below b4) (Nat.le_refl _) HN.out (by omega)); obtain ⟨hAt,hfz,hge⟩ := Sn.own_at HOw.out k HX.out; have d0 := ((bcell b4).1 w.heap.size 0 (cell_lt a0)).trans a0; have d1 := ((bcell b4).1 w.heap.size 1 (cell_lt a0)).trans a1; have d2 := ((bcell b4).1 w.heap.size 2 (cell_lt a0)).trans a2; obtain ⟨c0,c1,c2,c3,c4⟩ := hAt; have f0 := hfz (k * 5); have f1 := hfz (k * 5 + 1); have f2 := hfz (k * 5 + 2); have f3 := hfz (k * 5 + 3); have f4 := hfz (k * 5 + 4); clear b4 hfz hge)
   all_goals
    have HPut := Lib.hid (Sn.own_mono (Sn.own_store HOw.out k HX.out ⟨i,q,r.why,r.num,r.gross⟩) (show w.heap.size ≤ w1.heap.size + 1 by have := HGt.out; omega))
    have HBl := Lib.hid (Sn.below_store (bchain (bchain HBU.out HB3.out) HB4.out) (show w.heap.size ≤ w1.heap.size + 1 by have := HGt.out; omega) k (.int .i64 i) (.int .i64 q) (.int .i64 r.why) (.int .i64 r.num) (.int .i64 r.gross))
    clear c0 c1 c2 c3 c4 d0 d1 d2 f0 f1 f2 f3 f4 a0 a1 a2
    go_wp2_with fail
    go_ret2
    exact ⟨_,by rw [HP.out.1]; rfl,by rw [HP.out.2]; exact HPut.out,HBl.out⟩
  ·
   have HP := Lib.hid (Sp.keep_old (y := r.why) (n := r.num) (g := r.gross) hE hO)
   rw [hE]
   clear hE hO
   go_wp2_with fail
   go_ret2
   exact ⟨_,by rw [HP.out.1]; rfl,by rw [HP.out.2]; exact Sn.own_nil _ _,below_box (bchain HBU.out HB1.out) _⟩
 ·
  have HP := Lib.hid (Sp.keep_bad (y := r.why) (n := r.num) (g := r.gross) hE)
  obtain ⟨e,he⟩ : ∃ e,Sp.lookE ls i q = e := ⟨_,rfl⟩
  have HE := Lib.hid he
  have hne : (e != 0) = true := bne_iff_ne.2 (he ▸ hE)
  rw [he]
  clear he hE
  go_wp2_with fail
  go_ret2
  exact ⟨_,by rw [HP.out.1,HE.out]; rfl,by rw [HP.out.2]; exact Sn.own_nil _ _,below_box (bchain HBU.out HB1.out) _⟩
end Go.Proofs.YtjpfpojbalepeaaGreat
namespace Go.Proofs.YtjpfpojbalepeaaGreat
open Go.RowKit
open Mem
open Go.Sort (grow)
def AnsSe (f : FuncId) (args : Array Value) (u : World) (i : Nat) (os : Array Obj) (v : Value) : Prop :=
 Calls Tryz.prog f args (grow (redrawn u i) os) fun e w'' => e = .returned v ∧ ∃ p : Regrown,w'' = grow (redrawn u p.d) p.os
theorem ser_limits (n : Int) (w : World) : Calls Tryz.prog 112 #[.int .i64 n] w fun e w' => e = .returned (.bool (Se.lim n)) ∧ w' = w := by
 by_cases h1 : 1 ≤ n
 ·
  by_cases h2 : n ≤ 1099511627776
  ·
   have HL := Lib.hid (Se.lim_iff.2 ⟨h1,h2⟩)
   go_enter Tryz.func112,Tryz.ntmps112
   go_wp2
   go_ret
   exact ⟨ret_bool HL.out.symm,rfl⟩
  ·
   have HL := Lib.hid ((Se.lim_no (n := n)).2 (.inr (by omega)))
   go_enter Tryz.func112,Tryz.ntmps112
   go_wp2
   go_ret
   exact ⟨ret_bool HL.out.symm,rfl⟩
 ·
  have HL := Lib.hid ((Se.lim_no (n := n)).2 (.inl (by omega)))
  go_enter Tryz.func112,Tryz.ntmps112
  go_wp2
  go_ret
  exact ⟨ret_bool HL.out.symm,rfl⟩
set_option maxHeartbeats 2000000 in
theorem ser_sound (r : Sr.T) (w0 w : World) (hw : Below w0.heap.size w0 w) (hs : Sr.Short r) :
  Calls Tryz.prog 67 #[Sr.val r] w fun e w' => e = .returned (.bool (Se.sound r)) ∧ Below w0.heap.size w0 w' := by
 have HW := Lib.hid hw
 have HS := Lib.hid hs
 clear hw hs
 obtain ⟨W,hW,hbW,hC⟩ := Sr.boxed1 w r
 have HBW := Lib.hid (bchain HW.out hbW)
 have HC := Lib.hid hC
 clear hbW
 unfold Sr.C at hC
 obtain ⟨a0,a1,a2,a3⟩ := hC
 unfold Sr.val
 go_enter Tryz.func67,Tryz.ntmps67
 go_wp2_with fail
 refine (name_any r.name _ HS.out.1).mono ?_
 rintro e w1 ⟨rfl,b1⟩
 have hC := HC.out.below b1
 have HC1 := Lib.hid hC
 have HB1 := Lib.hid (bchain HBW.out b1)
 unfold Sr.C at hC
 clear a0 a1 a2 a3 b1 hW HC HBW
 obtain ⟨a0,a1,a2,a3⟩ := hC
 cases hn : Rn.name (txt r.name)
 ·
  have HE := Lib.hid (Se.sound_no (r := r) (.inl hn))
  clear hn
  go_wp2_with fail
  go_ret
  exact ⟨ret_bool HE.out.symm,HB1.out⟩
 ·
  have HN := Lib.hid hn
  clear hn
  go_wp2_with fail
  refine (ser_limits r.limit _).mono ?_
  rintro e w2 ⟨rfl,rfl⟩
  cases hl : Se.lim r.limit
  ·
   have HE := Lib.hid (Se.sound_no (r := r) (.inr (.inl hl)))
   clear hl
   go_wp2_with fail
   go_ret
   exact ⟨ret_bool HE.out.symm,HB1.out⟩
  ·
   have HL := Lib.hid hl
   obtain ⟨hl1,hl2⟩ := Se.lim_iff.1 hl
   clear hl
   by_cases h1 : 1 ≤ r.next
   ·
    by_cases h2 : r.next ≤ r.limit + 1
    ·
     have HE := Lib.hid (Se.sound_iff.2 ⟨HN.out,HL.out,h1,h2⟩)
     go_wp2_with fail
     go_ret
     exact ⟨ret_bool HE.out.symm,HB1.out⟩
    ·
     have HE := Lib.hid (Se.sound_no (r := r) (.inr (.inr (.inr (by omega)))))
     go_wp2_with fail
     go_ret
     exact ⟨ret_bool (by rw [HE.out]; exact decide_eq_false (Int.not_le.2 h2)),HB1.out⟩
   ·
    have HE := Lib.hid (Se.sound_no (r := r) (.inr (.inr (.inl (by omega)))))
    go_wp2_with fail
    go_ret
    exact ⟨ret_bool HE.out.symm,HB1.out⟩
theorem sound_agg (r : Sr.T) (hs : Sr.Short r) (u : World) (i : Nat) (os : Array Obj) : AnsSe 67 #[.agg #[.string r.name,.int .i64 r.next,.int .i64 r.limit,.bool r.shut]] u i os (.bool (Se.sound r)) :=
 Calls.regrown_of (ser_sound r _ _ (Below.refl _ _) hs)
set_option maxHeartbeats 2000000 in
theorem ser_index (ls : List Sr.T) (s : ByteArray) (ao : Option Addr) (n cap : Nat) (w0 w : World) (hw : Below w0.heap.size w0 w) (hL : Sr.Ls w ao n cap ls) :
  Calls Tryz.prog 136 #[.slice ao n cap,.string s] w fun e w' => e = .returned (.int .i64 (Se.ix s ls : Nat)) ∧ Below w0.heap.size w0 w' := by
 have HW := Lib.hid hw
 have HL := Lib.hid hL
 have HN := Lib.hid hL.len
 have hcap := hL.reach
 have hfit := hL.fits
 clear hL hw
 go_enter Tryz.func136,Tryz.ntmps136
 go_wp2_with fail
 go_loopw [5,6,9] (fun _ _ i wr => ∃ k : Nat,k ≤ n ∧ i = .int .i64 k ∧ Hid (∀ r ∈ ls.take k,r.name ≠ s) ∧ Hid (Below w.heap.size w wr)) (fun _ _ i _ => n - (intOf i).toNat)
 case atStart => exact ⟨0,by omega,rfl,Lib.hid (fun _ h => by cases h),Lib.hid (Below.refl _ _)⟩
 case round =>
  obtain ⟨k,hk,rfl,HT,HB⟩ := hrel
  by_cases hlt : k < n
  ·
   obtain ⟨b,off,rfl⟩ := HL.out.at (by omega)
   have hkl : k < ls.length := HN.out ▸ hlt
   obtain ⟨r,hr⟩ : ∃ r,ls[k] = r := ⟨_,rfl⟩
   have hrow := (HL.out.row k hkl).below HB.out
   rw [hr] at hrow
   obtain ⟨g0,g1,g2,g3⟩ := hrow
   obtain ⟨W,hW,hbW,hA⟩ := Sr.boxed1 wr r
   have HBW := Lib.hid (bchain HB.out hbW)
   clear hbW
   unfold Sr.C at hA
   obtain ⟨a0,a1,a2,a3⟩ := hA
   have HS := Lib.hid (List.take_succ_eq_append_getElem hkl)
   by_cases he : r.name = s
   ·
    have HF := Lib.hid (Se.ix_at hkl HT.out (hr ▸ he))
    have qe : (r.name.toList == s.toList) = true := beq_iff_eq.2 (by rw [he])
    clear he hr
    go_wp2_with fail
    go_ret
    exact ⟨by rw [HF.out]; rfl,bchain HW.out HBW.out⟩
   ·
    have HE := Lib.hid he
    have qe : (r.name.toList == s.toList) = false := beq_eq_false_iff_ne.2 fun e => he (Vt.cat_ext e)
    have HR := Lib.hid hr
    clear hr he
    go_wp2_with fail
    go_roundw
    case rel =>
     refine ⟨k + 1,by omega,by go_num,Lib.hid ?_,HBW⟩
     rw [HS.out]
     intro x hx
     rcases List.mem_append.1 hx with h | h
     · exact HT.out x h
     ·
      obtain rfl := List.mem_singleton.1 h
      rw [HR.out]
      exact HE.out
    case measure => simp [intOf]; omega
  ·
   obtain rfl : k = n := by omega
   have HF : Hid (Se.ix s ls = k) := Lib.hid (by
    have := Se.ix_none (s := s) (l := ls) (fun r hr => HT.out r (by rw [List.take_of_length_le (by rw [← HN.out]; exact Nat.le_refl _)]; exact hr))
    rw [this,HN.out])
   go_wp2_with fail
   go_ret
   exact ⟨by rw [HF.out]; rfl,bchain HW.out HB.out⟩
end Go.Proofs.YtjpfpojbalepeaaGreat
namespace Go.Proofs.YtjpfpojbalepeaaGreat
open Go.RowKit
open Mem
open Go.Sort (grow)
set_option maxHeartbeats 2000000 in
theorem ser_right (rs : List Sr.T) (ao : Option Addr) (n cap : Nat) (w0 w : World) (hw : Below w0.heap.size w0 w) (hR : Sr.Ls w ao n cap rs) :
  Calls Tryz.prog 29 #[.slice ao n cap] w fun e w' => e = .returned (.bool (Se.rightB rs)) ∧ Below w0.heap.size w0 w' := by
 have HW := Lib.hid hw
 have HR := Lib.hid hR
 have HN := Lib.hid hR.len
 have hcap := hR.reach
 have hfit := hR.fits
 clear hw hR
 by_cases h8 : 8 < n
 ·
  have HT := Lib.hid (Se.right_long (l := rs) (HN.out ▸ h8))
  go_enter Tryz.func29,Tryz.ntmps29
  go_wp2
  go_ret
  exact ⟨ret_bool HT.out.symm,HW.out⟩
 ·
  have HT := Lib.hid (Se.right_short (l := rs) (by have := HN.out; omega))
  go_enter Tryz.func29,Tryz.ntmps29
  go_wp2
  go_loopw [3,4,10] (fun _ _ i wr => ∃ k : Nat,k ≤ n ∧ i = .int .i64 k ∧ Hid (Se.okAll (Se.prevAt rs k) (rs.drop k) = Se.okAll none rs) ∧ Hid (Below w.heap.size w wr)) (fun _ _ i _ => n - (intOf i).toNat)
  case atStart => exact ⟨0,by omega,rfl,Lib.hid rfl,Lib.hid (Below.refl _ _)⟩
  case round =>
   obtain ⟨k,hk,rfl,HK,HB⟩ := hrel
   by_cases hlt : k < n
   ·
    obtain ⟨b,off,rfl⟩ := HR.out.at (by omega)
    have hkr : k < rs.length := HN.out ▸ hlt
    obtain ⟨r,hr⟩ : ∃ r,rs[k] = r := ⟨_,rfl⟩
    have hrow := (HR.out.row k hkr).below HB.out
    have HSt := Lib.hid (Se.okAll_at rs k hkr)
    rw [hr] at hrow HSt
    have hsh : Sr.Short r := HR.out.short r (hr ▸ List.getElem_mem hkr)
    obtain ⟨g0,g1,g2,g3⟩ := hrow
    obtain ⟨W,hW,hbW,hA⟩ := Sr.boxed1 wr r
    have HBW := Lib.hid (bchain HB.out hbW)
    clear hbW
    unfold Sr.C at hA
    obtain ⟨a0,a1,a2,a3⟩ := hA
    have k0 := cell_regrown a0
    have k1 := cell_regrown a1
    have k2 := cell_regrown a2
    have k3 := cell_regrown a3
    have c1 := sound_agg r hsh
    clear hsh hr
    cases he : Se.sound r
    ·
     rw [he] at c1
     have HO : Hid (Se.ok (Se.prevAt rs k) r = false) := by
      show _ = _
      unfold Se.ok
      rw [he]
      rfl
     clear he
     go_wp2
     refine wp_region_quiet_below (by kernel_rfl) (by kernel_rfl) ?_
     repeat (first | go_big_quiet_step (first | (go_at_call 67; exact c1 _ _ _)) | quiet_step (first | (go_at_call 67; exact c1 _ _ _)))
     refine wpQuiet_nil ?_
     intro _ hw'
     obtain ⟨⟨dq,osq⟩,hw''⟩ := hw'
     subst hw''
     have HBv := Lib.hid (bchain HBW.out (below_regrown W dq osq))
     go_wp2
     go_ret
     exact ⟨ret_bool (by rw [HT.out,← HK.out,HSt.out,HO.out,Bool.false_and]),bchain HW.out HBv.out⟩
    ·
     rw [he] at c1
     by_cases hk0 : k = 0
     ·
      subst hk0
      simp only [Nat.zero_mul,Nat.add_zero] at g0 g1 g2 g3
      have HO : Hid (Se.ok (Se.prevAt rs 0) r = true) := by
       show _ = _
       unfold Se.ok Se.prevAt
       rw [he]
       rfl
      clear he
      go_wp2
      refine wp_region_quiet_below (by kernel_rfl) (by kernel_rfl) ?_
      repeat (first | go_big_quiet_step (first | (go_at_call 67; exact c1 _ _ _)) | quiet_step (first | (go_at_call 67; exact c1 _ _ _)))
      refine wpQuiet_nil ?_
      intro _ hw'
      obtain ⟨⟨dq,osq⟩,hw''⟩ := hw'
      subst hw''
      have HBv := Lib.hid (bchain HBW.out (below_regrown W dq osq))
      go_wp2
      go_roundw
      case rel => exact ⟨1,by omega,rfl,Lib.hid (by rw [← HK.out,HSt.out,HO.out,Bool.true_and]),HBv⟩
      case measure => simp [intOf]; omega
     ·
      obtain ⟨j,rfl⟩ : ∃ j,k = j + 1 := ⟨k - 1,by omega⟩
      have hjr : j < rs.length := by omega
      obtain ⟨q,hq⟩ : ∃ q,rs[j] = q := ⟨_,rfl⟩
      have hrow2 := (HR.out.row j hjr).below HBW.out
      rw [hq] at hrow2
      obtain ⟨f0,f1,f2,f3⟩ := hrow2
      have m0 := cell_regrown f0
      have m1 := cell_regrown f1
      have m2 := cell_regrown f2
      have m3 := cell_regrown f3
      have HO : Hid (Se.ok (Se.prevAt rs (j + 1)) r = Op.bytesLess q.name.toList r.name.toList) := by
       show _ = _
       unfold Se.ok
       rw [he,Se.prev_at hjr hq]
       rfl
      have hjs : ((j + 1 : Nat) : Int) - 1 = (j : Int) := by omega
      clear he hq hk0
      cases hlt2 : Op.bytesLess q.name.toList r.name.toList
      ·
       rw [hlt2] at HO
       go_wp2
       refine wp_region_quiet_below (by kernel_rfl) (by kernel_rfl) ?_
       repeat (first | go_big_quiet_step (first | (go_at_call 67; exact c1 _ _ _)) | quiet_step (first | (go_at_call 67; exact c1 _ _ _)))
       refine wpQuiet_nil ?_
       intro _ hw'
       obtain ⟨⟨dq,osq⟩,hw''⟩ := hw'
       subst hw''
       have HBv := Lib.hid (bchain HBW.out (below_regrown W dq osq))
       go_wp2
       go_ret
       exact ⟨ret_bool (by rw [HT.out,← HK.out,HSt.out,HO.out,Bool.false_and]),bchain HW.out HBv.out⟩
      ·
       rw [hlt2] at HO
       go_wp2
       refine wp_region_quiet_below (by kernel_rfl) (by kernel_rfl) ?_
       repeat (first | go_big_quiet_step (first | (go_at_call 67; exact c1 _ _ _)) | quiet_step (first | (go_at_call 67; exact c1 _ _ _)))
       refine wpQuiet_nil ?_
       intro _ hw'
       obtain ⟨⟨dq,osq⟩,hw''⟩ := hw'
       subst hw''
       have HBv := Lib.hid (bchain HBW.out (below_regrown W dq osq))
       go_wp2
       go_roundw
       case rel => exact ⟨j + 1 + 1,by omega,by go_num,Lib.hid (by rw [← HK.out,HSt.out,HO.out,Bool.true_and]),HBv⟩
       case measure => simp [intOf]; omega
   ·
    obtain rfl : k = n := by omega
    go_wp2
    go_ret
    exact ⟨ret_bool (by rw [HT.out,← HK.out,List.drop_eq_nil_of_le (Nat.le_of_eq HN.out.symm)]; rfl),bchain HW.out HB.out⟩
end Go.Proofs.YtjpfpojbalepeaaGreat
namespace Go.Proofs.YtjpfpojbalepeaaGreat.Sr
open Go.RowKit
open Mem
def Block (w : World) (g : Nat) (ts : List T) : Prop := w.heap[g]? = some (.cells (ts.flatMap rv).toArray 90 (0,0))
theorem Block.row {w : World} {g : Nat} {ts : List T} (h : Block w g ts) (k : Nat) (hk : k < ts.length) : At w g (k * 4) ts[k] := by
 have hcell : ∀ p,p < 4 → w.cell? ⟨g,k * 4 + p,none⟩ = (rv ts[k])[p]? := by
  intro p hp
  rw [cell_of_row w g _ _ _ _ h,← flat_at ts k p hk hp]
  simp
 exact ⟨hcell 0 (by omega),hcell 1 (by omega),hcell 2 (by omega),hcell 3 (by omega)⟩
theorem Block.ls {w : World} {g : Nat} {ts zs : List T} (h : Block w g (ts ++ zs)) (n cap : Nat) (hn : n = ts.length) (hc : n ≤ cap) (hm : cap ≤ 9223372036854775807) (hs : ∀ r ∈ ts,Short r) : Ls w (some ⟨g,0,none⟩) n cap ts := by
 refine ⟨hn,hc,hm,(fun k => by cases k),.inr ⟨g,0,rfl,fun k hk => ?_⟩,hs⟩
 have hr := h.row k (by rw [List.length_append]; omega)
 rw [List.getElem_append_left hk] at hr
 rw [Nat.zero_add]
 exact hr
def zeros (n : Nat) : Array Value := ((List.replicate n zero).flatMap rv).toArray
theorem sizeZ : (Tryz.prog.info? 90).map (·.size) = some 4 := by kernel_rfl
theorem made (n : Nat) : madeCells zeroV.cells (n * 4) = zeros n := by
 apply Array.ext_getElem?
 intro j
 by_cases hj : j < n * 4
 ·
  obtain ⟨k,p,rfl,hp⟩ : ∃ k p,j = k * 4 + p ∧ p < 4 := ⟨j / 4,j % 4,by omega,by omega⟩
  have hk : k < n := by omega
  have hz : (zeros n)[k * 4 + p]? = (rv zero)[p]? := by
   unfold zeros
   rw [List.getElem?_toArray,flat_at (List.replicate n zero) k p (by simpa using hk) hp,List.getElem_replicate]
  rw [hz]
  have e : (k * 4 + p) % 4 = p := by omega
  have hp' : p = 0 ∨ p = 1 ∨ p = 2 ∨ p = 3 := by omega
  unfold madeCells
  rw [Array.getElem?_map,Array.getElem?_range,if_pos hj]
  simp only [Option.map_some]
  rw [show zeroV.cells.size = 4 from rfl,e]
  rcases hp' with rfl | rfl | rfl | rfl <;> rfl
 ·
  rw [Array.getElem?_eq_none (by rw [size_madeCells]; omega),Array.getElem?_eq_none]
  unfold zeros
  rw [List.size_toArray,flat_len,List.length_replicate]
  omega
theorem make (n : Nat) (hn : n ≤ 100000) (u : World) : (Instr.makeSlice 37 (.int .i64 (n : Int)) (.int .i64 (n : Int))).run Tryz.prog u =
  .ok (.slice (some ⟨u.heap.size,0,none⟩) n n) (u.alloc (.cells (zeros n) 90)) := by
 obtain ⟨i0,hi,hz0,hz1,hz2⟩ := info_parts info
 have h := run_make (P := Tryz.prog) u 37 90 i0 zeroV Tryz.underlying37 hi hz0 .i64 .i64 (n : Int) (n : Int) (by omega) (Int.le_refl _) (by rw [hz2]; omega) (by omega)
 rw [hz1,Int.toNat_natCast,made] at h
 exact h
theorem block_made (u : World) (n : Nat) : Block (u.alloc (.cells (zeros n) 90)) u.heap.size (List.replicate n zero) := heap_alloc_new u _
theorem copy (u : World) (g : Nat) (ts : List T) (dCap : Nat) (ao : Option Addr) (n cap : Nat) (rs : List T) (hb : Block u g (List.replicate n zero ++ ts)) (hn : n = rs.length) (hs : Seg u ao rs) :
  ∃ u',(Builtin.copy_ #[37,37] 3 #[.slice (some ⟨g,0,none⟩) (n + ts.length) dCap,.slice ao n cap]).run Tryz.prog u = .ok (goInt n) u' ∧ Block u' g (rs ++ ts) ∧ (∀ B w0,Below B w0 u → B ≤ g → Below B w0 u') ∧ u'.heap.size = u.heap.size := by
 obtain ⟨i0,hi,hiK⟩ := Option.map_eq_some_iff.1 sizeZ
 have hmin : Nat.min n (n + ts.length) = n := Nat.min_eq_left (by omega)
 rcases hs with e | ⟨b,off,rfl,hc⟩
 ·
  subst e
  obtain rfl : n = 0 := hn
  refine ⟨u,?_,by simpa using hb,fun _ _ h _ => h,rfl⟩
  have hl : ∀ (x : Addr),(loadCells x 0).run Tryz.prog u = .ok #[] u := fun x => by simpa using run_loadCells_list (P := Tryz.prog) u x [] (by simp)
  cases ao <;> simp [Builtin.copy_,run_underlying Tryz.underlying37,Builtin.lenOf,Builtin.firstCells,sizeOf,typeInfo,hi,storeCells,hl]
 ·
  have hl := run_loadCells_list (P := Tryz.prog) u ⟨b,off,none⟩ (rs.flatMap rv) (fun j v hv => news_of hc j v hv)
  have hst := run_storeCells_at Tryz.prog g 0 90 (rs.flatMap rv) 0 _ u hb (by rw [List.size_toArray,flat_len,flat_len,List.length_append,List.length_replicate]; omega) (one_cell rs)
  have hlen : (rs.flatMap rv).length = n * 4 := by rw [flat_len,hn]
  have e : (((List.replicate n zero ++ ts).flatMap rv).toArray.toList.take (0 + 0) ++ rs.flatMap rv ++ ((List.replicate n zero ++ ts).flatMap rv).toArray.toList.drop (0 + 0 + (rs.flatMap rv).length)) = (rs ++ ts).flatMap rv := by
   rw [List.toList_toArray,List.take_zero,List.nil_append,Nat.zero_add,hlen,List.flatMap_append,List.flatMap_append,List.drop_left' (by rw [flat_len,List.length_replicate])]
  rw [e] at hst
  refine ⟨u.setRow g ((rs ++ ts).flatMap rv).toArray,?_,setRow_heap u g _ _ 90 _ hb,fun B w0 h hB => below_setRow h hB _,by simp [World.setRow]⟩
  rw [hlen] at hl
  simp [Builtin.copy_,run_underlying Tryz.underlying37,Builtin.lenOf,Builtin.firstCells,sizeOf,typeInfo,hi,hiK,hmin,hl,hst]
theorem own_at {w : World} {B g n cap : Nat} {M : List T} (h : Own w B (.slice (some ⟨g,0,none⟩) n cap) M) (k : Nat) (hk : k < M.length) : At w g (k * 4) M[k] ∧ (∀ o,w.frozen? ⟨g,o,none⟩ = false) ∧ B ≤ g := by
 rcases h.2 with ⟨h',_⟩ | ⟨g',cap',cur,h',hb,hg,hnc,hcm,hcs,htake⟩
 · cases h'
 ·
  simp only [Value.slice.injEq,Option.some.injEq,Addr.mk.injEq,and_true] at h'
  obtain ⟨e1,e2,e3⟩ := h'
  subst e1 e3
  have hcell : ∀ p,p < 4 → w.cell? ⟨g,k * 4 + p,none⟩ = (rv M[k])[p]? := by
   intro p hp
   rw [cell_of_row w g _ _ _ _ hg,← flat_at M k p hk hp,← htake,List.getElem?_take_of_lt (by omega)]
   simp
  exact ⟨⟨hcell 0 (by omega),hcell 1 (by omega),hcell 2 (by omega),hcell 3 (by omega)⟩,fun o => frozen_of_row w g o _ _ hg,hb⟩
end Go.Proofs.YtjpfpojbalepeaaGreat.Sr
namespace Go.Proofs.YtjpfpojbalepeaaGreat
open Go.RowKit
open Mem
open Go.Sort (grow)
theorem Sr.make_cap (n : Nat) (hn : n ≤ 1000) (u : World) : (Instr.makeSlice 37 (.int .i64 0) (.int .i64 ((n : Int) + 1))).run Tryz.prog u =
  .ok (.slice (some ⟨u.heap.size,0,none⟩) 0 (n + 1)) (u.alloc (.cells (Sr.zeros (n + 1)) 90)) := by
 obtain ⟨i0,hi,hz0,hz1,hz2⟩ := info_parts Sr.info
 have h := run_make (P := Tryz.prog) u 37 90 i0 Sr.zeroV Tryz.underlying37 hi hz0 .i64 .i64 0 ((n : Int) + 1) (by omega) (by omega) (by rw [hz2]; omega) (by omega)
 rw [hz1,show ((n : Int) + 1).toNat = n + 1 from by omega,Sr.made] at h
 exact h
theorem Sr.own_cap (u : World) (B c : Nat) (hB : B ≤ u.heap.size) (hc : c ≤ 1000) : Sr.Own (u.alloc (.cells (Sr.zeros c) 90)) B (.slice (some ⟨u.heap.size,0,none⟩) 0 c) [] :=
 ⟨rfl,.inr ⟨u.heap.size,c,Sr.zeros c,rfl,hB,heap_alloc_new u _,Nat.zero_le _,by have : maxLen = 9223372036854775807 := rfl; omega,by unfold Sr.zeros; rw [List.size_toArray,Sr.flat_len,List.length_replicate],rfl⟩⟩
set_option maxHeartbeats 4000000 in
theorem ser_with (rs : List Sr.T) (ao : Option Addr) (n cap : Nat) (r : Sr.T) (w : World) (hR : Sr.Ls w ao n cap rs) (hn : n < 8) :
  Calls Tryz.prog 137 #[.slice ao n cap,Sr.val r] w fun e w' => ∃ v,e = .returned v ∧ Sr.Own w' w.heap.size v (Se.openL rs r) ∧ Below w.heap.size w w' := by
 have HR := Lib.hid hR
 have HN := Lib.hid hR.len
 have hcap := hR.reach
 have hfit := hR.fits
 clear hR
 unfold Sr.val
 go_enter Tryz.func137,Tryz.ntmps137
 go_wp2
 go_loopw [5] (fun i wr => ∃ k : Nat,k ≤ n ∧ i = .int .i64 k ∧ Hid (k + Se.spot r.name (rs.drop k) = Se.spot r.name rs) ∧ Hid (Below w.heap.size w wr) ∧ Hid (Sr.C wr w.heap.size r)) (fun i _ => n - (intOf i).toNat)
 case atStart => exact ⟨0,by omega,rfl,Lib.hid (Nat.zero_add _),Lib.hid (Sr.below_own w r),Lib.hid (Sr.c_box w r)⟩
 case round =>
  rename World => wz
  obtain ⟨k,hk,rfl,HK,HB,HCz⟩ := hrel
  have hC := HCz.out
  unfold Sr.C at hC
  obtain ⟨a0,a1,a2,a3⟩ := hC
  have l0 := cell_regrown a0
  have l1 := cell_regrown a1
  have l2 := cell_regrown a2
  have l3 := cell_regrown a3
  by_cases hlt : k < n
  ·
   obtain ⟨b,off,rfl⟩ := HR.out.at (by omega)
   have hkr : k < rs.length := HN.out ▸ hlt
   obtain ⟨q,hq⟩ : ∃ q,rs[k] = q := ⟨_,rfl⟩
   have hrow := (HR.out.row k hkr).below HB.out
   have HSt := Lib.hid (Se.spot_at r.name rs k hkr)
   rw [hq] at hrow HSt
   obtain ⟨g0,g1,g2,g3⟩ := hrow
   have k0 := cell_regrown g0
   have k1 := cell_regrown g1
   have k2 := cell_regrown g2
   have k3 := cell_regrown g3
   clear hq
   unfold Se.lt at HSt
   cases hqr : Op.bytesLess q.name.toList r.name.toList
   ·
    rw [hqr,if_neg (by simp)] at HSt
    have HSp : Hid (Se.spot r.name rs = k) := Lib.hid (by rw [← HK.out,HSt.out]; rfl)
    go_wp2
    refine wp_region_quiet_below (by kernel_rfl) (by kernel_rfl) ?_
    repeat (first | go_big_quiet_step (fail) | quiet_step (fail))
    refine wpQuiet_nil ?_
    intro _ hw'
    obtain ⟨⟨dq,osq⟩,hw''⟩ := hw'
    subst hw''
    have HBx := Lib.hid (bchain HB.out (below_regrown wz dq osq))
    have HCx := Lib.hid (HCz.out.below (below_regrown wz dq osq))
    clear l0 l1 l2 l3 a0 a1 a2 a3 k0 k1 k2 k3 g0 g1 g2 g3 hqr
    generalize grow (redrawn wz dq) osq = x at *
    have HP : Hid (Se.openL rs r = rs.take k ++ r :: rs.drop k) := Lib.hid (by unfold Se.openL; rw [HSp.out])
    have HRx := Lib.hid (HR.out.below HBx.out)
    obtain ⟨hs1,hR1⟩ := HRx.out.to k (by omega)
    obtain ⟨ao2,cap2,hs2,hR2⟩ := HRx.out.from k (by omega)
    obtain ⟨j,hj⟩ : ∃ j,n - k = j := ⟨_,rfl⟩
    rw [hj] at hs2 hR2
    have HR1 := Lib.hid hR1
    have HR2 := Lib.hid hR2
    have hjb : j ≤ 8 := by omega
    have hkb : k ≤ 8 := by omega
    have hmk := Sr.make_cap n (by omega)
    clear hR1 hR2 hj
    have hB1 : Below x.heap.size x (x.alloc (.cells (Sr.zeros (n + 1)) 90)) := (Below.refl _ _).alloc (Nat.le_refl _) _
    have HB1 := Lib.hid hB1
    clear hB1
    go_wp2_with (at_builtin; go_must (refine Sr.wpList_append _ rfl (.tmp 27) (.tmp 30) rfl x.heap.size (.slice (some ⟨x.heap.size,0,none⟩) 0 (n + 1)) [] rfl (Sr.own_cap x x.heap.size (n + 1) (Nat.le_refl _) (by omega)) (some ⟨b,off,none⟩) k cap (rs.take k) rfl HR1.out.len HR1.out.nil (HR1.out.below HB1.out).seg (by simp only [List.length_nil]; omega) (by simp) ?_))
    intro v1 y1 o1 gr1 _
    have hb1 := HB1.out.grown gr1 HB1.out.size (Sr.own_ge (Sr.own_cap x x.heap.size (n + 1) (Nat.le_refl _) (by omega)))
    have HO1 : Hid (∀ o,Sr.Own (y1.alloc o) x.heap.size v1 ([] ++ rs.take k)) := fun o => Sr.own_alloc o1 o
    have HY1 := Lib.hid hb1
    have hC := HCx.out.below hb1
    unfold Sr.C at hC
    obtain ⟨a0,a1,a2,a3⟩ := hC
    have hsz1 : x.heap.size ≤ y1.heap.size := hb1.size
    clear o1 gr1 hb1
    go_wp2_with (at_builtin; go_must (refine Sr.wpList_append _ rfl (.tmp 32) (.tmp 34) rfl x.heap.size v1 ([] ++ rs.take k) rfl (HO1.out _) (some ⟨y1.heap.size,0,none⟩) 1 1 [r] rfl rfl (fun h => by cases h) (Sr.seg_block (heap_alloc_new y1 _)) (by rw [List.nil_append,← HR1.out.len]; omega) (by simp; omega) ?_))
    intro v2 y2 o2 gr2 _
    have hb2 := (HY1.out.alloc HY1.out.size (Sr.block r)).grown gr2 (HY1.out.alloc HY1.out.size (Sr.block r)).size (Sr.own_ge (HO1.out (Sr.block r)))
    have HO2 := Lib.hid o2
    have HY2 := Lib.hid hb2
    clear o2 gr2 hb2 a0 a1 a2 a3
    go_wp2_with (at_builtin; go_must (refine Sr.wpList_append _ rfl (.tmp 36) (.tmp 39) rfl x.heap.size v2 ([] ++ rs.take k ++ [r]) rfl HO2.out ao2 j cap2 (rs.drop k) rfl HR2.out.len HR2.out.nil (HR2.out.below HY2.out).seg (by rw [List.nil_append,List.length_append,← HR1.out.len,List.length_singleton]; omega) HY2.out.size ?_))
    intro v3 y3 o3 gr3 _
    have hb3 := HY2.out.grown gr3 HY2.out.size (Sr.own_ge HO2.out)
    have HO3 := Lib.hid o3
    have HY3 := Lib.hid hb3
    clear o3 gr3 hb3
    go_wp2
    go_ret
    exact ⟨v3,rfl,by rw [HP.out]; exact Sr.own_mono HO3.out HBx.out.size,bchain HBx.out HY3.out⟩
   ·
    rw [hqr,if_pos rfl] at HSt
    go_wp2
    refine wp_region_quiet_below (by kernel_rfl) (by kernel_rfl) ?_
    repeat (first | go_big_quiet_step (fail) | quiet_step (fail))
    refine wpQuiet_nil ?_
    intro _ hw'
    obtain ⟨⟨dq,osq⟩,hw''⟩ := hw'
    subst hw''
    have HBv := Lib.hid (bchain HB.out (below_regrown wz dq osq))
    go_wp2
    go_roundw
    case rel => exact ⟨k + 1,by omega,by go_num,Lib.hid (by rw [← HK.out,HSt.out]; omega),HBv,Lib.hid (HCz.out.below (below_regrown wz dq osq))⟩
    case measure => simp [intOf]; omega
  ·
   obtain rfl : k = n := by omega
   have HSp : Hid (Se.spot r.name rs = k) := Lib.hid (by rw [← HK.out,List.drop_eq_nil_of_le (Nat.le_of_eq HN.out.symm)]; rfl)
   go_wp2
   refine wp_region_quiet_below (by kernel_rfl) (by kernel_rfl) ?_
   repeat (first | go_big_quiet_step (fail) | quiet_step (fail))
   refine wpQuiet_nil ?_
   intro _ hw'
   obtain ⟨⟨dq,osq⟩,hw''⟩ := hw'
   subst hw''
   have HBx := Lib.hid (bchain HB.out (below_regrown wz dq osq))
   have HCx := Lib.hid (HCz.out.below (below_regrown wz dq osq))
   clear l0 l1 l2 l3 a0 a1 a2 a3
   generalize grow (redrawn wz dq) osq = x at *
   have HP : Hid (Se.openL rs r = rs.take k ++ r :: rs.drop k) := Lib.hid (by unfold Se.openL; rw [HSp.out])
   have HRx := Lib.hid (HR.out.below HBx.out)
   obtain ⟨hs1,hR1⟩ := HRx.out.to k (by omega)
   obtain ⟨ao2,cap2,hs2,hR2⟩ := HRx.out.from k (by omega)
   obtain ⟨j,hj⟩ : ∃ j,k - k = j := ⟨_,rfl⟩
   rw [hj] at hs2 hR2
   have HR1 := Lib.hid hR1
   have HR2 := Lib.hid hR2
   have hjb : j ≤ 8 := by omega
   have hkb : k ≤ 8 := by omega
   have hmk := Sr.make_cap k (by omega)
   clear hR1 hR2 hj
   have hB1 : Below x.heap.size x (x.alloc (.cells (Sr.zeros (k + 1)) 90)) := (Below.refl _ _).alloc (Nat.le_refl _) _
   have HB1 := Lib.hid hB1
   clear hB1
   go_wp2_with (at_builtin; go_must (refine Sr.wpList_append _ rfl (.tmp 27) (.tmp 30) rfl x.heap.size (.slice (some ⟨x.heap.size,0,none⟩) 0 (k + 1)) [] rfl (Sr.own_cap x x.heap.size (k + 1) (Nat.le_refl _) (by omega)) ao k cap (rs.take k) rfl HR1.out.len HR1.out.nil (HR1.out.below HB1.out).seg (by simp only [List.length_nil]; omega) (by simp) ?_))
   intro v1 y1 o1 gr1 _
   have hb1 := HB1.out.grown gr1 HB1.out.size (Sr.own_ge (Sr.own_cap x x.heap.size (k + 1) (Nat.le_refl _) (by omega)))
   have HO1 : Hid (∀ o,Sr.Own (y1.alloc o) x.heap.size v1 ([] ++ rs.take k)) := fun o => Sr.own_alloc o1 o
   have HY1 := Lib.hid hb1
   have hC := HCx.out.below hb1
   unfold Sr.C at hC
   obtain ⟨a0,a1,a2,a3⟩ := hC
   have hsz1 : x.heap.size ≤ y1.heap.size := hb1.size
   clear o1 gr1 hb1
   go_wp2_with (at_builtin; go_must (refine Sr.wpList_append _ rfl (.tmp 32) (.tmp 34) rfl x.heap.size v1 ([] ++ rs.take k) rfl (HO1.out _) (some ⟨y1.heap.size,0,none⟩) 1 1 [r] rfl rfl (fun h => by cases h) (Sr.seg_block (heap_alloc_new y1 _)) (by rw [List.nil_append,← HR1.out.len]; omega) (by simp; omega) ?_))
   intro v2 y2 o2 gr2 _
   have hb2 := (HY1.out.alloc HY1.out.size (Sr.block r)).grown gr2 (HY1.out.alloc HY1.out.size (Sr.block r)).size (Sr.own_ge (HO1.out (Sr.block r)))
   have HO2 := Lib.hid o2
   have HY2 := Lib.hid hb2
   clear o2 gr2 hb2 a0 a1 a2 a3
   go_wp2_with (at_builtin; go_must (refine Sr.wpList_append _ rfl (.tmp 36) (.tmp 39) rfl x.heap.size v2 ([] ++ rs.take k ++ [r]) rfl HO2.out ao2 j cap2 (rs.drop k) rfl HR2.out.len HR2.out.nil (HR2.out.below HY2.out).seg (by rw [List.nil_append,List.length_append,← HR1.out.len,List.length_singleton]; omega) HY2.out.size ?_))
   intro v3 y3 o3 gr3 _
   have hb3 := HY2.out.grown gr3 HY2.out.size (Sr.own_ge HO2.out)
   have HO3 := Lib.hid o3
   have HY3 := Lib.hid hb3
   clear o3 gr3 hb3
   go_wp2
   go_ret
   exact ⟨v3,rfl,by rw [HP.out]; exact Sr.own_mono HO3.out HBx.out.size,bchain HBx.out HY3.out⟩
end Go.Proofs.YtjpfpojbalepeaaGreat
namespace Go.Proofs.YtjpfpojbalepeaaGreat
open Go.RowKit
open Mem
open Go.Sort (grow)
def OpenE (w : World) (rs : List Sr.T) (s : ByteArray) (m : Int) (e : Ending) (w' : World) : Prop := ∃ v,e = .returned (.tuple #[v,.int .i64 (Se.openE rs s m)]) ∧ Sr.Own w' w.heap.size v (Se.openR rs s m) ∧ Below w.heap.size w w'
def ShutE (w : World) (rs : List Sr.T) (s : ByteArray) (e : Ending) (w' : World) : Prop := ∃ v,e = .returned (.tuple #[v,.int .i64 (Se.unE rs s)]) ∧ Sr.Own w' w.heap.size v (Se.shutR rs s) ∧ Below w.heap.size w w'
def TakeE (w : World) (rs : List Sr.T) (s : ByteArray) (e : Ending) (w' : World) : Prop := ∃ v,e = .returned (.tuple #[v,.int .i64 (Se.takeN rs s),.int .i64 (Se.takeE rs s)]) ∧ Sr.Own w' w.heap.size v (Se.takeR rs s) ∧ Below w.heap.size w w'
set_option maxHeartbeats 2000000 in
theorem ser_open (rs : List Sr.T) (s : ByteArray) (m : Int) (ao : Option Addr) (n cap : Nat) (w : World) (hR : Sr.Ls w ao n cap rs) (hs : s.size ≤ 140737488355328) :
  Calls Tryz.prog 101 #[.slice ao n cap,.string s,.int .i64 m] w (OpenE w rs s m) := by
 have HR := Lib.hid hR
 have HN := Lib.hid hR.len
 have HS := Lib.hid hs
 have hcap := hR.reach
 have hfit := hR.fits
 clear hR hs
 go_enter Tryz.func101,Tryz.ntmps101
 go_wp2_with fail
 refine (ser_right rs ao n cap _ _ (Below.refl _ _) HR.out).mono ?_
 rintro e w1 ⟨rfl,b1⟩
 have HB1 := Lib.hid b1
 clear b1
 cases hT : Se.rightB rs
 ·
  have HP := Lib.hid (Se.open_arg (s := s) (n := m) hT)
  clear hT
  go_wp2_with fail
  go_ret2
  exact ⟨_,by rw [HP.out.1]; rfl,by rw [HP.out.2]; exact Sr.own_nil _ _,HB1.out⟩
 ·
  have HT := Lib.hid hT
  clear hT
  go_wp2_with fail
  refine (name_gen s _ _ HB1.out HS.out).mono ?_
  rintro e w2 ⟨rfl,b2⟩
  have HB2 := Lib.hid b2
  clear b2
  cases hn : Rn.name (txt s)
  ·
   have HP := Lib.hid (Se.open_name (n := m) HT.out hn)
   clear hn
   go_wp2_with fail
   go_ret2
   exact ⟨_,by rw [HP.out.1]; rfl,by rw [HP.out.2]; exact Sr.own_nil _ _,HB2.out⟩
  ·
   have HNm := Lib.hid hn
   clear hn
   go_wp2_with fail
   refine (ser_limits m _).mono ?_
   rintro e w3 ⟨rfl,rfl⟩
   cases hl : Se.lim m
   ·
    have HP := Lib.hid (Se.open_lim HT.out HNm.out hl)
    clear hl
    go_wp2_with fail
    go_ret2
    exact ⟨_,by rw [HP.out.1]; rfl,by rw [HP.out.2]; exact Sr.own_nil _ _,HB2.out⟩
   ·
    have HLm := Lib.hid hl
    clear hl
    go_wp2_with fail
    refine (ser_index rs s ao n cap _ _ HB2.out (HR.out.below HB2.out)).mono ?_
    rintro e w4 ⟨rfl,b4⟩
    have HB4 := Lib.hid b4
    have HI : Hid (Se.ix s rs ≤ n) := Lib.hid (by have := Se.ix_le s rs; have := HN.out; omega)
    clear b4
    obtain ⟨i,hi⟩ : ∃ i,Se.ix s rs = i := ⟨_,rfl⟩
    have HIx := Lib.hid hi
    rw [hi] at HI
    rw [hi]
    clear hi
    have hin := HI.out
    by_cases hlt : i < n
    ·
     have HP := Lib.hid (Se.open_taken HT.out HNm.out HLm.out (by rw [HIx.out]; exact HN.out ▸ hlt))
     go_wp2_with fail
     go_ret2
     exact ⟨_,by rw [HP.out.1]; rfl,by rw [HP.out.2]; exact Sr.own_nil _ _,HB4.out⟩
    ·
     have HNo : Hid (¬ Se.ix s rs < rs.length) := Lib.hid (by rw [HIx.out]; exact HN.out ▸ hlt)
     by_cases h8 : n = 8
     ·
      have hq : ((n : Int) == 8) = true := beq_iff_eq.2 (by omega)
      have HP := Lib.hid (Se.open_full HT.out HNm.out HLm.out HNo.out (by have := HN.out; omega))
      clear h8
      go_wp2_with fail
      go_ret2
      exact ⟨_,by rw [HP.out.1]; rfl,by rw [HP.out.2]; exact Sr.own_nil _ _,HB4.out⟩
     ·
      have hq : ((n : Int) == 8) = false := beq_eq_false_iff_ne.2 (by omega)
      have HL8 : Hid (n < 8) := Lib.hid (by have h1 := ((Se.right_iff rs).1 HT.out).1; have := HN.out; omega)
      have HP := Lib.hid (Se.open_ok HT.out HNm.out HLm.out HNo.out (by have := HL8.out; have := HN.out; omega))
      clear h8
      go_wp2_with fail
      refine (ser_with rs ao n cap ⟨s,1,m,false⟩ _ (HR.out.below HB4.out) HL8.out).mono ?_
      rintro e w5 ⟨v,rfl,o5,b5⟩
      have HO := Lib.hid (Sr.own_mono o5 HB4.out.size)
      have HB5 := Lib.hid (bchain HB4.out b5)
      clear o5 b5
      go_wp2_with fail
      go_ret2
      exact ⟨v,by rw [HP.out.1]; rfl,by rw [HP.out.2]; exact HO.out,HB5.out⟩
def unI (rs : List Sr.T) (s : ByteArray) : Int := if Se.unE rs s = 0 then (Se.ix s rs : Nat) else 0
set_option maxHeartbeats 2000000 in
theorem ser_unshut (rs : List Sr.T) (s : ByteArray) (ao : Option Addr) (n cap : Nat) (w0 w : World) (hw : Below w0.heap.size w0 w) (hR : Sr.Ls w ao n cap rs) :
  Calls Tryz.prog 138 #[.slice ao n cap,.string s] w fun e w' => e = .returned (.tuple #[.int .i64 (unI rs s),.int .i64 (Se.unE rs s)]) ∧ Below w0.heap.size w0 w' := by
 have HW := Lib.hid hw
 have HR := Lib.hid hR
 have HN := Lib.hid hR.len
 have hcap := hR.reach
 have hfit := hR.fits
 clear hR hw
 go_enter Tryz.func138,Tryz.ntmps138
 go_wp2_with fail
 refine (ser_right rs ao n cap _ _ (Below.refl _ _) HR.out).mono ?_
 rintro e w1 ⟨rfl,b1⟩
 have HB1 := Lib.hid b1
 clear b1
 cases hT : Se.rightB rs
 ·
  have HP := Lib.hid (Se.un_arg (s := s) hT)
  clear hT
  go_wp2_with fail
  go_ret2
  exact ⟨by unfold unI; rw [HP.out]; rfl,bchain HW.out HB1.out⟩
 ·
  have HT := Lib.hid hT
  clear hT
  go_wp2_with fail
  refine (ser_index rs s ao n cap _ _ HB1.out (HR.out.below HB1.out)).mono ?_
  rintro e w2 ⟨rfl,b2⟩
  have HB2 := Lib.hid b2
  have HI : Hid (Se.ix s rs ≤ n) := Lib.hid (by have := Se.ix_le s rs; have := HN.out; omega)
  clear b2
  by_cases hlt : Se.ix s rs < rs.length
  ·
   have hO := Se.own_at hlt
   have HLt := Lib.hid hlt
   have hrow0 : 0 < n := by have := HN.out; omega
   obtain ⟨b,off,rfl⟩ := HR.out.at hrow0
   have hrow := (HR.out.row (Se.ix s rs) hlt).below HB2.out
   rw [← hO] at hrow
   obtain ⟨r,hr⟩ : ∃ r,Se.own rs s = r := ⟨_,rfl⟩
   have HRr := Lib.hid hr
   rw [hr] at hrow
   clear hO hr
   have hin : Se.ix s rs < n := by have := HN.out; omega
   clear hlt
   obtain ⟨i,hi⟩ : ∃ i,Se.ix s rs = i := ⟨_,rfl⟩
   have HIx := Lib.hid hi
   rw [hi] at hrow hin
   rw [hi]
   clear hi HI
   obtain ⟨g0,g1,g2,g3⟩ := hrow
   have hq : ((i : Int) == (n : Int)) = false := beq_eq_false_iff_ne.2 (by omega)
   cases hsh : r.shut
   ·
    rw [hsh] at g3
    have HP := Lib.hid (Se.un_ok HT.out HLt.out (by rw [HRr.out]; exact hsh))
    clear hsh
    go_wp2_with fail
    go_ret2
    exact ⟨by unfold unI; rw [HP.out,HIx.out]; rfl,bchain HW.out HB2.out⟩
   ·
    rw [hsh] at g3
    have HP := Lib.hid (Se.un_shut HT.out HLt.out (by rw [HRr.out]; exact hsh))
    clear hsh
    go_wp2_with fail
    go_ret2
    exact ⟨by unfold unI; rw [HP.out]; rfl,bchain HW.out HB2.out⟩
  ·
   have HP := Lib.hid (Se.un_none HT.out hlt)
   have HIx : Hid (Se.ix s rs = n) := Lib.hid (by have := Se.ix_le s rs; have := HN.out; omega)
   rw [HIx.out]
   have hq : ((n : Int) == (n : Int)) = true := beq_self_eq_true _
   clear hlt
   go_wp2_with fail
   go_ret2
   exact ⟨by unfold unI; rw [HP.out]; rfl,bchain HW.out HB2.out⟩
set_option maxHeartbeats 2000000 in
theorem ser_clone (rs : List Sr.T) (ao : Option Addr) (n cap : Nat) (w : World) (hR : Sr.Ls w ao n cap rs) (hn : n ≤ 1000) :
  Calls Tryz.prog 139 #[.slice ao n cap] w fun e w' => e = .returned (.slice (some ⟨w.heap.size,0,none⟩) n n) ∧ Sr.Block w' w.heap.size rs ∧ Below w.heap.size w w' := by
 have HR := Lib.hid hR
 have hcap := hR.reach
 have hfit := hR.fits
 have hmk := Sr.make n (by omega)
 have hblk0 := Sr.block_made w n
 have hbel0 : Below w.heap.size w (w.alloc (.cells (Sr.zeros n) 90)) := (Below.refl _ _).alloc (Nat.le_refl _) _
 obtain ⟨W1,hcp,hblk,hbel,hsz⟩ := Sr.copy (w.alloc (.cells (Sr.zeros n) 90)) w.heap.size [] n ao n cap rs (by rw [List.append_nil]; exact hblk0) hR.len ((hR.below hbel0).seg)
 rw [List.length_nil,Nat.add_zero] at hcp
 rw [List.append_nil] at hblk
 have HB1 := Lib.hid (hbel _ _ hbel0 (Nat.le_refl _))
 have HBk := Lib.hid hblk
 clear hblk hbel hblk0 hbel0 hR
 go_enter Tryz.func139,Tryz.ntmps139
 go_wp2
 go_ret
 exact ⟨rfl,HBk.out,HB1.out⟩
end Go.Proofs.YtjpfpojbalepeaaGreat
namespace Go.Proofs.YtjpfpojbalepeaaGreat
open Go.RowKit
open Mem
open Go.Sort (grow)
namespace Sr
theorem flat_cell (r : T) (p : Nat) (x : Value) (hp : p < 4) : ∀ (M : List T) (k : Nat) (hk : k < M.length),rv r = (rv M[k]).set p x → (M.set k r).flatMap rv = (M.flatMap rv).set (k * 4 + p) x
 | a :: l,0,_,h => by
  have h' : rv r = (rv a).set p x := h
  rw [List.set_cons_zero,List.flatMap_cons,List.flatMap_cons,Nat.zero_mul,Nat.zero_add,List.set_append_left _ _ (by rw [rv_len]; exact hp),h']
 | a :: l,k + 1,hk,h => by
  have ih := flat_cell r p x hp l k (by simpa using hk) (by simpa using h)
  rw [List.set_cons_succ,List.flatMap_cons,List.flatMap_cons,List.set_append_right _ _ (by rw [rv_len]; omega),rv_len,show (k + 1) * 4 + p - 4 = k * 4 + p by omega,ih]
theorem own_cell {w : World} {B g n cap : Nat} {M : List T} (h : Own w B (.slice (some ⟨g,0,none⟩) n cap) M) (k p : Nat) (hk : k < M.length) (hp : p < 4) (x : Value) (r : T) (hr : rv r = (rv M[k]).set p x) :
  Own (w.setCell ⟨g,k * 4 + p,none⟩ x) B (.slice (some ⟨g,0,none⟩) n cap) (M.set k r) := by
 rcases h.2 with ⟨h',_⟩ | ⟨g',cap',cur,h',hb,hg,hnc,hcm,hcs,htake⟩
 · cases h'
 ·
  simp only [Value.slice.injEq,Option.some.injEq,Addr.mk.injEq,and_true] at h'
  obtain ⟨e1,e2,e3⟩ := h'
  subst e1 e3
  have h1 := heap_setCell_same _ g (k * 4 + p) _ _ x hg
  refine ⟨by rw [flat_len],.inr ⟨g,cap,_,by rw [List.length_set,e2],hb,h1,by rw [List.length_set]; exact hnc,hcm,by simpa using hcs,?_⟩⟩
  rw [List.length_set,flat_cell r p x hp M k hk hr]
  simp only [Array.toList_setIfInBounds]
  rw [← htake]
  simp only [List.take_set]
theorem own_block {w : World} {B g n : Nat} {M : List T} (h : Block w g M) (hB : B ≤ g) (hn : n = M.length) (hm : n ≤ 100000) : Own w B (.slice (some ⟨g,0,none⟩) n n) M := by
 subst hn
 exact ⟨by rw [flat_len],.inr ⟨g,M.length,_,rfl,hB,h,Nat.le_refl _,by have : maxLen = 9223372036854775807 := rfl; omega,by rw [List.size_toArray,flat_len],List.take_of_length_le (by show (M.flatMap rv).length ≤ _; rw [flat_len]; exact Nat.le_refl _)⟩⟩
end Sr
theorem unI_0 {rs : List Sr.T} {s : ByteArray} (h : Se.unE rs s = 0) : unI rs s = (Se.ix s rs : Nat) := if_pos h
set_option maxHeartbeats 2000000 in
theorem ser_shut (rs : List Sr.T) (s : ByteArray) (ao : Option Addr) (n cap : Nat) (w : World) (hR : Sr.Ls w ao n cap rs) :
  Calls Tryz.prog 103 #[.slice ao n cap,.string s] w (ShutE w rs s) := by
 have HR := Lib.hid hR
 have HN := Lib.hid hR.len
 have hcap := hR.reach
 have hfit := hR.fits
 clear hR
 go_enter Tryz.func103,Tryz.ntmps103
 go_wp2_with fail
 refine (ser_unshut rs s ao n cap _ _ (Below.refl _ _) HR.out).mono ?_
 rintro e w1 ⟨rfl,b1⟩
 have HB1 := Lib.hid b1
 clear b1
 by_cases hE : Se.unE rs s = 0
 ·
  have HE := Lib.hid hE
  obtain ⟨hT,hlt,_⟩ := Se.un_0 hE
  have hn8 : n ≤ 8 := by have := ((Se.right_iff rs).1 hT).1; have := HN.out; omega
  have HLt := Lib.hid hlt
  have HO := Lib.hid (Se.own_get hlt)
  rw [hE,unI_0 hE]
  have hin : Se.ix s rs < n := by have := HN.out; omega
  obtain ⟨i,hi⟩ : ∃ i,Se.ix s rs = i := ⟨_,rfl⟩
  have HIx := Lib.hid hi
  rw [hi] at hin HO
  rw [hi]
  clear hi hE hT hlt
  go_wp2_with fail
  refine (ser_clone rs ao n cap _ (HR.out.below HB1.out) (by omega)).mono ?_
  rintro e w2 ⟨rfl,k2,b2⟩
  have HOw := Lib.hid (Sr.own_block (B := w1.heap.size) k2 (Nat.le_refl _) HN.out (by omega))
  have HB2 := Lib.hid (And.intro (bchain HB1.out b2) HB1.out.size)
  have hkl : i < rs.length := by have := HN.out; omega
  obtain ⟨hAt,hfz,hge⟩ := Sr.own_at HOw.out i hkl
  obtain ⟨c0,c1,c2,c3⟩ := hAt
  clear k2 b2 c0 c1 c2 hge
  generalize w1.heap.size = g at *
  have hf3 := hfz (i * 4 + 3)
  clear hfz
  go_wp2_with fail
  go_ret2
  refine ⟨_,by rw [HE.out]; rfl,?_,bset HB2.out.1 HB2.out.2 _ _⟩
  rw [Se.shut_yes HE.out,HIx.out]
  refine Sr.own_mono (Sr.own_cell HOw.out i 3 hkl (by omega) (.bool true) _ ?_) HB2.out.2
  have hx : rs[i] = Se.own rs s := Option.some.inj ((List.getElem?_eq_getElem hkl).symm.trans HO.out)
  rw [hx]
  rfl
 ·
  have HP := Lib.hid (Se.shut_no hE)
  obtain ⟨e,he⟩ : ∃ e,Se.unE rs s = e := ⟨_,rfl⟩
  have HE := Lib.hid he
  have hne : (e != 0) = true := bne_iff_ne.2 (he ▸ hE)
  rw [he]
  clear he hE
  go_wp2_with fail
  go_ret2
  exact ⟨_,by rw [HE.out]; rfl,by rw [HP.out]; exact Sr.own_nil _ _,HB1.out⟩
set_option maxHeartbeats 2000000 in
theorem ser_take (rs : List Sr.T) (s : ByteArray) (ao : Option Addr) (n cap : Nat) (w : World) (hR : Sr.Ls w ao n cap rs) :
  Calls Tryz.prog 168 #[.slice ao n cap,.string s] w (TakeE w rs s) := by
 have HR := Lib.hid hR
 have HN := Lib.hid hR.len
 have hcap := hR.reach
 have hfit := hR.fits
 clear hR
 go_enter Tryz.func168,Tryz.ntmps168
 go_wp2_with fail
 refine (ser_unshut rs s ao n cap _ _ (Below.refl _ _) HR.out).mono ?_
 rintro e w1 ⟨rfl,b1⟩
 have HB1 := Lib.hid b1
 clear b1
 by_cases hE : Se.unE rs s = 0
 ·
  have HE := Lib.hid hE
  obtain ⟨hT,hlt,_⟩ := Se.un_0 hE
  have hn8 : n ≤ 8 := by have := ((Se.right_iff rs).1 hT).1; have := HN.out; omega
  have hO := Se.own_at hlt
  have HO := Lib.hid (Se.own_get hlt)
  rw [hE,unI_0 hE]
  have hin : Se.ix s rs < n := by have := HN.out; omega
  obtain ⟨b,off,rfl⟩ := HR.out.at (by omega)
  have hrow := (HR.out.row (Se.ix s rs) hlt).below HB1.out
  rw [← hO] at hrow
  obtain ⟨r,hr⟩ : ∃ r,Se.own rs s = r := ⟨_,rfl⟩
  have HRr := Lib.hid hr
  have hsd := Se.sound_iff.1 (((Se.right_iff rs).1 hT).2.1 _ (Se.own_mem hlt))
  rw [hr] at hrow hsd
  have hlm := Se.lim_iff.1 hsd.2.1
  have hnx := hsd.2.2
  obtain ⟨i,hi⟩ : ∃ i,Se.ix s rs = i := ⟨_,rfl⟩
  have HIx := Lib.hid hi
  rw [hi] at hin hrow HO
  rw [hi]
  obtain ⟨g0,g1,g2,g3⟩ := hrow
  clear hi hE hT hlt hO hr hsd
  by_cases hf : r.limit < r.next
  ·
   have HP := Lib.hid (Se.take_full HE.out (by rw [HRr.out]; exact hf))
   go_wp2_with fail
   exact bodyPost_ret (by simp [results,Tryz.results168,go_sem]; rfl) rfl ⟨_,by rw [HP.out.1,HP.out.2.1],by rw [HP.out.2.2]; exact Sr.own_nil _ _,HB1.out⟩
  ·
   have HP := Lib.hid (Se.take_ok HE.out (by rw [HRr.out]; exact hf))
   go_wp2_with fail
   refine (ser_clone rs (some ⟨b,off,none⟩) n cap _ (HR.out.below HB1.out) (by omega)).mono ?_
   rintro e w2 ⟨rfl,k2,b2⟩
   have HOw := Lib.hid (Sr.own_block (B := w1.heap.size) k2 (Nat.le_refl _) HN.out (by omega))
   have HB2 := Lib.hid (And.intro (bchain HB1.out b2) HB1.out.size)
   have hkl : i < rs.length := by have := HN.out; omega
   obtain ⟨hAt,hfz,hge⟩ := Sr.own_at HOw.out i hkl
   obtain ⟨c0,c1,c2,c3⟩ := hAt
   clear k2 b2 c0 c2 c3 hge g0 g1 g2 g3
   generalize w1.heap.size = g at *
   have hf3 := hfz (i * 4 + 1)
   clear hfz
   go_wp2_with fail
   refine bodyPost_ret (by simp [results,Tryz.results168,go_sem]; rfl) rfl ⟨_,by rw [HP.out.1,HP.out.2.1,HRr.out],?_,bset HB2.out.1 HB2.out.2 _ _⟩
   rw [HP.out.2.2,HIx.out]
   refine Sr.own_mono (Sr.own_cell HOw.out i 1 hkl (by omega) _ _ ?_) HB2.out.2
   have hx : rs[i] = r := (Option.some.inj ((List.getElem?_eq_getElem hkl).symm.trans HO.out)).trans HRr.out
   rw [hx,HRr.out]
   rfl
 ·
  have HP := Lib.hid (Se.take_un hE)
  obtain ⟨e,he⟩ : ∃ e,Se.unE rs s = e := ⟨_,rfl⟩
  have HE := Lib.hid he
  have hne : (e != 0) = true := bne_iff_ne.2 (he ▸ hE)
  rw [he]
  clear he hE
  go_wp2_with fail
  exact bodyPost_ret (by simp [results,Tryz.results168,go_sem]; rfl) rfl ⟨_,by rw [HP.out.1,HP.out.2.1,HE.out],by rw [HP.out.2.2]; exact Sr.own_nil _ _,HB1.out⟩
theorem frz (w : World) (r : Sr.T) (o : Nat) : (Sr.box w r).frozen? ⟨w.heap.size,o,none⟩ = false := frozen_of_row (Sr.box w r) w.heap.size o _ _ (heap_alloc_new w _)
set_option maxHeartbeats 2000000 in
theorem ser_find (rs : List Sr.T) (s : ByteArray) (ao : Option Addr) (n cap : Nat) (w0 w : World) (hw : Below w0.heap.size w0 w) (hR : Sr.Ls w ao n cap rs) :
  Calls Tryz.prog 146 #[.slice ao n cap,.string s] w fun e w' => e = .returned (.tuple #[Sr.val (Se.own rs s),.bool (decide (Se.ix s rs < rs.length))]) ∧ Below w0.heap.size w0 w' := by
 have HW := Lib.hid hw
 have HR := Lib.hid hR
 have HN := Lib.hid hR.len
 have hcap := hR.reach
 have hfit := hR.fits
 clear hR hw
 go_enter Tryz.func146,Tryz.ntmps146
 go_wp2_with fail
 refine (ser_index rs s ao n cap (Sr.box w Sr.zero) _ (Below.refl _ _) (HR.out.below (Sr.below_own w Sr.zero))).mono ?_
 rintro e w1 ⟨rfl,b1⟩
 have hC := (Sr.c_box w Sr.zero).below b1
 unfold Sr.C at hC
 obtain ⟨a0,a1,a2,a3⟩ := hC
 have hsz : w.heap.size < (Sr.box w Sr.zero).heap.size := by rw [Sr.box_size]; omega
 have f0 := ((bcell b1).2 w.heap.size 0 hsz).trans (frz w Sr.zero 0)
 have f1 := ((bcell b1).2 w.heap.size 1 hsz).trans (frz w Sr.zero 1)
 have f2 := ((bcell b1).2 w.heap.size 2 hsz).trans (frz w Sr.zero 2)
 have f3 := ((bcell b1).2 w.heap.size 3 hsz).trans (frz w Sr.zero 3)
 have hB1 := bchain (Sr.below_own w Sr.zero) b1
 have HB1 := Lib.hid (And.intro (bchain HW.out hB1) HW.out.size)
 have HBw := Lib.hid hB1
 clear b1 hsz hB1
 by_cases hlt : Se.ix s rs < rs.length
 ·
  have hO := Se.own_at hlt
  have hin : Se.ix s rs < n := by have := HN.out; omega
  obtain ⟨b,off,rfl⟩ := HR.out.at (by omega)
  have hrow := (HR.out.row (Se.ix s rs) hlt).below HBw.out
  rw [← hO] at hrow
  have HD := Lib.hid (decide_eq_true hlt)
  obtain ⟨r,hr⟩ : ∃ r,Se.own rs s = r := ⟨_,rfl⟩
  rw [hr] at hrow
  have HRr := Lib.hid hr
  obtain ⟨i,hi⟩ : ∃ i,Se.ix s rs = i := ⟨_,rfl⟩
  rw [hi] at hrow hin
  rw [hi]
  obtain ⟨g0,g1,g2,g3⟩ := hrow
  have hq : ((i : Int) == (n : Int)) = false := beq_eq_false_iff_ne.2 (by omega)
  clear hlt hi hr hO
  go_wp2_with fail
  exact bodyPost_ret (v := .tuple #[Sr.val r,.bool true]) (by simp [results,Sr.val,Tryz.results146,go_sem,a0,a1,a2,a3]) rfl ⟨by rw [HRr.out,HD.out],bset (bset (bset (bset HB1.out.1 HB1.out.2 _ _) HB1.out.2 _ _) HB1.out.2 _ _) HB1.out.2 _ _⟩
 ·
  have hO := Se.own_zero hlt
  have HRr := Lib.hid hO
  have HD := Lib.hid (decide_eq_false hlt)
  have hix : Se.ix s rs = n := by have := Se.ix_le s rs; have := HN.out; omega
  rw [hix]
  have hq : ((n : Int) == (n : Int)) = true := beq_self_eq_true _
  clear hlt hO hix
  go_wp2_with fail
  exact bodyPost_ret (v := .tuple #[Sr.val Sr.zero,.bool false]) (by simp [results,Sr.val,Sr.zero,Tryz.results146,go_sem,a0,a1,a2,a3]; rfl) rfl ⟨by rw [HRr.out,HD.out],bset (bset (bset (bset HB1.out.1 HB1.out.2 _ _) HB1.out.2 _ _) HB1.out.2 _ _) HB1.out.2 _ _⟩
end Go.Proofs.YtjpfpojbalepeaaGreat
namespace Go.Proofs.YtjpfpojbalepeaaGreat.Bl
open Vt (Rt)
theorem fit_1 : Fit 1 := ⟨by omega,by omega⟩
theorem fit_0 : Fit 0 := ⟨by omega,by omega⟩
theorem open_short {L : List Sr.T} {s : ByteArray} {m : Int} (hL : ∀ r ∈ L,Sr.Short r) (hs : s.size ≤ 140737488355328) (hm : Fit m) : ∀ r ∈ Se.openR L s m,Sr.Short r := by
 intro r hr
 unfold Se.openR at hr
 split at hr
 ·
  rcases Se.openL_mem.1 hr with rfl | hr
  · exact ⟨hs,fit_1,hm⟩
  · exact hL r hr
 · cases hr
theorem shut_short {L : List Sr.T} {s : ByteArray} (hL : ∀ r ∈ L,Sr.Short r) : ∀ r ∈ Se.shutR L s,Sr.Short r := by
 intro r hr
 unfold Se.shutR at hr
 split at hr
 ·
  rename_i h
  rcases Se.set_mem (Se.un_0 h).2.1 r hr with rfl | hr
  ·
   have := hL _ (Se.own_mem (Se.un_0 h).2.1)
   exact ⟨this.1,this.2.1,this.2.2⟩
  · exact hL r hr
 · cases hr
theorem take_short {L : List Sr.T} {s : ByteArray} (hL : ∀ r ∈ L,Sr.Short r) : ∀ r ∈ Se.takeR L s,Sr.Short r := by
 intro r hr
 by_cases h : Se.unE L s = 0
 ·
  by_cases k : (Se.own L s).limit < (Se.own L s).next
  ·
   rw [(Se.take_full h k).2.2] at hr
   cases hr
  ·
   rw [(Se.take_ok h k).2.2] at hr
   obtain ⟨h1,h2,h3⟩ := Se.un_0 h
   rcases Se.set_mem h2 r hr with rfl | hr
   ·
    have := hL _ (Se.own_mem h2)
    obtain ⟨k1,k2,k3,k4⟩ := Se.sound_iff.1 (((Se.right_iff L).1 h1).2.1 _ (Se.own_mem h2))
    have k5 := Se.lim_iff.1 k2
    refine ⟨this.1,?_,this.2.2⟩
    show -9223372036854775808 ≤ (Se.own L s).next + 1 ∧ (Se.own L s).next + 1 ≤ 9223372036854775807
    omega
   · exact hL r hr
 ·
  rw [(Se.take_un h).2.2] at hr
  cases hr
theorem take_fit {L : List Sr.T} {s : ByteArray} (hL : ∀ r ∈ L,Sr.Short r) : Fit (Se.takeN L s) := by
 unfold Se.takeN
 split
 ·
  rename_i h
  have h1 : Se.unE L s = 0 := by
   unfold Se.takeE at h
   split at h
   ·
    rename_i q
    exact absurd h q
   ·
    rename_i q
    exact Decidable.not_not.1 q
  exact (hL _ (Se.own_mem (Se.un_0 h1).2.1)).2.1
 · exact fit_0
theorem put_short {L : List Rt} {r : Rt} (hL : ∀ x ∈ L,Short x) (hr : Short r) : ∀ x ∈ Vt.putR L r,Short x := by
 intro x hx
 unfold Vt.putR at hx
 split at hx
 ·
  unfold Vt.putL at hx
  rcases List.mem_append.1 hx with h | h
  · exact hL x (List.mem_of_mem_take h)
  ·
   rcases List.mem_cons.1 h with rfl | h
   · exact hr
   · exact hL x (List.mem_of_mem_drop h)
 · cases hx
def levyS (s : Bl.St) (r : Rt) : Bl.St := if Vt.putE s.tab r = 0 then ⟨Vt.putR s.tab r,s.ser,s.post,s.book,s.sess,s.next⟩ else s
theorem levy_ok {s : Bl.St} {r : Rt} (h : Vt.putE s.tab r = 0) : levyS s r = ⟨Vt.putR s.tab r,s.ser,s.post,s.book,s.sess,s.next⟩ := if_pos h
theorem levy_no {s : Bl.St} {r : Rt} (h : Vt.putE s.tab r ≠ 0) : levyS s r = s := if_neg h
def leaveS (s : Bl.St) (i : Int) : Bl.St := if Sp.leaveE s.sess i = 0 then ⟨s.tab,s.ser,s.post,s.book,Sp.leaveR s.sess i,s.next⟩ else s
theorem leave_ok {s : Bl.St} {i : Int} (h : Sp.leaveE s.sess i = 0) : leaveS s i = ⟨s.tab,s.ser,s.post,s.book,Sp.leaveR s.sess i,s.next⟩ := if_pos h
theorem leave_no {s : Bl.St} {i : Int} (h : Sp.leaveE s.sess i ≠ 0) : leaveS s i = s := if_neg h
def keepS (s : Bl.St) (i q : Int) (r : Rp.T) : Bl.St := if Sp.keepE s.sess i q = 0 then ⟨s.tab,s.ser,s.post,s.book,Sp.keepR s.sess i q r.why r.num r.gross,s.next⟩ else s
theorem keep_ok {s : Bl.St} {i q : Int} {r : Rp.T} (h : Sp.keepE s.sess i q = 0) : keepS s i q r = ⟨s.tab,s.ser,s.post,s.book,Sp.keepR s.sess i q r.why r.num r.gross,s.next⟩ := if_pos h
theorem keep_no {s : Bl.St} {i q : Int} {r : Rp.T} (h : Sp.keepE s.sess i q ≠ 0) : keepS s i q r = s := if_neg h
end Go.Proofs.YtjpfpojbalepeaaGreat.Bl
set_option maxRecDepth 100000
namespace Go.Proofs.YtjpfpojbalepeaaGreat
open Go.RowKit
open Mem
open Go.Sort (grow)
def Bl.OutE (P : Nat → Prop) (w : World) (s : Bl.St) (r : Rp.T) (e : Ending) (w' : World) : Prop := ∃ h : Bl.Sv,e = .returned (.tuple #[h.val,Rp.val r]) ∧ Bl.Lp (nw P w) w' h s ∧ Below w.heap.size w w'
def Bl.ListE (w : World) (h : Bl.Sv) (l : Sl) (n : Int) (e : Ending) (w' : World) : Prop := ((n = 0 ∧ e = .returned (.tuple #[Bl.Sv.val ⟨h.tab,l,h.post,h.book,h.sess,h.next⟩,Rp.val ⟨0,0,0⟩])) ∨ (n ≠ 0 ∧ e = .returned (.tuple #[h.val,Rp.val ⟨n,0,0⟩]))) ∧ Below w.heap.size w w'
set_option maxHeartbeats 4000000 in
theorem bil_list (h : Bl.Sv) (l : Sl) (n : Int) (w : World) :
  Calls Tryz.prog 102 #[h.val,.slice l.ao l.n l.cap,.int .i64 n] w (Bl.ListE w h l n) := by
 obtain ⟨U,hU,hA,hF⟩ := Bl.fr3 w h
 have HA := Lib.hid hA
 have HF := Lib.hid hF
 by_cases h0 : n = 0
 ·
  subst h0
  obtain ⟨x0,x1,x2,x3,x4,x5⟩ := hA.cells
  have z1 := hA.frozen 1
  have hA2 : Bl.At (U.setCell ⟨w.heap.size,1,none⟩ (.slice l.ao l.n l.cap)) w.heap.size ⟨h.tab,l,h.post,h.book,h.sess,h.next⟩ := (Bl.set_heap hA 1 _).trans rfl
  have hF2 : Bl.Fr w (U.setCell ⟨w.heap.size,1,none⟩ (.slice l.ao l.n l.cap)) (w.heap.size + 1) (w.heap.size + 1 + 1) := hF.set (Nat.le_refl _) (by omega) _ _
  have HF2 := Lib.hid hF2
  have hS := hF2.st
  have hR := hF2.rpS ⟨h.tab,l,h.post,h.book,h.sess,h.next⟩
  clear hA hF hF2
  unfold Bl.Sv.val Bl.sl
  go_enter Tryz.func102,Tryz.ntmps102
  go_wp2_with (first | ((with_reducible apply Bl.wpl_load hA2); rfl; rfl; rfl) | ((with_reducible apply Bl.wpl_put (h := ⟨h.tab,l,h.post,h.book,h.sess,h.next⟩) hS); rfl; rfl; rfl; rfl) | ((with_reducible apply Rp.wpl_put (r := ⟨0,0,0⟩) hR); rfl; rfl; rfl; rfl))
  exact HF2.out.ret Tryz.results102 ⟨h.tab,l,h.post,h.book,h.sess,h.next⟩ ⟨0,0,0⟩ rfl rfl rfl fun b => ⟨.inl ⟨rfl,rfl⟩,b⟩
 ·
  have hq : (n == 0) = false := beq_eq_false_iff_ne.2 h0
  clear hA hF
  unfold Bl.Sv.val Bl.sl
  go_enter Tryz.func102,Tryz.ntmps102
  go_wp2_with fail
  refine Bl.wp_refuse (w.heap.size) (w.heap.size + 1) (w.heap.size + 1 + 1) h Bl.zsv ⟨0,0,0⟩ (n) HA.out HF.out.st HF.out.rp (by omega) rfl rfl rfl rfl rfl rfl rfl rfl rfl rfl rfl rfl ?_ ?_ ?_ ?_ ?_ ?_ ?_ ?_ ?_ ?_ ?_
  · kernel_rfl
  · exact fun _ _ _ h => h
  · exact fun _ _ _ h => h
  · rfl
  · rfl
  · rfl
  · rfl
  · rfl
  · rfl
  · rfl
  intro w9 b9
  go_wp2_with fail
  exact (HF.out.below b9).ret Tryz.results102 h ⟨n,0,0⟩ rfl rfl rfl fun b => ⟨.inr ⟨h0,rfl⟩,b⟩
set_option maxHeartbeats 4000000 in
theorem bil_leave (P : Nat → Prop) (s : Bl.St) (h : Bl.Sv) (i : Int) (w : World) (hL : Bl.Lp P w h s) (hi : Fit i) :
  Calls Tryz.prog 107 #[h.val,.int .i64 i] w (Bl.OutE P w (Bl.leaveS s i) ⟨Sp.leaveE s.sess i,0,0⟩) := by
 have HL := Lib.hid hL
 have HH := Lib.hid hi
 obtain ⟨U,hU,hA,hF⟩ := Bl.fr3 w h
 have HA := Lib.hid hA
 have HF := Lib.hid hF
 have HUs := Lib.hid hA.lt
 obtain ⟨x0,x1,x2,x3,x4,x5⟩ := hA.cells
 clear hA hF hL hi
 unfold Bl.Sv.val Bl.sl
 go_enter Tryz.func107,Tryz.ntmps107
 go_wp2_with fail
 clear hU
 refine (ses_leave s.sess i h.sess.ao h.sess.n h.sess.cap _ (HL.out.sess.below HF.out.bel) HH.out).mono ?_
 rintro e w1 ⟨v,rfl,o1,b1⟩
 have hA1 := HA.out.below b1
 have HA1 := Lib.hid hA1
 have HF1 := Lib.hid (HF.out.below b1)
 have HO1 := Lib.hid o1
 have HB1 := Lib.hid b1
 obtain ⟨y0,y1,y2,y3,y4,y5⟩ := hA1.cells
 have z := hA1.frozen 4
 clear x0 x1 x2 x3 x4 x5 o1 b1
 by_cases h0 : Sp.leaveE s.sess i = 0
 ·
  have HP := Lib.hid (Bl.leave_ok (s := s) h0)
  have HE := Lib.hid h0
  rw [h0]
  clear h0
  obtain ⟨L,hLr⟩ : ∃ L,Sp.leaveR s.sess i = L := ⟨_,rfl⟩
  have HSh := Lib.hid (Sp.leave_short (i := i) HL.out.sess.short)
  rw [hLr] at HO1 HSh HP
  clear hLr
  obtain ⟨bo,bc,rfl,l1,i1⟩ := Sn.own_ls HO1.out HSh.out
  obtain ⟨n1,hn1⟩ : ∃ n1,L.length = n1 := ⟨_,rfl⟩
  rw [hn1] at l1 ⊢
  clear hn1
  have HLs := Lib.hid l1
  have HI := Lib.hid (inA_own (n := n1) i1)
  clear l1 i1
  have hA2 : Bl.At (w1.setCell ⟨w.heap.size,4,none⟩ (.slice bo n1 bc)) w.heap.size ⟨h.tab,h.ser,h.post,h.book,⟨bo,n1,bc⟩,h.next⟩ := (Bl.set_heap hA1 4 _).trans rfl
  have hF2 := HF1.out.set (g := w.heap.size) (Nat.le_refl _) (by omega) 4 (.slice bo n1 bc)
  have HF2 := Lib.hid hF2
  have hS := hF2.st
  have hR := hF2.rpS ⟨h.tab,h.ser,h.post,h.book,⟨bo,n1,bc⟩,h.next⟩
  clear hA1 hF2
  go_wp2_with (first | ((with_reducible apply Bl.wpl_load hA2); rfl; rfl; rfl) | ((with_reducible apply Bl.wpl_put (h := ⟨h.tab,h.ser,h.post,h.book,⟨bo,n1,bc⟩,h.next⟩) hS); rfl; rfl; rfl; rfl) | ((with_reducible apply Rp.wpl_put (r := ⟨0,0,0⟩) hR); rfl; rfl; rfl; rfl))
  refine HF2.out.ret Tryz.results107 ⟨h.tab,h.ser,h.post,h.book,⟨bo,n1,bc⟩,h.next⟩ ⟨0,0,0⟩ rfl rfl rfl fun b => ⟨_,by rw [HE.out],?_,b⟩
  rw [HP.out]
  have hl := (HL.out.below b).wide w
  have hip := HI.out.nw P (w := w) (by have := HUs.out; omega)
  have hk : Kp U.heap.size w1 (Bl.out2 (w1.setCell ⟨w.heap.size,4,none⟩ (.slice bo n1 bc)) (w.heap.size + 1) (w.heap.size + 1 + 1) ⟨h.tab,h.ser,h.post,h.book,⟨bo,n1,bc⟩,h.next⟩ ⟨0,0,0⟩) := (Kp.set w1 HUs.out _ _).trans (Bl.kp_out2 _ (by have := HF.out.st.lt; omega) (by have := HF.out.rp.lt; omega) _ _)
  exact ⟨hl.tab,hl.ser,hl.post,hl.book,HLs.out.kp HI.out hk,hl.next,hl.fit,hl.ptab,hl.pser,hl.ppost,hl.pbook,hip⟩
 ·
  have hq : (Sp.leaveE s.sess i == 0) = false := beq_eq_false_iff_ne.2 h0
  have HP := Lib.hid (Bl.leave_no (s := s) h0)
  clear hA1
  obtain ⟨E,hE⟩ : ∃ E,Sp.leaveE s.sess i = E := ⟨_,rfl⟩
  rw [hE] at hq h0 ⊢
  have HE := Lib.hid hE
  clear hE HO1
  go_wp2_with fail
  refine Bl.wp_refuse (w.heap.size) (w.heap.size + 1) (w.heap.size + 1 + 1) h Bl.zsv ⟨0,0,0⟩ (E) HA1.out HF1.out.st HF1.out.rp (by omega) rfl rfl rfl rfl rfl rfl rfl rfl rfl rfl rfl rfl ?_ ?_ ?_ ?_ ?_ ?_ ?_ ?_ ?_ ?_ ?_
  · kernel_rfl
  · exact fun _ _ _ h => h
  · exact fun _ _ _ h => h
  · rfl
  · rfl
  · rfl
  · rfl
  · rfl
  · rfl
  · rfl
  intro w9 b9
  go_wp2_with fail
  exact (HF1.out.below b9).ret Tryz.results107 h ⟨E,0,0⟩ rfl rfl rfl fun b => ⟨_,by rw [HE.out],by rw [HP.out]; exact (HL.out.below b).wide w,b⟩
set_option maxHeartbeats 4000000 in
theorem bil_levy (P : Nat → Prop) (s : Bl.St) (h : Bl.Sv) (r : Vt.Rt) (w : World) (hL : Bl.Lp P w h s) (hi : Short r) :
  Calls Tryz.prog 104 #[h.val,rowV r] w (Bl.OutE P w (Bl.levyS s r) ⟨Vt.putE s.tab r,0,0⟩) := by
 have HL := Lib.hid hL
 have HH := Lib.hid hi
 obtain ⟨U,hU,hA,hF,hBk⟩ := Bl.fr4 w h (.cells #[.string r.cat,.int .i64 r.y,.int .i64 r.m,.int .i64 r.d,.int .i64 r.bp] 25)
 have c0 : U.cell? ⟨w.heap.size + 1,0,none⟩ = some (.string r.cat) := by rw [cell_of_row U _ 0 _ _ _ hBk]; rfl
 have c1 : U.cell? ⟨w.heap.size + 1,1,none⟩ = some (.int .i64 r.y) := by rw [cell_of_row U _ 1 _ _ _ hBk]; rfl
 have c2 : U.cell? ⟨w.heap.size + 1,2,none⟩ = some (.int .i64 r.m) := by rw [cell_of_row U _ 2 _ _ _ hBk]; rfl
 have c3 : U.cell? ⟨w.heap.size + 1,3,none⟩ = some (.int .i64 r.d) := by rw [cell_of_row U _ 3 _ _ _ hBk]; rfl
 have c4 : U.cell? ⟨w.heap.size + 1,4,none⟩ = some (.int .i64 r.bp) := by rw [cell_of_row U _ 4 _ _ _ hBk]; rfl
 clear hBk
 have HA := Lib.hid hA
 have HF := Lib.hid hF
 have HUs := Lib.hid hA.lt
 obtain ⟨x0,x1,x2,x3,x4,x5⟩ := hA.cells
 clear hA hF hL hi
 unfold Bl.Sv.val Bl.sl rowV
 go_enter Tryz.func104,Tryz.ntmps104
 go_wp2_with fail
 clear hU c0 c1 c2 c3 c4
 refine (vat_put s.tab h.tab.ao h.tab.n h.tab.cap r _ (HL.out.tab.below HF.out.bel) HH.out).mono ?_
 rintro e w1 ⟨v,rfl,o1,b1⟩
 have hA1 := HA.out.below b1
 have HA1 := Lib.hid hA1
 have HF1 := Lib.hid (HF.out.below b1)
 have HO1 := Lib.hid o1
 have HB1 := Lib.hid b1
 obtain ⟨y0,y1,y2,y3,y4,y5⟩ := hA1.cells
 have z := hA1.frozen 0
 clear x0 x1 x2 x3 x4 x5 o1 b1
 by_cases h0 : Vt.putE s.tab r = 0
 ·
  have HP := Lib.hid (Bl.levy_ok (s := s) h0)
  have HE := Lib.hid h0
  rw [h0]
  clear h0
  obtain ⟨L,hLr⟩ : ∃ L,Vt.putR s.tab r = L := ⟨_,rfl⟩
  have HSh := Lib.hid (Bl.put_short HL.out.tab.short HH.out)
  rw [hLr] at HO1 HSh HP
  clear hLr
  obtain ⟨bo,bc,rfl,l1,i1⟩ := own_rts HO1.out HSh.out
  obtain ⟨n1,hn1⟩ : ∃ n1,L.length = n1 := ⟨_,rfl⟩
  rw [hn1] at l1 ⊢
  clear hn1
  have HLs := Lib.hid l1
  have HI := Lib.hid (inA_own (n := n1) i1)
  clear l1 i1
  have hA2 : Bl.At (w1.setCell ⟨w.heap.size,0,none⟩ (.slice bo n1 bc)) w.heap.size ⟨⟨bo,n1,bc⟩,h.ser,h.post,h.book,h.sess,h.next⟩ := (Bl.set_heap hA1 0 _).trans rfl
  have hF2 := HF1.out.set (g := w.heap.size) (Nat.le_refl _) (by omega) 0 (.slice bo n1 bc)
  have HF2 := Lib.hid hF2
  have hS := hF2.st
  have hR := hF2.rpS ⟨⟨bo,n1,bc⟩,h.ser,h.post,h.book,h.sess,h.next⟩
  clear hA1 hF2
  go_wp2_with (first | ((with_reducible apply Bl.wpl_load hA2); rfl; rfl; rfl) | ((with_reducible apply Bl.wpl_put (h := ⟨⟨bo,n1,bc⟩,h.ser,h.post,h.book,h.sess,h.next⟩) hS); rfl; rfl; rfl; rfl) | ((with_reducible apply Rp.wpl_put (r := ⟨0,0,0⟩) hR); rfl; rfl; rfl; rfl))
  refine HF2.out.ret Tryz.results104 ⟨⟨bo,n1,bc⟩,h.ser,h.post,h.book,h.sess,h.next⟩ ⟨0,0,0⟩ rfl rfl rfl fun b => ⟨_,by rw [HE.out],?_,b⟩
  rw [HP.out]
  have hl := (HL.out.below b).wide w
  have hip := HI.out.nw P (w := w) (by have := HUs.out; omega)
  have hk : Kp U.heap.size w1 (Bl.out2 (w1.setCell ⟨w.heap.size,0,none⟩ (.slice bo n1 bc)) (w.heap.size + 1 + 1) (w.heap.size + 1 + 1 + 1) ⟨⟨bo,n1,bc⟩,h.ser,h.post,h.book,h.sess,h.next⟩ ⟨0,0,0⟩) := (Kp.set w1 HUs.out _ _).trans (Bl.kp_out2 _ (by have := HF.out.st.lt; omega) (by have := HF.out.rp.lt; omega) _ _)
  exact ⟨HLs.out.kp HI.out hk,hl.ser,hl.post,hl.book,hl.sess,hl.next,hl.fit,hip,hl.pser,hl.ppost,hl.pbook,hl.psess⟩
 ·
  have hq : (Vt.putE s.tab r == 0) = false := beq_eq_false_iff_ne.2 h0
  have HP := Lib.hid (Bl.levy_no (s := s) h0)
  clear hA1
  obtain ⟨E,hE⟩ : ∃ E,Vt.putE s.tab r = E := ⟨_,rfl⟩
  rw [hE] at hq h0 ⊢
  have HE := Lib.hid hE
  clear hE HO1
  go_wp2_with fail
  refine Bl.wp_refuse (w.heap.size) (w.heap.size + 1 + 1) (w.heap.size + 1 + 1 + 1) h Bl.zsv ⟨0,0,0⟩ (E) HA1.out HF1.out.st HF1.out.rp (by omega) rfl rfl rfl rfl rfl rfl rfl rfl rfl rfl rfl rfl ?_ ?_ ?_ ?_ ?_ ?_ ?_ ?_ ?_ ?_ ?_
  · kernel_rfl
  · exact fun _ _ _ h => h
  · exact fun _ _ _ h => h
  · rfl
  · rfl
  · rfl
  · rfl
  · rfl
  · rfl
  · rfl
  intro w9 b9
  go_wp2_with fail
  exact (HF1.out.below b9).ret Tryz.results104 h ⟨E,0,0⟩ rfl rfl rfl fun b => ⟨_,by rw [HE.out],by rw [HP.out]; exact (HL.out.below b).wide w,b⟩
end Go.Proofs.YtjpfpojbalepeaaGreat
