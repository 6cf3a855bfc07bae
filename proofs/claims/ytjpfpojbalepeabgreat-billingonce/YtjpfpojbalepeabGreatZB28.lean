import Derived.Laws.CopyOwn
import Derived.Laws.MakeOwn
import Derived.Lib.QuietBelow
import Derived.Deep.RegionLaw
import Derived.Deep.DeepCutAuto
import Derived.Deep.CutBlock
import Derived.Test.YtjpfpojbalepeabGreatShelf
import Derived.Lib.Overlaps
import Derived.Lib.JoinLaws
import Derived.Lib.SliceRun
import Derived.Test.YtjpfpojbalepeabGreatZB21
import Derived.Test.YtjpfpojbalepeabGreatZB22
import Derived.Test.YtjpfpojbalepeabGreatZB23
import Derived.Test.YtjpfpojbalepeabGreatZB24
import Derived.Test.YtjpfpojbalepeabGreatZB25
import Derived.Test.YtjpfpojbalepeabGreatZB26
import Derived.Test.YtjpfpojbalepeabGreatZB27
namespace Go.Proofs.YtjpfpojbalepeabGreat
open Go.RowKit
open Mem
open Go.Sort (grow)
set_option maxHeartbeats 2000000 in
theorem ser_right (rs : List Sr.T) (ao : Option Addr) (n cap : Nat) (w0 w : World) (hw : Below w0.heap.size w0 w) (hR : Sr.Ls w ao n cap rs) :
  Calls Tryz.prog 29 #[.slice ao n cap] w fun e w' => e = .returned (.bool (Se.rightB rs)) ∧ Below w0.heap.size w0 w' := by
 have HW := Lib.hid hw
 have HR := Lib.hid hR
 have HN := Lib.hid hR.len
 have hcap := hR.reach
 have hfit := hR.fits
 clear hw hR
 by_cases h8 : 8 < n
 ·
  have HT := Lib.hid (Se.right_long (l := rs) (HN.out ▸ h8))
  go_enter Tryz.func29,Tryz.ntmps29
  go_wp2
  go_ret
  exact ⟨ret_bool HT.out.symm,HW.out⟩
 ·
  have HT := Lib.hid (Se.right_short (l := rs) (by have := HN.out; omega))
  go_enter Tryz.func29,Tryz.ntmps29
  go_wp2
  go_loopw [3,4,10] (fun _ _ i wr => ∃ k : Nat,k ≤ n ∧ i = .int .i64 k ∧ Hid (Se.okAll (Se.prevAt rs k) (rs.drop k) = Se.okAll none rs) ∧ Hid (Below w.heap.size w wr)) (fun _ _ i _ => n - (intOf i).toNat)
  case atStart => exact ⟨0,by omega,rfl,Lib.hid rfl,Lib.hid (Below.refl _ _)⟩
  case round =>
   obtain ⟨k,hk,rfl,HK,HB⟩ := hrel
   by_cases hlt : k < n
   ·
    obtain ⟨b,off,rfl⟩ := HR.out.at (by omega)
    have hkr : k < rs.length := HN.out ▸ hlt
    obtain ⟨r,hr⟩ : ∃ r,rs[k] = r := ⟨_,rfl⟩
    have hrow := (HR.out.row k hkr).below HB.out
    have HSt := Lib.hid (Se.okAll_at rs k hkr)
    rw [hr] at hrow HSt
    have hsh : Sr.Short r := HR.out.short r (hr ▸ List.getElem_mem hkr)
    obtain ⟨g0,g1,g2,g3⟩ := hrow
    obtain ⟨W,hW,hbW,hA⟩ := Sr.boxed1 wr r
    have HBW := Lib.hid (bchain HB.out hbW)
    clear hbW
    unfold Sr.C at hA
    obtain ⟨a0,a1,a2,a3⟩ := hA
    have k0 := cell_regrown a0
    have k1 := cell_regrown a1
    have k2 := cell_regrown a2
    have k3 := cell_regrown a3
    have c1 := sound_agg r hsh
    clear hsh hr
    cases he : Se.sound r
    ·
     rw [he] at c1
     have HO : Hid (Se.ok (Se.prevAt rs k) r = false) := by
      show _ = _
      unfold Se.ok
      rw [he]
      rfl
     clear he
     go_wp2
     refine wp_region_quiet_below (by kernel_rfl) (by kernel_rfl) ?_
     repeat (first | go_big_quiet_step (first | (go_at_call 49; exact c1 _ _ _)) | quiet_step (first | (go_at_call 49; exact c1 _ _ _)))
     refine wpQuiet_nil ?_
     intro _ hw'
     obtain ⟨⟨dq,osq⟩,hw''⟩ := hw'
     subst hw''
     have HBv := Lib.hid (bchain HBW.out (below_regrown W dq osq))
     go_wp2
     go_ret
     exact ⟨ret_bool (by rw [HT.out,← HK.out,HSt.out,HO.out,Bool.false_and]),bchain HW.out HBv.out⟩
    ·
     rw [he] at c1
     by_cases hk0 : k = 0
     ·
      subst hk0
      simp only [Nat.zero_mul,Nat.add_zero] at g0 g1 g2 g3
      have HO : Hid (Se.ok (Se.prevAt rs 0) r = true) := by
       show _ = _
       unfold Se.ok Se.prevAt
       rw [he]
       rfl
      clear he
      go_wp2
      refine wp_region_quiet_below (by kernel_rfl) (by kernel_rfl) ?_
      repeat (first | go_big_quiet_step (first | (go_at_call 49; exact c1 _ _ _)) | quiet_step (first | (go_at_call 49; exact c1 _ _ _)))
      refine wpQuiet_nil ?_
      intro _ hw'
      obtain ⟨⟨dq,osq⟩,hw''⟩ := hw'
      subst hw''
      have HBv := Lib.hid (bchain HBW.out (below_regrown W dq osq))
      go_wp2
      go_roundw
      case rel => exact ⟨1,by omega,rfl,Lib.hid (by rw [← HK.out,HSt.out,HO.out,Bool.true_and]),HBv⟩
      case measure => simp [intOf]; omega
     ·
      obtain ⟨j,rfl⟩ : ∃ j,k = j + 1 := ⟨k - 1,by omega⟩
      have hjr : j < rs.length := by omega
      obtain ⟨q,hq⟩ : ∃ q,rs[j] = q := ⟨_,rfl⟩
      have hrow2 := (HR.out.row j hjr).below HBW.out
      rw [hq] at hrow2
      obtain ⟨f0,f1,f2,f3⟩ := hrow2
      have m0 := cell_regrown f0
      have m1 := cell_regrown f1
      have m2 := cell_regrown f2
      have m3 := cell_regrown f3
      have HO : Hid (Se.ok (Se.prevAt rs (j + 1)) r = Op.bytesLess q.name.toList r.name.toList) := by
       show _ = _
       unfold Se.ok
       rw [he,Se.prev_at hjr hq]
       rfl
      have hjs : ((j + 1 : Nat) : Int) - 1 = (j : Int) := by omega
      clear he hq hk0
      cases hlt2 : Op.bytesLess q.name.toList r.name.toList
      ·
       rw [hlt2] at HO
       go_wp2
       refine wp_region_quiet_below (by kernel_rfl) (by kernel_rfl) ?_
       repeat (first | go_big_quiet_step (first | (go_at_call 49; exact c1 _ _ _)) | quiet_step (first | (go_at_call 49; exact c1 _ _ _)))
       refine wpQuiet_nil ?_
       intro _ hw'
       obtain ⟨⟨dq,osq⟩,hw''⟩ := hw'
       subst hw''
       have HBv := Lib.hid (bchain HBW.out (below_regrown W dq osq))
       go_wp2
       go_ret
       exact ⟨ret_bool (by rw [HT.out,← HK.out,HSt.out,HO.out,Bool.false_and]),bchain HW.out HBv.out⟩
      ·
       rw [hlt2] at HO
       go_wp2
       refine wp_region_quiet_below (by kernel_rfl) (by kernel_rfl) ?_
       repeat (first | go_big_quiet_step (first | (go_at_call 49; exact c1 _ _ _)) | quiet_step (first | (go_at_call 49; exact c1 _ _ _)))
       refine wpQuiet_nil ?_
       intro _ hw'
       obtain ⟨⟨dq,osq⟩,hw''⟩ := hw'
       subst hw''
       have HBv := Lib.hid (bchain HBW.out (below_regrown W dq osq))
       go_wp2
       go_roundw
       case rel => exact ⟨j + 1 + 1,by omega,by go_num,Lib.hid (by rw [← HK.out,HSt.out,HO.out,Bool.true_and]),HBv⟩
       case measure => simp [intOf]; omega
   ·
    obtain rfl : k = n := by omega
    go_wp2
    go_ret
    exact ⟨ret_bool (by rw [HT.out,← HK.out,List.drop_eq_nil_of_le (Nat.le_of_eq HN.out.symm)]; rfl),bchain HW.out HB.out⟩
end Go.Proofs.YtjpfpojbalepeabGreat
namespace Go.Proofs.YtjpfpojbalepeabGreat.Sr
open Go.RowKit
open Mem
def Block (w : World) (g : Nat) (ts : List T) : Prop := w.heap[g]? = some (.cells (ts.flatMap rv).toArray 73 (0,0))
theorem Block.row {w : World} {g : Nat} {ts : List T} (h : Block w g ts) (k : Nat) (hk : k < ts.length) : At w g (k * 4) ts[k] := by
 have hcell : ∀ p,p < 4 → w.cell? ⟨g,k * 4 + p,none⟩ = (rv ts[k])[p]? := by
  intro p hp
  rw [cell_of_row w g _ _ _ _ h,← flat_at ts k p hk hp]
  simp
 exact ⟨hcell 0 (by omega),hcell 1 (by omega),hcell 2 (by omega),hcell 3 (by omega)⟩
theorem Block.ls {w : World} {g : Nat} {ts zs : List T} (h : Block w g (ts ++ zs)) (n cap : Nat) (hn : n = ts.length) (hc : n ≤ cap) (hm : cap ≤ 9223372036854775807) (hs : ∀ r ∈ ts,Short r) : Ls w (some ⟨g,0,none⟩) n cap ts := by
 refine ⟨hn,hc,hm,(fun k => by cases k),.inr ⟨g,0,rfl,fun k hk => ?_⟩,hs⟩
 have hr := h.row k (by rw [List.length_append]; omega)
 rw [List.getElem_append_left hk] at hr
 rw [Nat.zero_add]
 exact hr
def zeros (n : Nat) : Array Value := ((List.replicate n zero).flatMap rv).toArray
theorem sizeZ : (Tryz.prog.info? 73).map (·.size) = some 4 := by kernel_rfl
theorem made (n : Nat) : madeCells zeroV.cells (n * 4) = zeros n := by
 apply Array.ext_getElem?
 intro j
 by_cases hj : j < n * 4
 ·
  obtain ⟨k,p,rfl,hp⟩ : ∃ k p,j = k * 4 + p ∧ p < 4 := ⟨j / 4,j % 4,by omega,by omega⟩
  have hk : k < n := by omega
  have hz : (zeros n)[k * 4 + p]? = (rv zero)[p]? := by
   unfold zeros
   rw [List.getElem?_toArray,flat_at (List.replicate n zero) k p (by simpa using hk) hp,List.getElem_replicate]
  rw [hz]
  have e : (k * 4 + p) % 4 = p := by omega
  have hp' : p = 0 ∨ p = 1 ∨ p = 2 ∨ p = 3 := by omega
  unfold madeCells
  rw [Array.getElem?_map,Array.getElem?_range,if_pos hj]
  simp only [Option.map_some]
  rw [show zeroV.cells.size = 4 from rfl,e]
  rcases hp' with rfl | rfl | rfl | rfl <;> rfl
 ·
  rw [Array.getElem?_eq_none (by rw [size_madeCells]; omega),Array.getElem?_eq_none]
  unfold zeros
  rw [List.size_toArray,flat_len,List.length_replicate]
  omega
theorem make (n : Nat) (hn : n ≤ 100000) (u : World) : (Instr.makeSlice 35 (.int .i64 (n : Int)) (.int .i64 (n : Int))).run Tryz.prog u =
  .ok (.slice (some ⟨u.heap.size,0,none⟩) n n) (u.alloc (.cells (zeros n) 73)) := by
 obtain ⟨i0,hi,hz0,hz1,hz2⟩ := info_parts info
 have h := run_make (P := Tryz.prog) u 35 73 i0 zeroV Tryz.underlying35 hi hz0 .i64 .i64 (n : Int) (n : Int) (by omega) (Int.le_refl _) (by rw [hz2]; omega) (by omega)
 rw [hz1,Int.toNat_natCast,made] at h
 exact h
theorem block_made (u : World) (n : Nat) : Block (u.alloc (.cells (zeros n) 73)) u.heap.size (List.replicate n zero) := heap_alloc_new u _
theorem copy (u : World) (g : Nat) (ts : List T) (dCap : Nat) (ao : Option Addr) (n cap : Nat) (rs : List T) (hb : Block u g (List.replicate n zero ++ ts)) (hn : n = rs.length) (hs : Seg u ao rs) :
  ∃ u',(Builtin.copy_ #[35,35] 3 #[.slice (some ⟨g,0,none⟩) (n + ts.length) dCap,.slice ao n cap]).run Tryz.prog u = .ok (goInt n) u' ∧ Block u' g (rs ++ ts) ∧ (∀ B w0,Below B w0 u → B ≤ g → Below B w0 u') ∧ u'.heap.size = u.heap.size := by
 obtain ⟨i0,hi,hiK⟩ := Option.map_eq_some_iff.1 sizeZ
 have hmin : Nat.min n (n + ts.length) = n := Nat.min_eq_left (by omega)
 rcases hs with e | ⟨b,off,rfl,hc⟩
 ·
  subst e
  obtain rfl : n = 0 := hn
  refine ⟨u,?_,by simpa using hb,fun _ _ h _ => h,rfl⟩
  have hl : ∀ (x : Addr),(loadCells x 0).run Tryz.prog u = .ok #[] u := fun x => by simpa using run_loadCells_list (P := Tryz.prog) u x [] (by simp)
  cases ao <;> simp [Builtin.copy_,run_underlying Tryz.underlying35,Builtin.lenOf,Builtin.firstCells,sizeOf,typeInfo,hi,storeCells,hl]
 ·
  have hl := run_loadCells_list (P := Tryz.prog) u ⟨b,off,none⟩ (rs.flatMap rv) (fun j v hv => news_of hc j v hv)
  have hst := run_storeCells_at Tryz.prog g 0 73 (rs.flatMap rv) 0 _ u hb (by rw [List.size_toArray,flat_len,flat_len,List.length_append,List.length_replicate]; omega) (one_cell rs)
  have hlen : (rs.flatMap rv).length = n * 4 := by rw [flat_len,hn]
  have e : (((List.replicate n zero ++ ts).flatMap rv).toArray.toList.take (0 + 0) ++ rs.flatMap rv ++ ((List.replicate n zero ++ ts).flatMap rv).toArray.toList.drop (0 + 0 + (rs.flatMap rv).length)) = (rs ++ ts).flatMap rv := by
   rw [List.toList_toArray,List.take_zero,List.nil_append,Nat.zero_add,hlen,List.flatMap_append,List.flatMap_append,List.drop_left' (by rw [flat_len,List.length_replicate])]
  rw [e] at hst
  refine ⟨u.setRow g ((rs ++ ts).flatMap rv).toArray,?_,setRow_heap u g _ _ 73 _ hb,fun B w0 h hB => below_setRow h hB _,by simp [World.setRow]⟩
  rw [hlen] at hl
  simp [Builtin.copy_,run_underlying Tryz.underlying35,Builtin.lenOf,Builtin.firstCells,sizeOf,typeInfo,hi,hiK,hmin,hl,hst]
theorem own_at {w : World} {B g n cap : Nat} {M : List T} (h : Own w B (.slice (some ⟨g,0,none⟩) n cap) M) (k : Nat) (hk : k < M.length) : At w g (k * 4) M[k] ∧ (∀ o,w.frozen? ⟨g,o,none⟩ = false) ∧ B ≤ g := by
 rcases h.2 with ⟨h',_⟩ | ⟨g',cap',cur,h',hb,hg,hnc,hcm,hcs,htake⟩
 · cases h'
 ·
  simp only [Value.slice.injEq,Option.some.injEq,Addr.mk.injEq,and_true] at h'
  obtain ⟨e1,e2,e3⟩ := h'
  subst e1 e3
  have hcell : ∀ p,p < 4 → w.cell? ⟨g,k * 4 + p,none⟩ = (rv M[k])[p]? := by
   intro p hp
   rw [cell_of_row w g _ _ _ _ hg,← flat_at M k p hk hp,← htake,List.getElem?_take_of_lt (by omega)]
   simp
  exact ⟨⟨hcell 0 (by omega),hcell 1 (by omega),hcell 2 (by omega),hcell 3 (by omega)⟩,fun o => frozen_of_row w g o _ _ hg,hb⟩
end Go.Proofs.YtjpfpojbalepeabGreat.Sr
namespace Go.Proofs.YtjpfpojbalepeabGreat
open Go.RowKit
open Mem
open Go.Sort (grow)
theorem Sr.make_cap (n : Nat) (hn : n ≤ 1000) (u : World) : (Instr.makeSlice 35 (.int .i64 0) (.int .i64 ((n : Int) + 1))).run Tryz.prog u =
  .ok (.slice (some ⟨u.heap.size,0,none⟩) 0 (n + 1)) (u.alloc (.cells (Sr.zeros (n + 1)) 73)) := by
 obtain ⟨i0,hi,hz0,hz1,hz2⟩ := info_parts Sr.info
 have h := run_make (P := Tryz.prog) u 35 73 i0 Sr.zeroV Tryz.underlying35 hi hz0 .i64 .i64 0 ((n : Int) + 1) (by omega) (by omega) (by rw [hz2]; omega) (by omega)
 rw [hz1,show ((n : Int) + 1).toNat = n + 1 from by omega,Sr.made] at h
 exact h
theorem Sr.own_cap (u : World) (B c : Nat) (hB : B ≤ u.heap.size) (hc : c ≤ 1000) : Sr.Own (u.alloc (.cells (Sr.zeros c) 73)) B (.slice (some ⟨u.heap.size,0,none⟩) 0 c) [] :=
 ⟨rfl,.inr ⟨u.heap.size,c,Sr.zeros c,rfl,hB,heap_alloc_new u _,Nat.zero_le _,by have : maxLen = 9223372036854775807 := rfl; omega,by unfold Sr.zeros; rw [List.size_toArray,Sr.flat_len,List.length_replicate],rfl⟩⟩
set_option maxHeartbeats 4000000 in
theorem ser_with (rs : List Sr.T) (ao : Option Addr) (n cap : Nat) (r : Sr.T) (w : World) (hR : Sr.Ls w ao n cap rs) (hn : n < 8) :
  Calls Tryz.prog 92 #[.slice ao n cap,Sr.val r] w fun e w' => ∃ v,e = .returned v ∧ Sr.Own w' w.heap.size v (Se.openL rs r) ∧ Below w.heap.size w w' := by
 have HR := Lib.hid hR
 have HN := Lib.hid hR.len
 have hcap := hR.reach
 have hfit := hR.fits
 clear hR
 unfold Sr.val
 go_enter Tryz.func92,Tryz.ntmps92
 go_wp2
 go_loopw [5] (fun i wr => ∃ k : Nat,k ≤ n ∧ i = .int .i64 k ∧ Hid (k + Se.spot r.name (rs.drop k) = Se.spot r.name rs) ∧ Hid (Below w.heap.size w wr) ∧ Hid (Sr.C wr w.heap.size r)) (fun i _ => n - (intOf i).toNat)
 case atStart => exact ⟨0,by omega,rfl,Lib.hid (Nat.zero_add _),Lib.hid (Sr.below_own w r),Lib.hid (Sr.c_box w r)⟩
 case round =>
  rename World => wz
  obtain ⟨k,hk,rfl,HK,HB,HCz⟩ := hrel
  have hC := HCz.out
  unfold Sr.C at hC
  obtain ⟨a0,a1,a2,a3⟩ := hC
  have l0 := cell_regrown a0
  have l1 := cell_regrown a1
  have l2 := cell_regrown a2
  have l3 := cell_regrown a3
  by_cases hlt : k < n
  ·
   obtain ⟨b,off,rfl⟩ := HR.out.at (by omega)
   have hkr : k < rs.length := HN.out ▸ hlt
   obtain ⟨q,hq⟩ : ∃ q,rs[k] = q := ⟨_,rfl⟩
   have hrow := (HR.out.row k hkr).below HB.out
   have HSt := Lib.hid (Se.spot_at r.name rs k hkr)
   rw [hq] at hrow HSt
   obtain ⟨g0,g1,g2,g3⟩ := hrow
   have k0 := cell_regrown g0
   have k1 := cell_regrown g1
   have k2 := cell_regrown g2
   have k3 := cell_regrown g3
   clear hq
   unfold Se.lt at HSt
   cases hqr : Op.bytesLess q.name.toList r.name.toList
   ·
    rw [hqr,if_neg (by simp)] at HSt
    have HSp : Hid (Se.spot r.name rs = k) := Lib.hid (by rw [← HK.out,HSt.out]; rfl)
    go_wp2
    refine wp_region_quiet_below (by kernel_rfl) (by kernel_rfl) ?_
    repeat (first | go_big_quiet_step (fail) | quiet_step (fail))
    refine wpQuiet_nil ?_
    intro _ hw'
    obtain ⟨⟨dq,osq⟩,hw''⟩ := hw'
    subst hw''
    have HBx := Lib.hid (bchain HB.out (below_regrown wz dq osq))
    have HCx := Lib.hid (HCz.out.below (below_regrown wz dq osq))
    clear l0 l1 l2 l3 a0 a1 a2 a3 k0 k1 k2 k3 g0 g1 g2 g3 hqr
    generalize grow (redrawn wz dq) osq = x at *
    have HP : Hid (Se.openL rs r = rs.take k ++ r :: rs.drop k) := Lib.hid (by unfold Se.openL; rw [HSp.out])
    have HRx := Lib.hid (HR.out.below HBx.out)
    obtain ⟨hs1,hR1⟩ := HRx.out.to k (by omega)
    obtain ⟨ao2,cap2,hs2,hR2⟩ := HRx.out.from k (by omega)
    obtain ⟨j,hj⟩ : ∃ j,n - k = j := ⟨_,rfl⟩
    rw [hj] at hs2 hR2
    have HR1 := Lib.hid hR1
    have HR2 := Lib.hid hR2
    have hjb : j ≤ 8 := by omega
    have hkb : k ≤ 8 := by omega
    have hmk := Sr.make_cap n (by omega)
    clear hR1 hR2 hj
    have hB1 : Below x.heap.size x (x.alloc (.cells (Sr.zeros (n + 1)) 73)) := (Below.refl _ _).alloc (Nat.le_refl _) _
    have HB1 := Lib.hid hB1
    clear hB1
    go_wp2_with (at_builtin; go_must (refine Sr.wpList_append _ rfl (.tmp 27) (.tmp 30) rfl x.heap.size (.slice (some ⟨x.heap.size,0,none⟩) 0 (n + 1)) [] rfl (Sr.own_cap x x.heap.size (n + 1) (Nat.le_refl _) (by omega)) (some ⟨b,off,none⟩) k cap (rs.take k) rfl HR1.out.len HR1.out.nil (HR1.out.below HB1.out).seg (by simp only [List.length_nil]; omega) (by simp) ?_))
    intro v1 y1 o1 gr1 _
    have hb1 := HB1.out.grown gr1 HB1.out.size (Sr.own_ge (Sr.own_cap x x.heap.size (n + 1) (Nat.le_refl _) (by omega)))
    have HO1 : Hid (∀ o,Sr.Own (y1.alloc o) x.heap.size v1 ([] ++ rs.take k)) := fun o => Sr.own_alloc o1 o
    have HY1 := Lib.hid hb1
    have hC := HCx.out.below hb1
    unfold Sr.C at hC
    obtain ⟨a0,a1,a2,a3⟩ := hC
    have hsz1 : x.heap.size ≤ y1.heap.size := hb1.size
    clear o1 gr1 hb1
    go_wp2_with (at_builtin; go_must (refine Sr.wpList_append _ rfl (.tmp 32) (.tmp 34) rfl x.heap.size v1 ([] ++ rs.take k) rfl (HO1.out _) (some ⟨y1.heap.size,0,none⟩) 1 1 [r] rfl rfl (fun h => by cases h) (Sr.seg_block (heap_alloc_new y1 _)) (by rw [List.nil_append,← HR1.out.len]; omega) (by simp; omega) ?_))
    intro v2 y2 o2 gr2 _
    have hb2 := (HY1.out.alloc HY1.out.size (Sr.block r)).grown gr2 (HY1.out.alloc HY1.out.size (Sr.block r)).size (Sr.own_ge (HO1.out (Sr.block r)))
    have HO2 := Lib.hid o2
    have HY2 := Lib.hid hb2
    clear o2 gr2 hb2 a0 a1 a2 a3
    go_wp2_with (at_builtin; go_must (refine Sr.wpList_append _ rfl (.tmp 36) (.tmp 39) rfl x.heap.size v2 ([] ++ rs.take k ++ [r]) rfl HO2.out ao2 j cap2 (rs.drop k) rfl HR2.out.len HR2.out.nil (HR2.out.below HY2.out).seg (by rw [List.nil_append,List.length_append,← HR1.out.len,List.length_singleton]; omega) HY2.out.size ?_))
    intro v3 y3 o3 gr3 _
    have hb3 := HY2.out.grown gr3 HY2.out.size (Sr.own_ge HO2.out)
    have HO3 := Lib.hid o3
    have HY3 := Lib.hid hb3
    clear o3 gr3 hb3
    go_wp2
    go_ret
    exact ⟨v3,rfl,by rw [HP.out]; exact Sr.own_mono HO3.out HBx.out.size,bchain HBx.out HY3.out⟩
   ·
    rw [hqr,if_pos rfl] at HSt
    go_wp2
    refine wp_region_quiet_below (by kernel_rfl) (by kernel_rfl) ?_
    repeat (first | go_big_quiet_step (fail) | quiet_step (fail))
    refine wpQuiet_nil ?_
    intro _ hw'
    obtain ⟨⟨dq,osq⟩,hw''⟩ := hw'
    subst hw''
    have HBv := Lib.hid (bchain HB.out (below_regrown wz dq osq))
    go_wp2
    go_roundw
    case rel => exact ⟨k + 1,by omega,by go_num,Lib.hid (by rw [← HK.out,HSt.out]; omega),HBv,Lib.hid (HCz.out.below (below_regrown wz dq osq))⟩
    case measure => simp [intOf]; omega
  ·
   obtain rfl : k = n := by omega
   have HSp : Hid (Se.spot r.name rs = k) := Lib.hid (by rw [← HK.out,List.drop_eq_nil_of_le (Nat.le_of_eq HN.out.symm)]; rfl)
   go_wp2
   refine wp_region_quiet_below (by kernel_rfl) (by kernel_rfl) ?_
   repeat (first | go_big_quiet_step (fail) | quiet_step (fail))
   refine wpQuiet_nil ?_
   intro _ hw'
   obtain ⟨⟨dq,osq⟩,hw''⟩ := hw'
   subst hw''
   have HBx := Lib.hid (bchain HB.out (below_regrown wz dq osq))
   have HCx := Lib.hid (HCz.out.below (below_regrown wz dq osq))
   clear l0 l1 l2 l3 a0 a1 a2 a3
   generalize grow (redrawn wz dq) osq = x at *
   have HP : Hid (Se.openL rs r = rs.take k ++ r :: rs.drop k) := Lib.hid (by unfold Se.openL; rw [HSp.out])
   have HRx := Lib.hid (HR.out.below HBx.out)
   obtain ⟨hs1,hR1⟩ := HRx.out.to k (by omega)
   obtain ⟨ao2,cap2,hs2,hR2⟩ := HRx.out.from k (by omega)
   obtain ⟨j,hj⟩ : ∃ j,k - k = j := ⟨_,rfl⟩
   rw [hj] at hs2 hR2
   have HR1 := Lib.hid hR1
   have HR2 := Lib.hid hR2
   have hjb : j ≤ 8 := by omega
   have hkb : k ≤ 8 := by omega
   have hmk := Sr.make_cap k (by omega)
   clear hR1 hR2 hj
   have hB1 : Below x.heap.size x (x.alloc (.cells (Sr.zeros (k + 1)) 73)) := (Below.refl _ _).alloc (Nat.le_refl _) _
   have HB1 := Lib.hid hB1
   clear hB1
   go_wp2_with (at_builtin; go_must (refine Sr.wpList_append _ rfl (.tmp 27) (.tmp 30) rfl x.heap.size (.slice (some ⟨x.heap.size,0,none⟩) 0 (k + 1)) [] rfl (Sr.own_cap x x.heap.size (k + 1) (Nat.le_refl _) (by omega)) ao k cap (rs.take k) rfl HR1.out.len HR1.out.nil (HR1.out.below HB1.out).seg (by simp only [List.length_nil]; omega) (by simp) ?_))
   intro v1 y1 o1 gr1 _
   have hb1 := HB1.out.grown gr1 HB1.out.size (Sr.own_ge (Sr.own_cap x x.heap.size (k + 1) (Nat.le_refl _) (by omega)))
   have HO1 : Hid (∀ o,Sr.Own (y1.alloc o) x.heap.size v1 ([] ++ rs.take k)) := fun o => Sr.own_alloc o1 o
   have HY1 := Lib.hid hb1
   have hC := HCx.out.below hb1
   unfold Sr.C at hC
   obtain ⟨a0,a1,a2,a3⟩ := hC
   have hsz1 : x.heap.size ≤ y1.heap.size := hb1.size
   clear o1 gr1 hb1
   go_wp2_with (at_builtin; go_must (refine Sr.wpList_append _ rfl (.tmp 32) (.tmp 34) rfl x.heap.size v1 ([] ++ rs.take k) rfl (HO1.out _) (some ⟨y1.heap.size,0,none⟩) 1 1 [r] rfl rfl (fun h => by cases h) (Sr.seg_block (heap_alloc_new y1 _)) (by rw [List.nil_append,← HR1.out.len]; omega) (by simp; omega) ?_))
   intro v2 y2 o2 gr2 _
   have hb2 := (HY1.out.alloc HY1.out.size (Sr.block r)).grown gr2 (HY1.out.alloc HY1.out.size (Sr.block r)).size (Sr.own_ge (HO1.out (Sr.block r)))
   have HO2 := Lib.hid o2
   have HY2 := Lib.hid hb2
   clear o2 gr2 hb2 a0 a1 a2 a3
   go_wp2_with (at_builtin; go_must (refine Sr.wpList_append _ rfl (.tmp 36) (.tmp 39) rfl x.heap.size v2 ([] ++ rs.take k ++ [r]) rfl HO2.out ao2 j cap2 (rs.drop k) rfl HR2.out.len HR2.out.nil (HR2.out.below HY2.out).seg (by rw [List.nil_append,List.length_append,← HR1.out.len,List.length_singleton]; omega) HY2.out.size ?_))
   intro v3 y3 o3 gr3 _
   have hb3 := HY2.out.grown gr3 HY2.out.size (Sr.own_ge HO2.out)
   have HO3 := Lib.hid o3
   have HY3 := Lib.hid hb3
   clear o3 gr3 hb3
   go_wp2
   go_ret
   exact ⟨v3,rfl,by rw [HP.out]; exact Sr.own_mono HO3.out HBx.out.size,bchain HBx.out HY3.out⟩
end Go.Proofs.YtjpfpojbalepeabGreat
namespace Go.Proofs.YtjpfpojbalepeabGreat
open Go.RowKit
open Mem
open Go.Sort (grow)
def OpenE (w : World) (rs : List Sr.T) (s : ByteArray) (m : Int) (e : Ending) (w' : World) : Prop := ∃ v,e = .returned (.tuple #[v,.int .i64 (Se.openE rs s m)]) ∧ Sr.Own w' w.heap.size v (Se.openR rs s m) ∧ Below w.heap.size w w'
def ShutE (w : World) (rs : List Sr.T) (s : ByteArray) (e : Ending) (w' : World) : Prop := ∃ v,e = .returned (.tuple #[v,.int .i64 (Se.unE rs s)]) ∧ Sr.Own w' w.heap.size v (Se.shutR rs s) ∧ Below w.heap.size w w'
def TakeE (w : World) (rs : List Sr.T) (s : ByteArray) (e : Ending) (w' : World) : Prop := ∃ v,e = .returned (.tuple #[v,.int .i64 (Se.takeN rs s),.int .i64 (Se.takeE rs s)]) ∧ Sr.Own w' w.heap.size v (Se.takeR rs s) ∧ Below w.heap.size w w'
set_option maxHeartbeats 2000000 in
theorem ser_open (rs : List Sr.T) (s : ByteArray) (m : Int) (ao : Option Addr) (n cap : Nat) (w : World) (hR : Sr.Ls w ao n cap rs) (hs : s.size ≤ 140737488355328) :
  Calls Tryz.prog 63 #[.slice ao n cap,.string s,.int .i64 m] w (OpenE w rs s m) := by
 have HR := Lib.hid hR
 have HN := Lib.hid hR.len
 have HS := Lib.hid hs
 have hcap := hR.reach
 have hfit := hR.fits
 clear hR hs
 go_enter Tryz.func63,Tryz.ntmps63
 go_wp2_with fail
 refine (ser_right rs ao n cap _ _ (Below.refl _ _) HR.out).mono ?_
 rintro e w1 ⟨rfl,b1⟩
 have HB1 := Lib.hid b1
 clear b1
 cases hT : Se.rightB rs
 ·
  have HP := Lib.hid (Se.open_arg (s := s) (n := m) hT)
  clear hT
  go_wp2_with fail
  go_ret2
  exact ⟨_,by rw [HP.out.1]; rfl,by rw [HP.out.2]; exact Sr.own_nil _ _,HB1.out⟩
 ·
  have HT := Lib.hid hT
  clear hT
  go_wp2_with fail
  refine (name_gen s _ _ HB1.out HS.out).mono ?_
  rintro e w2 ⟨rfl,b2⟩
  have HB2 := Lib.hid b2
  clear b2
  cases hn : Rn.name (txt s)
  ·
   have HP := Lib.hid (Se.open_name (n := m) HT.out hn)
   clear hn
   go_wp2_with fail
   go_ret2
   exact ⟨_,by rw [HP.out.1]; rfl,by rw [HP.out.2]; exact Sr.own_nil _ _,HB2.out⟩
  ·
   have HNm := Lib.hid hn
   clear hn
   go_wp2_with fail
   refine (ser_limits m _).mono ?_
   rintro e w3 ⟨rfl,rfl⟩
   cases hl : Se.lim m
   ·
    have HP := Lib.hid (Se.open_lim HT.out HNm.out hl)
    clear hl
    go_wp2_with fail
    go_ret2
    exact ⟨_,by rw [HP.out.1]; rfl,by rw [HP.out.2]; exact Sr.own_nil _ _,HB2.out⟩
   ·
    have HLm := Lib.hid hl
    clear hl
    go_wp2_with fail
    refine (ser_index rs s ao n cap _ _ HB2.out (HR.out.below HB2.out)).mono ?_
    rintro e w4 ⟨rfl,b4⟩
    have HB4 := Lib.hid b4
    have HI : Hid (Se.ix s rs ≤ n) := Lib.hid (by have := Se.ix_le s rs; have := HN.out; omega)
    clear b4
    obtain ⟨i,hi⟩ : ∃ i,Se.ix s rs = i := ⟨_,rfl⟩
    have HIx := Lib.hid hi
    rw [hi] at HI
    rw [hi]
    clear hi
    have hin := HI.out
    by_cases hlt : i < n
    ·
     have HP := Lib.hid (Se.open_taken HT.out HNm.out HLm.out (by rw [HIx.out]; exact HN.out ▸ hlt))
     go_wp2_with fail
     go_ret2
     exact ⟨_,by rw [HP.out.1]; rfl,by rw [HP.out.2]; exact Sr.own_nil _ _,HB4.out⟩
    ·
     have HNo : Hid (¬ Se.ix s rs < rs.length) := Lib.hid (by rw [HIx.out]; exact HN.out ▸ hlt)
     by_cases h8 : n = 8
     ·
      have hq : ((n : Int) == 8) = true := beq_iff_eq.2 (by omega)
      have HP := Lib.hid (Se.open_full HT.out HNm.out HLm.out HNo.out (by have := HN.out; omega))
      clear h8
      go_wp2_with fail
      go_ret2
      exact ⟨_,by rw [HP.out.1]; rfl,by rw [HP.out.2]; exact Sr.own_nil _ _,HB4.out⟩
     ·
      have hq : ((n : Int) == 8) = false := beq_eq_false_iff_ne.2 (by omega)
      have HL8 : Hid (n < 8) := Lib.hid (by have h1 := ((Se.right_iff rs).1 HT.out).1; have := HN.out; omega)
      have HP := Lib.hid (Se.open_ok HT.out HNm.out HLm.out HNo.out (by have := HL8.out; have := HN.out; omega))
      clear h8
      go_wp2_with fail
      refine (ser_with rs ao n cap ⟨s,1,m,false⟩ _ (HR.out.below HB4.out) HL8.out).mono ?_
      rintro e w5 ⟨v,rfl,o5,b5⟩
      have HO := Lib.hid (Sr.own_mono o5 HB4.out.size)
      have HB5 := Lib.hid (bchain HB4.out b5)
      clear o5 b5
      go_wp2_with fail
      go_ret2
      exact ⟨v,by rw [HP.out.1]; rfl,by rw [HP.out.2]; exact HO.out,HB5.out⟩
def unI (rs : List Sr.T) (s : ByteArray) : Int := if Se.unE rs s = 0 then (Se.ix s rs : Nat) else 0
set_option maxHeartbeats 2000000 in
theorem ser_unshut (rs : List Sr.T) (s : ByteArray) (ao : Option Addr) (n cap : Nat) (w0 w : World) (hw : Below w0.heap.size w0 w) (hR : Sr.Ls w ao n cap rs) :
  Calls Tryz.prog 93 #[.slice ao n cap,.string s] w fun e w' => e = .returned (.tuple #[.int .i64 (unI rs s),.int .i64 (Se.unE rs s)]) ∧ Below w0.heap.size w0 w' := by
 have HW := Lib.hid hw
 have HR := Lib.hid hR
 have HN := Lib.hid hR.len
 have hcap := hR.reach
 have hfit := hR.fits
 clear hR hw
 go_enter Tryz.func93,Tryz.ntmps93
 go_wp2_with fail
 refine (ser_right rs ao n cap _ _ (Below.refl _ _) HR.out).mono ?_
 rintro e w1 ⟨rfl,b1⟩
 have HB1 := Lib.hid b1
 clear b1
 cases hT : Se.rightB rs
 ·
  have HP := Lib.hid (Se.un_arg (s := s) hT)
  clear hT
  go_wp2_with fail
  go_ret2
  exact ⟨by unfold unI; rw [HP.out]; rfl,bchain HW.out HB1.out⟩
 ·
  have HT := Lib.hid hT
  clear hT
  go_wp2_with fail
  refine (ser_index rs s ao n cap _ _ HB1.out (HR.out.below HB1.out)).mono ?_
  rintro e w2 ⟨rfl,b2⟩
  have HB2 := Lib.hid b2
  have HI : Hid (Se.ix s rs ≤ n) := Lib.hid (by have := Se.ix_le s rs; have := HN.out; omega)
  clear b2
  by_cases hlt : Se.ix s rs < rs.length
  ·
   have hO := Se.own_at hlt
   have HLt := Lib.hid hlt
   have hrow0 : 0 < n := by have := HN.out; omega
   obtain ⟨b,off,rfl⟩ := HR.out.at hrow0
   have hrow := (HR.out.row (Se.ix s rs) hlt).below HB2.out
   rw [← hO] at hrow
   obtain ⟨r,hr⟩ : ∃ r,Se.own rs s = r := ⟨_,rfl⟩
   have HRr := Lib.hid hr
   rw [hr] at hrow
   clear hO hr
   have hin : Se.ix s rs < n := by have := HN.out; omega
   clear hlt
   obtain ⟨i,hi⟩ : ∃ i,Se.ix s rs = i := ⟨_,rfl⟩
   have HIx := Lib.hid hi
   rw [hi] at hrow hin
   rw [hi]
   clear hi HI
   obtain ⟨g0,g1,g2,g3⟩ := hrow
   have hq : ((i : Int) == (n : Int)) = false := beq_eq_false_iff_ne.2 (by omega)
   cases hsh : r.shut
   ·
    rw [hsh] at g3
    have HP := Lib.hid (Se.un_ok HT.out HLt.out (by rw [HRr.out]; exact hsh))
    clear hsh
    go_wp2_with fail
    go_ret2
    exact ⟨by unfold unI; rw [HP.out,HIx.out]; rfl,bchain HW.out HB2.out⟩
   ·
    rw [hsh] at g3
    have HP := Lib.hid (Se.un_shut HT.out HLt.out (by rw [HRr.out]; exact hsh))
    clear hsh
    go_wp2_with fail
    go_ret2
    exact ⟨by unfold unI; rw [HP.out]; rfl,bchain HW.out HB2.out⟩
  ·
   have HP := Lib.hid (Se.un_none HT.out hlt)
   have HIx : Hid (Se.ix s rs = n) := Lib.hid (by have := Se.ix_le s rs; have := HN.out; omega)
   rw [HIx.out]
   have hq : ((n : Int) == (n : Int)) = true := beq_self_eq_true _
   clear hlt
   go_wp2_with fail
   go_ret2
   exact ⟨by unfold unI; rw [HP.out]; rfl,bchain HW.out HB2.out⟩
set_option maxHeartbeats 2000000 in
theorem ser_clone (rs : List Sr.T) (ao : Option Addr) (n cap : Nat) (w : World) (hR : Sr.Ls w ao n cap rs) (hn : n ≤ 1000) :
  Calls Tryz.prog 94 #[.slice ao n cap] w fun e w' => e = .returned (.slice (some ⟨w.heap.size,0,none⟩) n n) ∧ Sr.Block w' w.heap.size rs ∧ Below w.heap.size w w' := by
 have HR := Lib.hid hR
 have hcap := hR.reach
 have hfit := hR.fits
 have hmk := Sr.make n (by omega)
 have hblk0 := Sr.block_made w n
 have hbel0 : Below w.heap.size w (w.alloc (.cells (Sr.zeros n) 73)) := (Below.refl _ _).alloc (Nat.le_refl _) _
 obtain ⟨W1,hcp,hblk,hbel,hsz⟩ := Sr.copy (w.alloc (.cells (Sr.zeros n) 73)) w.heap.size [] n ao n cap rs (by rw [List.append_nil]; exact hblk0) hR.len ((hR.below hbel0).seg)
 rw [List.length_nil,Nat.add_zero] at hcp
 rw [List.append_nil] at hblk
 have HB1 := Lib.hid (hbel _ _ hbel0 (Nat.le_refl _))
 have HBk := Lib.hid hblk
 clear hblk hbel hblk0 hbel0 hR
 go_enter Tryz.func94,Tryz.ntmps94
 go_wp2
 go_ret
 exact ⟨rfl,HBk.out,HB1.out⟩
end Go.Proofs.YtjpfpojbalepeabGreat
namespace Go.Proofs.YtjpfpojbalepeabGreat
open Go.RowKit
open Mem
open Go.Sort (grow)
namespace Sr
theorem flat_cell (r : T) (p : Nat) (x : Value) (hp : p < 4) : ∀ (M : List T) (k : Nat) (hk : k < M.length),rv r = (rv M[k]).set p x → (M.set k r).flatMap rv = (M.flatMap rv).set (k * 4 + p) x
 | a :: l,0,_,h => by
  have h' : rv r = (rv a).set p x := h
  rw [List.set_cons_zero,List.flatMap_cons,List.flatMap_cons,Nat.zero_mul,Nat.zero_add,List.set_append_left _ _ (by rw [rv_len]; exact hp),h']
 | a :: l,k + 1,hk,h => by
  have ih := flat_cell r p x hp l k (by simpa using hk) (by simpa using h)
  rw [List.set_cons_succ,List.flatMap_cons,List.flatMap_cons,List.set_append_right _ _ (by rw [rv_len]; omega),rv_len,show (k + 1) * 4 + p - 4 = k * 4 + p by omega,ih]
theorem own_cell {w : World} {B g n cap : Nat} {M : List T} (h : Own w B (.slice (some ⟨g,0,none⟩) n cap) M) (k p : Nat) (hk : k < M.length) (hp : p < 4) (x : Value) (r : T) (hr : rv r = (rv M[k]).set p x) :
  Own (w.setCell ⟨g,k * 4 + p,none⟩ x) B (.slice (some ⟨g,0,none⟩) n cap) (M.set k r) := by
 rcases h.2 with ⟨h',_⟩ | ⟨g',cap',cur,h',hb,hg,hnc,hcm,hcs,htake⟩
 · cases h'
 ·
  simp only [Value.slice.injEq,Option.some.injEq,Addr.mk.injEq,and_true] at h'
  obtain ⟨e1,e2,e3⟩ := h'
  subst e1 e3
  have h1 := heap_setCell_same _ g (k * 4 + p) _ _ x hg
  refine ⟨by rw [flat_len],.inr ⟨g,cap,_,by rw [List.length_set,e2],hb,h1,by rw [List.length_set]; exact hnc,hcm,by simpa using hcs,?_⟩⟩
  rw [List.length_set,flat_cell r p x hp M k hk hr]
  simp only [Array.toList_setIfInBounds]
  rw [← htake]
  simp only [List.take_set]
theorem own_block {w : World} {B g n : Nat} {M : List T} (h : Block w g M) (hB : B ≤ g) (hn : n = M.length) (hm : n ≤ 100000) : Own w B (.slice (some ⟨g,0,none⟩) n n) M := by
 subst hn
 exact ⟨by rw [flat_len],.inr ⟨g,M.length,_,rfl,hB,h,Nat.le_refl _,by have : maxLen = 9223372036854775807 := rfl; omega,by rw [List.size_toArray,flat_len],List.take_of_length_le (by show (M.flatMap rv).length ≤ _; rw [flat_len]; exact Nat.le_refl _)⟩⟩
end Sr
theorem unI_0 {rs : List Sr.T} {s : ByteArray} (h : Se.unE rs s = 0) : unI rs s = (Se.ix s rs : Nat) := if_pos h
set_option maxHeartbeats 2000000 in
theorem ser_shut (rs : List Sr.T) (s : ByteArray) (ao : Option Addr) (n cap : Nat) (w : World) (hR : Sr.Ls w ao n cap rs) :
  Calls Tryz.prog 65 #[.slice ao n cap,.string s] w (ShutE w rs s) := by
 have HR := Lib.hid hR
 have HN := Lib.hid hR.len
 have hcap := hR.reach
 have hfit := hR.fits
 clear hR
 go_enter Tryz.func65,Tryz.ntmps65
 go_wp2_with fail
 refine (ser_unshut rs s ao n cap _ _ (Below.refl _ _) HR.out).mono ?_
 rintro e w1 ⟨rfl,b1⟩
 have HB1 := Lib.hid b1
 clear b1
 by_cases hE : Se.unE rs s = 0
 ·
  have HE := Lib.hid hE
  obtain ⟨hT,hlt,_⟩ := Se.un_0 hE
  have hn8 : n ≤ 8 := by have := ((Se.right_iff rs).1 hT).1; have := HN.out; omega
  have HLt := Lib.hid hlt
  have HO := Lib.hid (Se.own_get hlt)
  rw [hE,unI_0 hE]
  have hin : Se.ix s rs < n := by have := HN.out; omega
  obtain ⟨i,hi⟩ : ∃ i,Se.ix s rs = i := ⟨_,rfl⟩
  have HIx := Lib.hid hi
  rw [hi] at hin HO
  rw [hi]
  clear hi hE hT hlt
  go_wp2_with fail
  refine (ser_clone rs ao n cap _ (HR.out.below HB1.out) (by omega)).mono ?_
  rintro e w2 ⟨rfl,k2,b2⟩
  have HOw := Lib.hid (Sr.own_block (B := w1.heap.size) k2 (Nat.le_refl _) HN.out (by omega))
  have HB2 := Lib.hid (And.intro (bchain HB1.out b2) HB1.out.size)
  have hkl : i < rs.length := by have := HN.out; omega
  obtain ⟨hAt,hfz,hge⟩ := Sr.own_at HOw.out i hkl
  obtain ⟨c0,c1,c2,c3⟩ := hAt
  clear k2 b2 c0 c1 c2 hge
  generalize w1.heap.size = g at *
  have hf3 := hfz (i * 4 + 3)
  clear hfz
  go_wp2_with fail
  go_ret2
  refine ⟨_,by rw [HE.out]; rfl,?_,bset HB2.out.1 HB2.out.2 _ _⟩
  rw [Se.shut_yes HE.out,HIx.out]
  refine Sr.own_mono (Sr.own_cell HOw.out i 3 hkl (by omega) (.bool true) _ ?_) HB2.out.2
  have hx : rs[i] = Se.own rs s := Option.some.inj ((List.getElem?_eq_getElem hkl).symm.trans HO.out)
  rw [hx]
  rfl
 ·
  have HP := Lib.hid (Se.shut_no hE)
  obtain ⟨e,he⟩ : ∃ e,Se.unE rs s = e := ⟨_,rfl⟩
  have HE := Lib.hid he
  have hne : (e != 0) = true := bne_iff_ne.2 (he ▸ hE)
  rw [he]
  clear he hE
  go_wp2_with fail
  go_ret2
  exact ⟨_,by rw [HE.out]; rfl,by rw [HP.out]; exact Sr.own_nil _ _,HB1.out⟩
set_option maxHeartbeats 2000000 in
theorem ser_take (rs : List Sr.T) (s : ByteArray) (ao : Option Addr) (n cap : Nat) (w : World) (hR : Sr.Ls w ao n cap rs) :
  Calls Tryz.prog 123 #[.slice ao n cap,.string s] w (TakeE w rs s) := by
 have HR := Lib.hid hR
 have HN := Lib.hid hR.len
 have hcap := hR.reach
 have hfit := hR.fits
 clear hR
 go_enter Tryz.func123,Tryz.ntmps123
 go_wp2_with fail
 refine (ser_unshut rs s ao n cap _ _ (Below.refl _ _) HR.out).mono ?_
 rintro e w1 ⟨rfl,b1⟩
 have HB1 := Lib.hid b1
 clear b1
 by_cases hE : Se.unE rs s = 0
 ·
  have HE := Lib.hid hE
  obtain ⟨hT,hlt,_⟩ := Se.un_0 hE
  have hn8 : n ≤ 8 := by have := ((Se.right_iff rs).1 hT).1; have := HN.out; omega
  have hO := Se.own_at hlt
  have HO := Lib.hid (Se.own_get hlt)
  rw [hE,unI_0 hE]
  have hin : Se.ix s rs < n := by have := HN.out; omega
  obtain ⟨b,off,rfl⟩ := HR.out.at (by omega)
  have hrow := (HR.out.row (Se.ix s rs) hlt).below HB1.out
  rw [← hO] at hrow
  obtain ⟨r,hr⟩ : ∃ r,Se.own rs s = r := ⟨_,rfl⟩
  have HRr := Lib.hid hr
  have hsd := Se.sound_iff.1 (((Se.right_iff rs).1 hT).2.1 _ (Se.own_mem hlt))
  rw [hr] at hrow hsd
  have hlm := Se.lim_iff.1 hsd.2.1
  have hnx := hsd.2.2
  obtain ⟨i,hi⟩ : ∃ i,Se.ix s rs = i := ⟨_,rfl⟩
  have HIx := Lib.hid hi
  rw [hi] at hin hrow HO
  rw [hi]
  obtain ⟨g0,g1,g2,g3⟩ := hrow
  clear hi hE hT hlt hO hr hsd
  by_cases hf : r.limit < r.next
  ·
   have HP := Lib.hid (Se.take_full HE.out (by rw [HRr.out]; exact hf))
   go_wp2_with fail
   exact bodyPost_ret (by simp [results,Tryz.results123,go_sem]; rfl) rfl ⟨_,by rw [HP.out.1,HP.out.2.1],by rw [HP.out.2.2]; exact Sr.own_nil _ _,HB1.out⟩
  ·
   have HP := Lib.hid (Se.take_ok HE.out (by rw [HRr.out]; exact hf))
   go_wp2_with fail
   refine (ser_clone rs (some ⟨b,off,none⟩) n cap _ (HR.out.below HB1.out) (by omega)).mono ?_
   rintro e w2 ⟨rfl,k2,b2⟩
   have HOw := Lib.hid (Sr.own_block (B := w1.heap.size) k2 (Nat.le_refl _) HN.out (by omega))
   have HB2 := Lib.hid (And.intro (bchain HB1.out b2) HB1.out.size)
   have hkl : i < rs.length := by have := HN.out; omega
   obtain ⟨hAt,hfz,hge⟩ := Sr.own_at HOw.out i hkl
   obtain ⟨c0,c1,c2,c3⟩ := hAt
   clear k2 b2 c0 c2 c3 hge g0 g1 g2 g3
   generalize w1.heap.size = g at *
   have hf3 := hfz (i * 4 + 1)
   clear hfz
   go_wp2_with fail
   refine bodyPost_ret (by simp [results,Tryz.results123,go_sem]; rfl) rfl ⟨_,by rw [HP.out.1,HP.out.2.1,HRr.out],?_,bset HB2.out.1 HB2.out.2 _ _⟩
   rw [HP.out.2.2,HIx.out]
   refine Sr.own_mono (Sr.own_cell HOw.out i 1 hkl (by omega) _ _ ?_) HB2.out.2
   have hx : rs[i] = r := (Option.some.inj ((List.getElem?_eq_getElem hkl).symm.trans HO.out)).trans HRr.out
   rw [hx,HRr.out]
   rfl
 ·
  have HP := Lib.hid (Se.take_un hE)
  obtain ⟨e,he⟩ : ∃ e,Se.unE rs s = e := ⟨_,rfl⟩
  have HE := Lib.hid he
  have hne : (e != 0) = true := bne_iff_ne.2 (he ▸ hE)
  rw [he]
  clear he hE
  go_wp2_with fail
  exact bodyPost_ret (by simp [results,Tryz.results123,go_sem]; rfl) rfl ⟨_,by rw [HP.out.1,HP.out.2.1,HE.out],by rw [HP.out.2.2]; exact Sr.own_nil _ _,HB1.out⟩
theorem frz (w : World) (r : Sr.T) (o : Nat) : (Sr.box w r).frozen? ⟨w.heap.size,o,none⟩ = false := frozen_of_row (Sr.box w r) w.heap.size o _ _ (heap_alloc_new w _)
set_option maxHeartbeats 2000000 in
theorem ser_find (rs : List Sr.T) (s : ByteArray) (ao : Option Addr) (n cap : Nat) (w0 w : World) (hw : Below w0.heap.size w0 w) (hR : Sr.Ls w ao n cap rs) :
  Calls Tryz.prog 101 #[.slice ao n cap,.string s] w fun e w' => e = .returned (.tuple #[Sr.val (Se.own rs s),.bool (decide (Se.ix s rs < rs.length))]) ∧ Below w0.heap.size w0 w' := by
 have HW := Lib.hid hw
 have HR := Lib.hid hR
 have HN := Lib.hid hR.len
 have hcap := hR.reach
 have hfit := hR.fits
 clear hR hw
 go_enter Tryz.func101,Tryz.ntmps101
 go_wp2_with fail
 refine (ser_index rs s ao n cap (Sr.box w Sr.zero) _ (Below.refl _ _) (HR.out.below (Sr.below_own w Sr.zero))).mono ?_
 rintro e w1 ⟨rfl,b1⟩
 have hC := (Sr.c_box w Sr.zero).below b1
 unfold Sr.C at hC
 obtain ⟨a0,a1,a2,a3⟩ := hC
 have hsz : w.heap.size < (Sr.box w Sr.zero).heap.size := by rw [Sr.box_size]; omega
 have f0 := ((bcell b1).2 w.heap.size 0 hsz).trans (frz w Sr.zero 0)
 have f1 := ((bcell b1).2 w.heap.size 1 hsz).trans (frz w Sr.zero 1)
 have f2 := ((bcell b1).2 w.heap.size 2 hsz).trans (frz w Sr.zero 2)
 have f3 := ((bcell b1).2 w.heap.size 3 hsz).trans (frz w Sr.zero 3)
 have hB1 := bchain (Sr.below_own w Sr.zero) b1
 have HB1 := Lib.hid (And.intro (bchain HW.out hB1) HW.out.size)
 have HBw := Lib.hid hB1
 clear b1 hsz hB1
 by_cases hlt : Se.ix s rs < rs.length
 ·
  have hO := Se.own_at hlt
  have hin : Se.ix s rs < n := by have := HN.out; omega
  obtain ⟨b,off,rfl⟩ := HR.out.at (by omega)
  have hrow := (HR.out.row (Se.ix s rs) hlt).below HBw.out
  rw [← hO] at hrow
  have HD := Lib.hid (decide_eq_true hlt)
  obtain ⟨r,hr⟩ : ∃ r,Se.own rs s = r := ⟨_,rfl⟩
  rw [hr] at hrow
  have HRr := Lib.hid hr
  obtain ⟨i,hi⟩ : ∃ i,Se.ix s rs = i := ⟨_,rfl⟩
  rw [hi] at hrow hin
  rw [hi]
  obtain ⟨g0,g1,g2,g3⟩ := hrow
  have hq : ((i : Int) == (n : Int)) = false := beq_eq_false_iff_ne.2 (by omega)
  clear hlt hi hr hO
  go_wp2_with fail
  exact bodyPost_ret (v := .tuple #[Sr.val r,.bool true]) (by simp [results,Sr.val,Tryz.results101,go_sem,a0,a1,a2,a3]) rfl ⟨by rw [HRr.out,HD.out],bset (bset (bset (bset HB1.out.1 HB1.out.2 _ _) HB1.out.2 _ _) HB1.out.2 _ _) HB1.out.2 _ _⟩
 ·
  have hO := Se.own_zero hlt
  have HRr := Lib.hid hO
  have HD := Lib.hid (decide_eq_false hlt)
  have hix : Se.ix s rs = n := by have := Se.ix_le s rs; have := HN.out; omega
  rw [hix]
  have hq : ((n : Int) == (n : Int)) = true := beq_self_eq_true _
  clear hlt hO hix
  go_wp2_with fail
  exact bodyPost_ret (v := .tuple #[Sr.val Sr.zero,.bool false]) (by simp [results,Sr.val,Sr.zero,Tryz.results101,go_sem,a0,a1,a2,a3]; rfl) rfl ⟨by rw [HRr.out,HD.out],bset (bset (bset (bset HB1.out.1 HB1.out.2 _ _) HB1.out.2 _ _) HB1.out.2 _ _) HB1.out.2 _ _⟩
end Go.Proofs.YtjpfpojbalepeabGreat
namespace Go.Proofs.YtjpfpojbalepeabGreat.Bl
open Vt (Rt)
theorem fit_1 : Fit 1 := ⟨by omega,by omega⟩
theorem fit_0 : Fit 0 := ⟨by omega,by omega⟩
theorem open_short {L : List Sr.T} {s : ByteArray} {m : Int} (hL : ∀ r ∈ L,Sr.Short r) (hs : s.size ≤ 140737488355328) (hm : Fit m) : ∀ r ∈ Se.openR L s m,Sr.Short r := by
 intro r hr
 unfold Se.openR at hr
 split at hr
 ·
  rcases Se.openL_mem.1 hr with rfl | hr
  · exact ⟨hs,fit_1,hm⟩
  · exact hL r hr
 · cases hr
theorem shut_short {L : List Sr.T} {s : ByteArray} (hL : ∀ r ∈ L,Sr.Short r) : ∀ r ∈ Se.shutR L s,Sr.Short r := by
 intro r hr
 unfold Se.shutR at hr
 split at hr
 ·
  rename_i h
  rcases Se.set_mem (Se.un_0 h).2.1 r hr with rfl | hr
  ·
   have := hL _ (Se.own_mem (Se.un_0 h).2.1)
   exact ⟨this.1,this.2.1,this.2.2⟩
  · exact hL r hr
 · cases hr
theorem take_short {L : List Sr.T} {s : ByteArray} (hL : ∀ r ∈ L,Sr.Short r) : ∀ r ∈ Se.takeR L s,Sr.Short r := by
 intro r hr
 by_cases h : Se.unE L s = 0
 ·
  by_cases k : (Se.own L s).limit < (Se.own L s).next
  ·
   rw [(Se.take_full h k).2.2] at hr
   cases hr
  ·
   rw [(Se.take_ok h k).2.2] at hr
   obtain ⟨h1,h2,h3⟩ := Se.un_0 h
   rcases Se.set_mem h2 r hr with rfl | hr
   ·
    have := hL _ (Se.own_mem h2)
    obtain ⟨k1,k2,k3,k4⟩ := Se.sound_iff.1 (((Se.right_iff L).1 h1).2.1 _ (Se.own_mem h2))
    have k5 := Se.lim_iff.1 k2
    refine ⟨this.1,?_,this.2.2⟩
    show -9223372036854775808 ≤ (Se.own L s).next + 1 ∧ (Se.own L s).next + 1 ≤ 9223372036854775807
    omega
   · exact hL r hr
 ·
  rw [(Se.take_un h).2.2] at hr
  cases hr
theorem take_fit {L : List Sr.T} {s : ByteArray} (hL : ∀ r ∈ L,Sr.Short r) : Fit (Se.takeN L s) := by
 unfold Se.takeN
 split
 ·
  rename_i h
  have h1 : Se.unE L s = 0 := by
   unfold Se.takeE at h
   split at h
   ·
    rename_i q
    exact absurd h q
   ·
    rename_i q
    exact Decidable.not_not.1 q
  exact (hL _ (Se.own_mem (Se.un_0 h1).2.1)).2.1
 · exact fit_0
theorem put_short {L : List Rt} {r : Rt} (hL : ∀ x ∈ L,Short x) (hr : Short r) : ∀ x ∈ Vt.putR L r,Short x := by
 intro x hx
 unfold Vt.putR at hx
 split at hx
 ·
  unfold Vt.putL at hx
  rcases List.mem_append.1 hx with h | h
  · exact hL x (List.mem_of_mem_take h)
  ·
   rcases List.mem_cons.1 h with rfl | h
   · exact hr
   · exact hL x (List.mem_of_mem_drop h)
 · cases hx
def levyS (s : Bl.St) (r : Rt) : Bl.St := if Vt.putE s.tab r = 0 then ⟨Vt.putR s.tab r,s.ser,s.post,s.book,s.sess,s.next⟩ else s
theorem levy_ok {s : Bl.St} {r : Rt} (h : Vt.putE s.tab r = 0) : levyS s r = ⟨Vt.putR s.tab r,s.ser,s.post,s.book,s.sess,s.next⟩ := if_pos h
theorem levy_no {s : Bl.St} {r : Rt} (h : Vt.putE s.tab r ≠ 0) : levyS s r = s := if_neg h
def leaveS (s : Bl.St) (i : Int) : Bl.St := if Sp.leaveE s.sess i = 0 then ⟨s.tab,s.ser,s.post,s.book,Sp.leaveR s.sess i,s.next⟩ else s
theorem leave_ok {s : Bl.St} {i : Int} (h : Sp.leaveE s.sess i = 0) : leaveS s i = ⟨s.tab,s.ser,s.post,s.book,Sp.leaveR s.sess i,s.next⟩ := if_pos h
theorem leave_no {s : Bl.St} {i : Int} (h : Sp.leaveE s.sess i ≠ 0) : leaveS s i = s := if_neg h
def keepS (s : Bl.St) (i q : Int) (r : Rp.T) : Bl.St := if Sp.keepE s.sess i q = 0 then ⟨s.tab,s.ser,s.post,s.book,Sp.keepR s.sess i q r.why r.num r.gross,s.next⟩ else s
theorem keep_ok {s : Bl.St} {i q : Int} {r : Rp.T} (h : Sp.keepE s.sess i q = 0) : keepS s i q r = ⟨s.tab,s.ser,s.post,s.book,Sp.keepR s.sess i q r.why r.num r.gross,s.next⟩ := if_pos h
theorem keep_no {s : Bl.St} {i q : Int} {r : Rp.T} (h : Sp.keepE s.sess i q ≠ 0) : keepS s i q r = s := if_neg h
end Go.Proofs.YtjpfpojbalepeabGreat.Bl
set_option maxRecDepth 100000
set_option linter.unusedVariables false
namespace Go.Proofs.YtjpfpojbalepeabGreat
open Go.RowKit
open Mem
open Go.Sort (grow)
def Bl.OutE (P : Nat → Prop) (w : World) (s : Bl.St) (r : Rp.T) (e : Ending) (w' : World) : Prop := ∃ h : Bl.Sv,e = .returned (.tuple #[h.val,Rp.val r]) ∧ Bl.Lp (nw P w) w' h s ∧ Below w.heap.size w w'
def Bl.ListE (w : World) (h : Bl.Sv) (l : Sl) (n : Int) (e : Ending) (w' : World) : Prop := ((n = 0 ∧ e = .returned (.tuple #[Bl.Sv.val ⟨h.tab,l,h.post,h.book,h.sess,h.next⟩,Rp.val ⟨0,0,0⟩])) ∨ (n ≠ 0 ∧ e = .returned (.tuple #[h.val,Rp.val ⟨n,0,0⟩]))) ∧ Below w.heap.size w w'
set_option maxHeartbeats 4000000 in
theorem bil_list (h : Bl.Sv) (l : Sl) (n : Int) (w : World) :
  Calls Tryz.prog 64 #[h.val,.slice l.ao l.n l.cap,.int .i64 n] w (Bl.ListE w h l n) := by
 obtain ⟨U,hU,hA,hF⟩ := Bl.fr3 w h
 have HA := Lib.hid hA
 have HF := Lib.hid hF
 by_cases h0 : n = 0
 ·
  subst h0
  obtain ⟨x0,x1,x2,x3,x4,x5⟩ := hA.cells
  have z1 := hA.frozen 1
  have hA2 : Bl.At (U.setCell ⟨w.heap.size,1,none⟩ (.slice l.ao l.n l.cap)) w.heap.size ⟨h.tab,l,h.post,h.book,h.sess,h.next⟩ := (Bl.set_heap hA 1 _).trans rfl
  have hF2 : Bl.Fr w (U.setCell ⟨w.heap.size,1,none⟩ (.slice l.ao l.n l.cap)) (w.heap.size + 1) (w.heap.size + 1 + 1) := hF.set (Nat.le_refl _) (by omega) _ _
  have HF2 := Lib.hid hF2
  have hS := hF2.st
  have hR := hF2.rpS ⟨h.tab,l,h.post,h.book,h.sess,h.next⟩
  clear hA hF hF2
  unfold Bl.Sv.val Bl.sl
  go_enter Tryz.func64,Tryz.ntmps64
  go_wp2_with (first | ((with_reducible apply Bl.wpl_load hA2); rfl; rfl; rfl) | ((with_reducible apply Bl.wpl_put (h := ⟨h.tab,l,h.post,h.book,h.sess,h.next⟩) hS); rfl; rfl; rfl; rfl) | ((with_reducible apply Rp.wpl_put (r := ⟨0,0,0⟩) hR); rfl; rfl; rfl; rfl))
  exact HF2.out.ret Tryz.results64 ⟨h.tab,l,h.post,h.book,h.sess,h.next⟩ ⟨0,0,0⟩ rfl rfl rfl fun b => ⟨.inl ⟨rfl,rfl⟩,b⟩
 ·
  have hq : (n == 0) = false := beq_eq_false_iff_ne.2 h0
  clear hA hF
  unfold Bl.Sv.val Bl.sl
  go_enter Tryz.func64,Tryz.ntmps64
  go_wp2_with fail
  refine Bl.wp_refuse (w.heap.size) (w.heap.size + 1) (w.heap.size + 1 + 1) h Bl.zsv ⟨0,0,0⟩ (n) HA.out HF.out.st HF.out.rp (by omega) rfl rfl rfl rfl rfl rfl rfl rfl rfl rfl rfl rfl ?_ ?_ ?_ ?_ ?_ ?_ ?_ ?_ ?_ ?_ ?_
  · kernel_rfl
  · exact fun _ _ _ h => h
  · exact fun _ _ _ h => h
  · rfl
  · rfl
  · rfl
  · rfl
  · rfl
  · rfl
  · rfl
  intro w9 b9
  go_wp2_with fail
  exact (HF.out.below b9).ret Tryz.results64 h ⟨n,0,0⟩ rfl rfl rfl fun b => ⟨.inr ⟨h0,rfl⟩,b⟩
set_option maxHeartbeats 4000000 in
theorem bil_leave (P : Nat → Prop) (s : Bl.St) (h : Bl.Sv) (i : Int) (w : World) (hL : Bl.Lp P w h s) (hi : Fit i) :
  Calls Tryz.prog 69 #[h.val,.int .i64 i] w (Bl.OutE P w (Bl.leaveS s i) ⟨Sp.leaveE s.sess i,0,0⟩) := by
 have HL := Lib.hid hL
 have HH := Lib.hid hi
 obtain ⟨U,hU,hA,hF⟩ := Bl.fr3 w h
 have HA := Lib.hid hA
 have HF := Lib.hid hF
 have HUs := Lib.hid hA.lt
 obtain ⟨x0,x1,x2,x3,x4,x5⟩ := hA.cells
 clear hA hF hL hi
 unfold Bl.Sv.val Bl.sl
 go_enter Tryz.func69,Tryz.ntmps69
 go_wp2_with fail
 clear hU
 refine (ses_leave s.sess i h.sess.ao h.sess.n h.sess.cap _ (HL.out.sess.below HF.out.bel) HH.out).mono ?_
 rintro e w1 ⟨v,rfl,o1,b1⟩
 have hA1 := HA.out.below b1
 have HA1 := Lib.hid hA1
 have HF1 := Lib.hid (HF.out.below b1)
 have HO1 := Lib.hid o1
 have HB1 := Lib.hid b1
 obtain ⟨y0,y1,y2,y3,y4,y5⟩ := hA1.cells
 have z := hA1.frozen 4
 clear x0 x1 x2 x3 x4 x5 o1 b1
 by_cases h0 : Sp.leaveE s.sess i = 0
 ·
  have HP := Lib.hid (Bl.leave_ok (s := s) h0)
  have HE := Lib.hid h0
  rw [h0]
  clear h0
  obtain ⟨L,hLr⟩ : ∃ L,Sp.leaveR s.sess i = L := ⟨_,rfl⟩
  have HSh := Lib.hid (Sp.leave_short (i := i) HL.out.sess.short)
  rw [hLr] at HO1 HSh HP
  clear hLr
  obtain ⟨bo,bc,rfl,l1,i1⟩ := Sn.own_ls HO1.out HSh.out
  obtain ⟨n1,hn1⟩ : ∃ n1,L.length = n1 := ⟨_,rfl⟩
  rw [hn1] at l1 ⊢
  clear hn1
  have HLs := Lib.hid l1
  have HI := Lib.hid (inA_own (n := n1) i1)
  clear l1 i1
  have hA2 : Bl.At (w1.setCell ⟨w.heap.size,4,none⟩ (.slice bo n1 bc)) w.heap.size ⟨h.tab,h.ser,h.post,h.book,⟨bo,n1,bc⟩,h.next⟩ := (Bl.set_heap hA1 4 _).trans rfl
  have hF2 := HF1.out.set (g := w.heap.size) (Nat.le_refl _) (by omega) 4 (.slice bo n1 bc)
  have HF2 := Lib.hid hF2
  have hS := hF2.st
  have hR := hF2.rpS ⟨h.tab,h.ser,h.post,h.book,⟨bo,n1,bc⟩,h.next⟩
  clear hA1 hF2
  go_wp2_with (first | ((with_reducible apply Bl.wpl_load hA2); rfl; rfl; rfl) | ((with_reducible apply Bl.wpl_put (h := ⟨h.tab,h.ser,h.post,h.book,⟨bo,n1,bc⟩,h.next⟩) hS); rfl; rfl; rfl; rfl) | ((with_reducible apply Rp.wpl_put (r := ⟨0,0,0⟩) hR); rfl; rfl; rfl; rfl))
  refine HF2.out.ret Tryz.results69 ⟨h.tab,h.ser,h.post,h.book,⟨bo,n1,bc⟩,h.next⟩ ⟨0,0,0⟩ rfl rfl rfl fun b => ⟨_,by rw [HE.out],?_,b⟩
  rw [HP.out]
  have hl := (HL.out.below b).wide w
  have hip := HI.out.nw P (w := w) (by have := HUs.out; omega)
  have hk : Kp U.heap.size w1 (Bl.out2 (w1.setCell ⟨w.heap.size,4,none⟩ (.slice bo n1 bc)) (w.heap.size + 1) (w.heap.size + 1 + 1) ⟨h.tab,h.ser,h.post,h.book,⟨bo,n1,bc⟩,h.next⟩ ⟨0,0,0⟩) := (Kp.set w1 HUs.out _ _).trans (Bl.kp_out2 _ (by have := HF.out.st.lt; omega) (by have := HF.out.rp.lt; omega) _ _)
  exact ⟨hl.tab,hl.ser,hl.post,hl.book,HLs.out.kp HI.out hk,hl.next,hl.fit,hl.ptab,hl.pser,hl.ppost,hl.pbook,hip⟩
 ·
  have hq : (Sp.leaveE s.sess i == 0) = false := beq_eq_false_iff_ne.2 h0
  have HP := Lib.hid (Bl.leave_no (s := s) h0)
  clear hA1
  obtain ⟨E,hE⟩ : ∃ E,Sp.leaveE s.sess i = E := ⟨_,rfl⟩
  rw [hE] at hq h0 ⊢
  have HE := Lib.hid hE
  clear hE HO1
  go_wp2_with fail
  refine Bl.wp_refuse (w.heap.size) (w.heap.size + 1) (w.heap.size + 1 + 1) h Bl.zsv ⟨0,0,0⟩ (E) HA1.out HF1.out.st HF1.out.rp (by omega) rfl rfl rfl rfl rfl rfl rfl rfl rfl rfl rfl rfl ?_ ?_ ?_ ?_ ?_ ?_ ?_ ?_ ?_ ?_ ?_
  · kernel_rfl
  · exact fun _ _ _ h => h
  · exact fun _ _ _ h => h
  · rfl
  · rfl
  · rfl
  · rfl
  · rfl
  · rfl
  · rfl
  intro w9 b9
  go_wp2_with fail
  exact (HF1.out.below b9).ret Tryz.results69 h ⟨E,0,0⟩ rfl rfl rfl fun b => ⟨_,by rw [HE.out],by rw [HP.out]; exact (HL.out.below b).wide w,b⟩
set_option maxHeartbeats 4000000 in
theorem bil_levy (P : Nat → Prop) (s : Bl.St) (h : Bl.Sv) (r : Vt.Rt) (w : World) (hL : Bl.Lp P w h s) (hi : Short r) :
  Calls Tryz.prog 66 #[h.val,rowV r] w (Bl.OutE P w (Bl.levyS s r) ⟨Vt.putE s.tab r,0,0⟩) := by
 have HL := Lib.hid hL
 have HH := Lib.hid hi
 obtain ⟨U,hU,hA,hF,hBk⟩ := Bl.fr4 w h (.cells #[.string r.cat,.int .i64 r.y,.int .i64 r.m,.int .i64 r.d,.int .i64 r.bp] 26)
 have c0 : U.cell? ⟨w.heap.size + 1,0,none⟩ = some (.string r.cat) := by rw [cell_of_row U _ 0 _ _ _ hBk]; rfl
 have c1 : U.cell? ⟨w.heap.size + 1,1,none⟩ = some (.int .i64 r.y) := by rw [cell_of_row U _ 1 _ _ _ hBk]; rfl
 have c2 : U.cell? ⟨w.heap.size + 1,2,none⟩ = some (.int .i64 r.m) := by rw [cell_of_row U _ 2 _ _ _ hBk]; rfl
 have c3 : U.cell? ⟨w.heap.size + 1,3,none⟩ = some (.int .i64 r.d) := by rw [cell_of_row U _ 3 _ _ _ hBk]; rfl
 have c4 : U.cell? ⟨w.heap.size + 1,4,none⟩ = some (.int .i64 r.bp) := by rw [cell_of_row U _ 4 _ _ _ hBk]; rfl
 clear hBk
 have HA := Lib.hid hA
 have HF := Lib.hid hF
 have HUs := Lib.hid hA.lt
 obtain ⟨x0,x1,x2,x3,x4,x5⟩ := hA.cells
 clear hA hF hL hi
 unfold Bl.Sv.val Bl.sl rowV
 go_enter Tryz.func66,Tryz.ntmps66
 go_wp2_with fail
 clear hU c0 c1 c2 c3 c4
 refine (vat_put s.tab h.tab.ao h.tab.n h.tab.cap r _ (HL.out.tab.below HF.out.bel) HH.out).mono ?_
 rintro e w1 ⟨v,rfl,o1,b1⟩
 have hA1 := HA.out.below b1
 have HA1 := Lib.hid hA1
 have HF1 := Lib.hid (HF.out.below b1)
 have HO1 := Lib.hid o1
 have HB1 := Lib.hid b1
 obtain ⟨y0,y1,y2,y3,y4,y5⟩ := hA1.cells
 have z := hA1.frozen 0
 clear x0 x1 x2 x3 x4 x5 o1 b1
 by_cases h0 : Vt.putE s.tab r = 0
 ·
  have HP := Lib.hid (Bl.levy_ok (s := s) h0)
  have HE := Lib.hid h0
  rw [h0]
  clear h0
  obtain ⟨L,hLr⟩ : ∃ L,Vt.putR s.tab r = L := ⟨_,rfl⟩
  have HSh := Lib.hid (Bl.put_short HL.out.tab.short HH.out)
  rw [hLr] at HO1 HSh HP
  clear hLr
  obtain ⟨bo,bc,rfl,l1,i1⟩ := own_rts HO1.out HSh.out
  obtain ⟨n1,hn1⟩ : ∃ n1,L.length = n1 := ⟨_,rfl⟩
  rw [hn1] at l1 ⊢
  clear hn1
  have HLs := Lib.hid l1
  have HI := Lib.hid (inA_own (n := n1) i1)
  clear l1 i1
  have hA2 : Bl.At (w1.setCell ⟨w.heap.size,0,none⟩ (.slice bo n1 bc)) w.heap.size ⟨⟨bo,n1,bc⟩,h.ser,h.post,h.book,h.sess,h.next⟩ := (Bl.set_heap hA1 0 _).trans rfl
  have hF2 := HF1.out.set (g := w.heap.size) (Nat.le_refl _) (by omega) 0 (.slice bo n1 bc)
  have HF2 := Lib.hid hF2
  have hS := hF2.st
  have hR := hF2.rpS ⟨⟨bo,n1,bc⟩,h.ser,h.post,h.book,h.sess,h.next⟩
  clear hA1 hF2
  go_wp2_with (first | ((with_reducible apply Bl.wpl_load hA2); rfl; rfl; rfl) | ((with_reducible apply Bl.wpl_put (h := ⟨⟨bo,n1,bc⟩,h.ser,h.post,h.book,h.sess,h.next⟩) hS); rfl; rfl; rfl; rfl) | ((with_reducible apply Rp.wpl_put (r := ⟨0,0,0⟩) hR); rfl; rfl; rfl; rfl))
  refine HF2.out.ret Tryz.results66 ⟨⟨bo,n1,bc⟩,h.ser,h.post,h.book,h.sess,h.next⟩ ⟨0,0,0⟩ rfl rfl rfl fun b => ⟨_,by rw [HE.out],?_,b⟩
  rw [HP.out]
  have hl := (HL.out.below b).wide w
  have hip := HI.out.nw P (w := w) (by have := HUs.out; omega)
  have hk : Kp U.heap.size w1 (Bl.out2 (w1.setCell ⟨w.heap.size,0,none⟩ (.slice bo n1 bc)) (w.heap.size + 1 + 1) (w.heap.size + 1 + 1 + 1) ⟨⟨bo,n1,bc⟩,h.ser,h.post,h.book,h.sess,h.next⟩ ⟨0,0,0⟩) := (Kp.set w1 HUs.out _ _).trans (Bl.kp_out2 _ (by have := HF.out.st.lt; omega) (by have := HF.out.rp.lt; omega) _ _)
  exact ⟨HLs.out.kp HI.out hk,hl.ser,hl.post,hl.book,hl.sess,hl.next,hl.fit,hip,hl.pser,hl.ppost,hl.pbook,hl.psess⟩
 ·
  have hq : (Vt.putE s.tab r == 0) = false := beq_eq_false_iff_ne.2 h0
  have HP := Lib.hid (Bl.levy_no (s := s) h0)
  clear hA1
  obtain ⟨E,hE⟩ : ∃ E,Vt.putE s.tab r = E := ⟨_,rfl⟩
  rw [hE] at hq h0 ⊢
  have HE := Lib.hid hE
  clear hE HO1
  go_wp2_with fail
  refine Bl.wp_refuse (w.heap.size) (w.heap.size + 1 + 1) (w.heap.size + 1 + 1 + 1) h Bl.zsv ⟨0,0,0⟩ (E) HA1.out HF1.out.st HF1.out.rp (by omega) rfl rfl rfl rfl rfl rfl rfl rfl rfl rfl rfl rfl ?_ ?_ ?_ ?_ ?_ ?_ ?_ ?_ ?_ ?_ ?_
  · kernel_rfl
  · exact fun _ _ _ h => h
  · exact fun _ _ _ h => h
  · rfl
  · rfl
  · rfl
  · rfl
  · rfl
  · rfl
  · rfl
  intro w9 b9
  go_wp2_with fail
  exact (HF1.out.below b9).ret Tryz.results66 h ⟨E,0,0⟩ rfl rfl rfl fun b => ⟨_,by rw [HE.out],by rw [HP.out]; exact (HL.out.below b).wide w,b⟩
end Go.Proofs.YtjpfpojbalepeabGreat
namespace Go.Proofs.YtjpfpojbalepeabGreat
open Go.RowKit
open Mem
open Go.Sort (grow)
theorem Rp.Bk.cells {u : World} {g : Nat} {r : Rp.T} (h : Rp.Bk u g r) : u.cell? ⟨g,0,none⟩ = some (.int .i64 r.why) ∧ u.cell? ⟨g,1,none⟩ = some (.int .i64 r.num) ∧ u.cell? ⟨g,2,none⟩ = some (.int .i64 r.gross) := by
 refine ⟨?_,?_,?_⟩
 all_goals
  rw [cell_of_row u g _ _ _ _ h]
  rfl
theorem Rp.Bk.frozen {u : World} {g : Nat} {r : Rp.T} (h : Rp.Bk u g r) (k : Nat) : u.frozen? ⟨g,k,none⟩ = false := frozen_of_row u g k _ _ h
def Bl.KeepE (P : Nat → Prop) (w : World) (s : Bl.St) (e : Ending) (w' : World) : Prop := ∃ h : Bl.Sv,e = .returned h.val ∧ Bl.Lp (nw P w) w' h s ∧ Below w.heap.size w w'
set_option maxHeartbeats 4000000 in
theorem bil_keep (P : Nat → Prop) (s : Bl.St) (h : Bl.Sv) (r : Ca.T) (q : Rp.T) (w : World) (hL : Bl.Lp P w h s) (h1 : Fit r.sess) (h2 : Fit r.seq) (hq : Rp.Short q) :
  Calls Tryz.prog 39 #[h.val,Ca.val r,Rp.val q] w (Bl.KeepE P w (Bl.keepS s r.sess r.seq q)) := by
 have HL := Lib.hid hL
 have HH := Lib.hid (And.intro h1 (And.intro h2 hq))
 obtain ⟨U,hU,hB,k0,k1,k2,k3,hs⟩ := Bl.al4 w (.cells #[.slice h.tab.ao h.tab.n h.tab.cap,.slice h.ser.ao h.ser.n h.ser.cap,.slice h.post.ao h.post.n h.post.cap,.slice h.book.ao h.book.n h.book.cap,.slice h.sess.ao h.sess.n h.sess.cap,.int .i64 h.next] 40) (Ca.block r) (.cells #[.int .i64 q.why,.int .i64 q.num,.int .i64 q.gross] 48) (.cells #[.slice none 0 0,.slice none 0 0,.slice none 0 0,.slice none 0 0,.slice none 0 0,.int .i64 0] 40)
 have hA : Bl.At U w.heap.size h := k0
 have hR : Rp.Bk U (w.heap.size + 1 + 1) q := k2
 have hZ : Bl.At U (w.heap.size + 1 + 1 + 1) Bl.zsv := k3
 obtain ⟨x0,x1,x2,x3,x4,x5⟩ := hA.cells
 have c0 : U.cell? ⟨w.heap.size + 1,0,none⟩ = some (.int .i64 r.sess) := by rw [cell_of_row U _ 0 _ _ _ k1]; rfl
 have c1 : U.cell? ⟨w.heap.size + 1,1,none⟩ = some (.int .i64 r.seq) := by rw [cell_of_row U _ 1 _ _ _ k1]; rfl
 have HA := Lib.hid hA
 have HZ := Lib.hid hZ
 have HB := Lib.hid hB
 have HS := Lib.hid hs
 clear k0 k1 k2 k3 hL h1 h2 hq hA hB hZ hs
 unfold Bl.Sv.val Bl.sl Ca.val Rp.val
 unfold Ca.block at hU
 go_enter Tryz.func39,Tryz.ntmps39
 go_wp2_with (first | ((with_reducible apply Rp.wpl_load hR); rfl; rfl; rfl))
 clear hU
 refine (ses_keep s.sess r.sess r.seq q h.sess.ao h.sess.n h.sess.cap _ (HL.out.sess.below HB.out) HH.out.1 HH.out.2.1 HH.out.2.2).mono ?_
 rintro e w1 ⟨v,rfl,o1,b1⟩
 have hA1 := HA.out.below b1
 have hZ1 := HZ.out.below b1
 have HB1 := Lib.hid b1
 have HO1 := Lib.hid o1
 have z := hA1.frozen 4
 obtain ⟨y0,y1,y2,y3,y4,y5⟩ := hA1.cells
 clear x0 x1 x2 x3 x4 x5 c0 c1 hR o1 b1
 by_cases h0 : Sp.keepE s.sess r.sess r.seq = 0
 ·
  have HP := Lib.hid (Bl.keep_ok (s := s) (r := q) h0)
  rw [h0]
  clear h0
  obtain ⟨L,hLr⟩ : ∃ L,Sp.keepR s.sess r.sess r.seq q.why q.num q.gross = L := ⟨_,rfl⟩
  have HSh := Lib.hid (Sp.keep_short HL.out.sess.short HH.out.1 HH.out.2.1 HH.out.2.2)
  rw [hLr] at HO1 HSh HP
  clear hLr
  obtain ⟨bo,bc,rfl,l1,i1⟩ := Sn.own_ls HO1.out HSh.out
  obtain ⟨n1,hn1⟩ : ∃ n1,L.length = n1 := ⟨_,rfl⟩
  rw [hn1] at l1 ⊢
  clear hn1
  have HLs := Lib.hid l1
  have HI := Lib.hid (inA_own (n := n1) i1)
  clear l1 i1
  have hA2 : Bl.At (w1.setCell ⟨w.heap.size,4,none⟩ (.slice bo n1 bc)) w.heap.size ⟨h.tab,h.ser,h.post,h.book,⟨bo,n1,bc⟩,h.next⟩ := (Bl.set_heap hA1 4 _).trans rfl
  have hZ2 : Bl.At (w1.setCell ⟨w.heap.size,4,none⟩ (.slice bo n1 bc)) (w.heap.size + 1 + 1 + 1) Bl.zsv := hZ1.away (by omega) _ _
  have HZ2 := Lib.hid hZ2
  clear hA1 hZ1
  go_wp2_with (first | ((with_reducible apply Bl.wpl_load hA2); rfl; rfl; rfl) | ((with_reducible apply Bl.wpl_put (h := ⟨h.tab,h.ser,h.post,h.book,⟨bo,n1,bc⟩,h.next⟩) hZ2); rfl; rfl; rfl; rfl))
  have b : Below w.heap.size w (Bl.lay (w1.setCell ⟨w.heap.size,4,none⟩ (.slice bo n1 bc)) (w.heap.size + 1 + 1 + 1) ⟨h.tab,h.ser,h.post,h.book,⟨bo,n1,bc⟩,h.next⟩) := Bl.below_lay (bset (bchain HB.out HB1.out) (Nat.le_refl _) _ _) (by omega) _
  refine bodyPost_ret (Bl.results1 Tryz.results39 rfl (HZ2.out.lay _)) rfl ⟨_,rfl,?_,b⟩
  rw [HP.out]
  have hl := (HL.out.below b).wide w
  have hip := HI.out.nw P (w := w) (by have := HS.out; omega)
  have hk := (Kp.set (A := U.heap.size) (g := w.heap.size) w1 (by have := HS.out; omega) 4 (.slice bo n1 bc)).trans (Bl.kp_lay _ (g := w.heap.size + 1 + 1 + 1) (by have := HS.out; omega) ⟨h.tab,h.ser,h.post,h.book,⟨bo,n1,bc⟩,h.next⟩)
  exact ⟨hl.tab,hl.ser,hl.post,hl.book,HLs.out.kp HI.out hk,hl.next,hl.fit,hl.ptab,hl.pser,hl.ppost,hl.pbook,hip⟩
 ·
  have hq : (Sp.keepE s.sess r.sess r.seq == 0) = false := beq_eq_false_iff_ne.2 h0
  have HP := Lib.hid (Bl.keep_no (s := s) (r := q) h0)
  have HZ1 := Lib.hid hZ1
  obtain ⟨E,hE⟩ : ∃ E,Sp.keepE s.sess r.sess r.seq = E := ⟨_,rfl⟩
  rw [hE] at hq h0 ⊢
  clear hE HO1
  go_wp2_with (first | ((with_reducible apply Bl.wpl_load hA1); rfl; rfl; rfl) | ((with_reducible apply Bl.wpl_put (h := h) hZ1); rfl; rfl; rfl; rfl))
  have b : Below w.heap.size w (Bl.lay w1 (w.heap.size + 1 + 1 + 1) h) := Bl.below_lay (bchain HB.out HB1.out) (by omega) _
  refine bodyPost_ret (Bl.results1 Tryz.results39 rfl (HZ1.out.lay _)) rfl ⟨_,rfl,?_,b⟩
  rw [HP.out]
  exact (HL.out.below b).wide w
theorem Sp.spot_end {i : Int} : ∀ {l : List Sn.T},(∀ x ∈ l,x.id < i) → Sp.spot i l = l.length
 | [],_ => rfl
 | a :: l,h => by
  have h1 : Sp.lt a.id i = true := decide_eq_true (h a (by simp))
  have := Sp.spot_at i (a :: l) 0 (by simp)
  rw [List.drop_zero,List.getElem_cons_zero,if_pos h1] at this
  rw [this,List.drop_succ_cons,List.drop_zero,Sp.spot_end fun x hx => h x (by simp [hx]),List.length_cons]
theorem Sp.open_end {l : List Sn.T} {i : Int} (h : ∀ x ∈ l,x.id < i) : Sp.openL l (Sp.new i) = l ++ [Sp.new i] := by
 have e : Sp.spot (Sp.new i).id l = l.length := Sp.spot_end h
 unfold Sp.openL
 rw [e,List.take_length,List.drop_length]
theorem Bl.join_step {s : Bl.St} (h : Bl.Right s) (h8 : s.sess.length < 8) (hn : s.next < 1099511627776) : Sp.joinE s.sess s.next = 0 ∧ Sp.joinR s.sess s.next = s.sess ++ [Sp.new s.next] := by
 have hx : ¬ Sp.ix s.next s.sess < s.sess.length := fun q => by
  obtain ⟨r,hr,e⟩ := Sp.ix_mem.1 q
  have := h.ids r hr
  omega
 have := Sp.join_ok (l := s.sess) (i := s.next) h.sess (by have := h.next; omega) hx h8
 rw [this.1,this.2]
 exact ⟨rfl,Sp.open_end h.ids⟩
def Bl.joinS (s : Bl.St) : Bl.St × Rp.T := if 8 ≤ s.sess.length ∨ 1099511627776 ≤ s.next then (s,⟨14,0,0⟩) else (Bl.joined s,⟨0,s.next,0⟩)
end Go.Proofs.YtjpfpojbalepeabGreat
namespace Go.Proofs.YtjpfpojbalepeabGreat.Pd
open Go.RowKit
open Mem
def Block (w : World) (g : Nat) (ts : List T) : Prop := w.heap[g]? = some (.cells (ts.flatMap rv).toArray 59 (0,0))
theorem Block.lt {w : World} {g : Nat} {ts : List T} (h : Block w g ts) : g < w.heap.size := by
 obtain ⟨hg,_⟩ := Array.getElem?_eq_some_iff.1 h
 exact hg
theorem Block.row {w : World} {g : Nat} {ts : List T} (h : Block w g ts) (k : Nat) (hk : k < ts.length) : At w g (k * 12) ts[k] := by
 have hcell : ∀ p,p < 12 → w.cell? ⟨g,k * 12 + p,none⟩ = (rv ts[k])[p]? := by
  intro p hp
  rw [cell_of_row w g _ _ _ _ h,← flat_at ts k p hk hp]
  simp
 exact ⟨hcell 0 (by omega),hcell 1 (by omega),hcell 2 (by omega),hcell 3 (by omega),hcell 4 (by omega),hcell 5 (by omega),hcell 6 (by omega),hcell 7 (by omega),hcell 8 (by omega),hcell 9 (by omega),hcell 10 (by omega),hcell 11 (by omega)⟩
theorem Block.frozen {w : World} {g : Nat} {ts : List T} (h : Block w g ts) (k : Nat) : w.frozen? ⟨g,k,none⟩ = false := frozen_of_row w g k _ _ h
def zeros (n : Nat) : Array Value := ((List.replicate n zero).flatMap rv).toArray
theorem sizeZ : (Tryz.prog.info? 59).map (·.size) = some 12 := by kernel_rfl
theorem made (n : Nat) : madeCells zeroV.cells (n * 12) = zeros n := by
 apply Array.ext_getElem?
 intro j
 by_cases hj : j < n * 12
 ·
  obtain ⟨k,p,rfl,hp⟩ : ∃ k p,j = k * 12 + p ∧ p < 12 := ⟨j / 12,j % 12,by omega,by omega⟩
  have hk : k < n := by omega
  have hz : (zeros n)[k * 12 + p]? = (rv zero)[p]? := by
   unfold zeros
   rw [List.getElem?_toArray,flat_at (List.replicate n zero) k p (by simpa using hk) hp,List.getElem_replicate]
  rw [hz]
  have e : (k * 12 + p) % 12 = p := by omega
  have hp' : p = 0 ∨ p = 1 ∨ p = 2 ∨ p = 3 ∨ p = 4 ∨ p = 5 ∨ p = 6 ∨ p = 7 ∨ p = 8 ∨ p = 9 ∨ p = 10 ∨ p = 11 := by omega
  unfold madeCells
  rw [Array.getElem?_map,Array.getElem?_range,if_pos hj]
  simp only [Option.map_some]
  rw [show zeroV.cells.size = 12 from rfl,e]
  rcases hp' with rfl | rfl | rfl | rfl | rfl | rfl | rfl | rfl | rfl | rfl | rfl | rfl <;> rfl
 ·
  rw [Array.getElem?_eq_none (by rw [size_madeCells]; omega),Array.getElem?_eq_none]
  unfold zeros
  rw [List.size_toArray,flat_len,List.length_replicate]
  omega
theorem make (n : Nat) (hn : n ≤ 100000) (u : World) : (Instr.makeSlice 36 (.int .i64 (n : Int)) (.int .i64 (n : Int))).run Tryz.prog u =
  .ok (.slice (some ⟨u.heap.size,0,none⟩) n n) (u.alloc (.cells (zeros n) 59)) := by
 obtain ⟨i0,hi,hz0,hz1,hz2⟩ := info_parts info
 have h := run_make (P := Tryz.prog) u 36 59 i0 zeroV Tryz.underlying36 hi hz0 .i64 .i64 (n : Int) (n : Int) (by omega) (Int.le_refl _) (by rw [hz2]; omega) (by omega)
 rw [hz1,Int.toNat_natCast,made] at h
 exact h
theorem block_made (u : World) (n : Nat) : Block (u.alloc (.cells (zeros n) 59)) u.heap.size (List.replicate n zero) := heap_alloc_new u _
theorem copy (u : World) (g : Nat) (ts : List T) (dCap : Nat) (ao : Option Addr) (n cap : Nat) (rs : List T) (hb : Block u g (List.replicate n zero ++ ts)) (hn : n = rs.length) (hs : Seg u ao rs) :
  ∃ u',(Builtin.copy_ #[36,36] 3 #[.slice (some ⟨g,0,none⟩) (n + ts.length) dCap,.slice ao n cap]).run Tryz.prog u = .ok (goInt n) u' ∧ Block u' g (rs ++ ts) ∧ (∀ B w0,Below B w0 u → B ≤ g → Below B w0 u') ∧ u'.heap.size = u.heap.size := by
 obtain ⟨i0,hi,hiK⟩ := Option.map_eq_some_iff.1 sizeZ
 have hmin : Nat.min n (n + ts.length) = n := Nat.min_eq_left (by omega)
 rcases hs with e | ⟨b,off,rfl,hc⟩
 ·
  subst e
  obtain rfl : n = 0 := hn
  refine ⟨u,?_,by simpa using hb,fun _ _ h _ => h,rfl⟩
  have hl : ∀ (x : Addr),(loadCells x 0).run Tryz.prog u = .ok #[] u := fun x => by simpa using run_loadCells_list (P := Tryz.prog) u x [] (by simp)
  cases ao <;> simp [Builtin.copy_,run_underlying Tryz.underlying36,Builtin.lenOf,Builtin.firstCells,sizeOf,typeInfo,hi,storeCells,hl]
 ·
  have hl := run_loadCells_list (P := Tryz.prog) u ⟨b,off,none⟩ (rs.flatMap rv) (fun j v hv => news_of hc j v hv)
  have hst := run_storeCells_at Tryz.prog g 0 59 (rs.flatMap rv) 0 _ u hb (by rw [List.size_toArray,flat_len,flat_len,List.length_append,List.length_replicate]; omega) (one_cell rs)
  have hlen : (rs.flatMap rv).length = n * 12 := by rw [flat_len,hn]
  have e : (((List.replicate n zero ++ ts).flatMap rv).toArray.toList.take (0 + 0) ++ rs.flatMap rv ++ ((List.replicate n zero ++ ts).flatMap rv).toArray.toList.drop (0 + 0 + (rs.flatMap rv).length)) = (rs ++ ts).flatMap rv := by
   rw [List.toList_toArray,List.take_zero,List.nil_append,Nat.zero_add,hlen,List.flatMap_append,List.flatMap_append,List.drop_left' (by rw [flat_len,List.length_replicate])]
  rw [e] at hst
  refine ⟨u.setRow g ((rs ++ ts).flatMap rv).toArray,?_,setRow_heap u g _ _ 59 _ hb,fun B w0 h hB => below_setRow h hB _,by simp [World.setRow]⟩
  rw [hlen] at hl
  simp [Builtin.copy_,run_underlying Tryz.underlying36,Builtin.lenOf,Builtin.firstCells,sizeOf,typeInfo,hi,hiK,hmin,hl,hst]
theorem own_at {w : World} {B g n cap : Nat} {M : List T} (h : Own w B (.slice (some ⟨g,0,none⟩) n cap) M) (k : Nat) (hk : k < M.length) : At w g (k * 12) M[k] ∧ (∀ o,w.frozen? ⟨g,o,none⟩ = false) ∧ B ≤ g := by
 rcases h.2 with ⟨h',_⟩ | ⟨g',cap',cur,h',hb,hg,hnc,hcm,hcs,htake⟩
 · cases h'
 ·
  simp only [Value.slice.injEq,Option.some.injEq,Addr.mk.injEq,and_true] at h'
  obtain ⟨e1,e2,e3⟩ := h'
  subst e1 e3
  have hcell : ∀ p,p < 12 → w.cell? ⟨g,k * 12 + p,none⟩ = (rv M[k])[p]? := by
   intro p hp
   rw [cell_of_row w g _ _ _ _ hg,← flat_at M k p hk hp,← htake,List.getElem?_take_of_lt (by omega)]
   simp
  exact ⟨⟨hcell 0 (by omega),hcell 1 (by omega),hcell 2 (by omega),hcell 3 (by omega),hcell 4 (by omega),hcell 5 (by omega),hcell 6 (by omega),hcell 7 (by omega),hcell 8 (by omega),hcell 9 (by omega),hcell 10 (by omega),hcell 11 (by omega)⟩,fun o => frozen_of_row w g o _ _ hg,hb⟩
theorem flat_put (r : T) (p : Nat) (x : Value) (hp : p < 12) : ∀ (M : List T) (k : Nat) (hk : k < M.length),rv r = (rv M[k]).set p x → (M.set k r).flatMap rv = (M.flatMap rv).set (k * 12 + p) x
 | a :: l,0,_,h => by
  have h' : rv r = (rv a).set p x := h
  rw [List.set_cons_zero,List.flatMap_cons,List.flatMap_cons,Nat.zero_mul,Nat.zero_add,List.set_append_left _ _ (by rw [rv_len]; exact hp),h']
 | a :: l,k + 1,hk,h => by
  have ih := flat_put r p x hp l k (by simpa using hk) (by simpa using h)
  rw [List.set_cons_succ,List.flatMap_cons,List.flatMap_cons,List.set_append_right _ _ (by rw [rv_len]; omega),rv_len,show (k + 1) * 12 + p - 12 = k * 12 + p by omega,ih]
theorem own_put {w : World} {B g n cap : Nat} {M : List T} (h : Own w B (.slice (some ⟨g,0,none⟩) n cap) M) (k p : Nat) (hk : k < M.length) (hp : p < 12) (x : Value) (r : T) (hr : rv r = (rv M[k]).set p x) :
  Own (w.setCell ⟨g,k * 12 + p,none⟩ x) B (.slice (some ⟨g,0,none⟩) n cap) (M.set k r) := by
 rcases h.2 with ⟨h',_⟩ | ⟨g',cap',cur,h',hb,hg,hnc,hcm,hcs,htake⟩
 · cases h'
 ·
  simp only [Value.slice.injEq,Option.some.injEq,Addr.mk.injEq,and_true] at h'
  obtain ⟨e1,e2,e3⟩ := h'
  subst e1 e3
  have h1 := heap_setCell_same _ g (k * 12 + p) _ _ x hg
  refine ⟨by rw [flat_len],.inr ⟨g,cap,_,by rw [List.length_set,e2],hb,h1,by rw [List.length_set]; exact hnc,hcm,by simpa using hcs,?_⟩⟩
  rw [List.length_set,flat_put r p x hp M k hk hr]
  simp only [Array.toList_setIfInBounds]
  rw [← htake]
  simp only [List.take_set]
theorem own_of_block {w : World} {B g n : Nat} {M : List T} (h : Block w g M) (hB : B ≤ g) (hn : n = M.length) (hm : n ≤ 100000) : Own w B (.slice (some ⟨g,0,none⟩) n n) M := by
 subst hn
 exact ⟨by rw [flat_len],.inr ⟨g,M.length,_,rfl,hB,h,Nat.le_refl _,by have : maxLen = 9223372036854775807 := rfl; omega,by rw [List.size_toArray,flat_len],List.take_of_length_le (by show (M.flatMap rv).length ≤ _; rw [flat_len]; exact Nat.le_refl _)⟩⟩
theorem own_far {w : World} {B : Nat} {v : Value} {M : List T} (h : Own w B v M) {b : Nat} (hne : b < B) (o : Nat) (x : Value) : Own (w.setCell ⟨b,o,none⟩ x) B v M := by
 obtain ⟨h1,h2⟩ := h
 refine ⟨h1,?_⟩
 rcases h2 with h2 | ⟨g,cap,cur,h',hb,hg,h3⟩
 · exact .inl h2
 · exact .inr ⟨g,cap,cur,h',hb,by rw [heap_setCell_other w ⟨b,o,none⟩ g x (by show g ≠ b; omega)]; exact hg,h3⟩
theorem make_cap (n : Nat) (hn : n ≤ 1000) (u : World) : (Instr.makeSlice 36 (.int .i64 0) (.int .i64 ((n : Int) + 1))).run Tryz.prog u =
  .ok (.slice (some ⟨u.heap.size,0,none⟩) 0 (n + 1)) (u.alloc (.cells (zeros (n + 1)) 59)) := by
 obtain ⟨i0,hi,hz0,hz1,hz2⟩ := info_parts info
 have h := run_make (P := Tryz.prog) u 36 59 i0 zeroV Tryz.underlying36 hi hz0 .i64 .i64 0 ((n : Int) + 1) (by omega) (by omega) (by rw [hz2]; omega) (by omega)
 rw [hz1,show ((n : Int) + 1).toNat = n + 1 from by omega,made] at h
 exact h
theorem own_cap (u : World) (B c : Nat) (hB : B ≤ u.heap.size) (hc : c ≤ 1000) : Own (u.alloc (.cells (zeros c) 59)) B (.slice (some ⟨u.heap.size,0,none⟩) 0 c) [] :=
 ⟨rfl,.inr ⟨u.heap.size,c,zeros c,rfl,hB,heap_alloc_new u _,Nat.zero_le _,by have : maxLen = 9223372036854775807 := rfl; omega,by unfold zeros; rw [List.size_toArray,flat_len,List.length_replicate],rfl⟩⟩
end Go.Proofs.YtjpfpojbalepeabGreat.Pd
namespace Go.Proofs.YtjpfpojbalepeabGreat
open Go.RowKit
open Mem
open Go.Sort (grow)
set_option maxHeartbeats 2000000 in
theorem post_right (ls : List Ba.T) (ao : Option Addr) (n cap : Nat) (w0 w : World) (hw : Below w0.heap.size w0 w) (hL : Ba.Ls w ao n cap ls) :
  Calls Tryz.prog 85 #[.slice ao n cap] w fun e w' => e = .returned (.bool (Po.rightB ls)) ∧ Below w0.heap.size w0 w' := by
 have HW := Lib.hid hw
 have HL := Lib.hid hL
 have HN := Lib.hid hL.len
 have hcap := hL.reach
 have hfit := hL.fits
 clear hw hL
 go_enter Tryz.func85,Tryz.ntmps85
 go_wp2_with fail
 go_loopw [3] (fun i wr => ∃ k : Nat,k ≤ n ∧ i = .int .i64 ((k + 1 : Nat) : Int) ∧ Hid (∀ i,i < k → (hi : i + 1 < ls.length) → Po.lt ls[i].acct ls[i + 1].acct = true) ∧ Hid (Below w.heap.size w wr)) (fun i _ => n + 1 - (intOf i).toNat)
 case atStart => exact ⟨0,by omega,rfl,Lib.hid (fun i hi => by omega),Lib.hid (Below.refl _ _)⟩
 case round =>
  rename World => wz
  obtain ⟨k,hk,rfl,HK,HB⟩ := hrel
  by_cases hlt : k + 1 < n
  ·
   obtain ⟨b,off,rfl⟩ := HL.out.at (by omega)
   have hk1 : k + 1 < ls.length := HN.out ▸ hlt
   have hr1 := (HL.out.row k (by omega)).below HB.out
   have hr2 := (HL.out.row (k + 1) hk1).below HB.out
   obtain ⟨x,hx⟩ : ∃ x,ls[k] = x := ⟨_,rfl⟩
   obtain ⟨y,hy⟩ : ∃ y,ls[k + 1] = y := ⟨_,rfl⟩
   have HX := Lib.hid hx
   have HY := Lib.hid hy
   rw [hx] at hr1
   rw [hy] at hr2
   obtain ⟨g0,g1⟩ := hr1
   obtain ⟨f0,f1⟩ := hr2
   have k0 := cell_regrown g0
   have l0 := cell_regrown f0
   clear hx hy
   cases hc : Op.bytesLess x.acct.toList y.acct.toList
   ·
    have HE : Hid (Po.rightB ls = false) := Lib.hid (Po.right_no hk1 (by rw [HX.out,HY.out]; exact hc))
    go_wp2
    refine wp_region_quiet_below (by kernel_rfl) (by kernel_rfl) ?_
    repeat (first | go_big_quiet_step (fail) | quiet_step (fail))
    refine wpQuiet_nil ?_
    intro _ hw'
    obtain ⟨⟨dq,osq⟩,hw''⟩ := hw'
    subst hw''
    have HBv := Lib.hid (bchain HB.out (below_regrown wz dq osq))
    go_wp2
    go_ret
    exact ⟨ret_bool HE.out.symm,bchain HW.out HBv.out⟩
   ·
    have HK2 : Hid (∀ i,i < k + 1 → (hi : i + 1 < ls.length) → Po.lt ls[i].acct ls[i + 1].acct = true) := Lib.hid (by
     intro i hi hil
     by_cases e : i < k
     · exact HK.out i e hil
     ·
      obtain rfl : i = k := by omega
      rw [HX.out,HY.out]
      exact hc)
    go_wp2
    refine wp_region_quiet_below (by kernel_rfl) (by kernel_rfl) ?_
    repeat (first | go_big_quiet_step (fail) | quiet_step (fail))
    refine wpQuiet_nil ?_
    intro _ hw'
    obtain ⟨⟨dq,osq⟩,hw''⟩ := hw'
    subst hw''
    have HBv := Lib.hid (bchain HB.out (below_regrown wz dq osq))
    go_wp2
    go_roundw
    case rel => exact ⟨k + 1,by omega,by go_num,HK2,HBv⟩
    case measure => simp [intOf]; omega
  ·
   have HE : Hid (Po.rightB ls = true) := Lib.hid (Po.right_yes fun i hi => HK.out i (by have := HN.out; omega) hi)
   have hnk : (n : Int) ≤ (k : Int) + 1 := by omega
   go_wp2
   go_ret
   exact ⟨ret_bool HE.out.symm,bchain HW.out HB.out⟩
set_option maxHeartbeats 2000000 in
theorem post_place (ls : List Ba.T) (c : ByteArray) (ao : Option Addr) (n cap : Nat) (w : World) (hL : Ba.Ls w ao n cap ls) (hS : Po.Sorted ls) :
  Calls Tryz.prog 87 #[.slice ao n cap,.string c] w fun e w' => e = .returned (.int .i64 ((Po.spot c ls : Nat) : Int)) ∧ w' = w := by
 have HL := Lib.hid hL
 have HN := Lib.hid hL.len
 have HS := Lib.hid hS
 have HP : Hid (Po.spot c ls ≤ n) := Lib.hid (by rw [hL.len]; exact Po.spot_le c ls)
 have hcap := hL.reach
 have hfit := hL.fits
 clear hL hS
 go_enter Tryz.func87,Tryz.ntmps87
 go_wp2_with fail
 go_loopw [5,6,7] (fun a b _ wr => ∃ i j : Nat,i ≤ j ∧ j ≤ n ∧ a = .int .i64 i ∧ b = .int .i64 j ∧ wr = w ∧ Hid (i ≤ Po.spot c ls ∧ Po.spot c ls ≤ j)) (fun a b _ _ => (intOf b).toNat - (intOf a).toNat)
 case atStart => exact ⟨0,n,by omega,by omega,rfl,rfl,rfl,Lib.hid ⟨Nat.zero_le _,HP.out⟩⟩
 case round =>
  obtain ⟨i,j,hij,hj,rfl,rfl,rfl,HI⟩ := hrel
  by_cases hlt : i < j
  ·
   obtain ⟨m,hm⟩ : ∃ m,i + (j - i) / 2 = m := ⟨_,rfl⟩
   have hm1 : i ≤ m := by omega
   have hm2 : m < j := by omega
   obtain ⟨b,off,rfl⟩ := HL.out.at (by omega)
   have hml : m < ls.length := by have := HN.out; omega
   have hrow := HL.out.row m hml
   have HU : Hid (Po.lt ls[m].acct c = true → m + 1 ≤ Po.spot c ls) := Lib.hid (Po.half_up HS.out hml)
   have HD : Hid (Po.lt ls[m].acct c = false → Po.spot c ls ≤ m) := Lib.hid (Po.half_down hml)
   obtain ⟨x,hx⟩ : ∃ x,ls[m] = x := ⟨_,rfl⟩
   rw [hx] at hrow HU HD
   clear hx
   obtain ⟨r0,r1⟩ := hrow
   have hq : ((j : Int) - (i : Int)).tdiv 2 = (m : Int) - (i : Int) := by
    rw [Int.tdiv_eq_ediv_of_nonneg (by omega)]
    omega
   have hq' : ((j : Int) - (i : Int)) / 2 = (m : Int) - (i : Int) := by omega
   have hsum : (i : Int) + ((m : Int) - (i : Int)) = (m : Int) := by omega
   clear hm
   cases hc : Op.bytesLess x.acct.toList c.toList
   ·
    have HE := Lib.hid (HD.out hc)
    go_wp2_with fail
    go_roundw
    case rel => exact ⟨i,m,hm1,by omega,rfl,by go_num,trivial,Lib.hid ⟨HI.out.1,HE.out⟩⟩
    case measure => simp [intOf]; omega
   ·
    have HE := Lib.hid (HU.out hc)
    go_wp2_with fail
    go_roundw
    case rel => exact ⟨m + 1,j,by omega,hj,by go_num,rfl,trivial,Lib.hid ⟨HE.out,HI.out.2⟩⟩
    case measure => simp [intOf]; omega
  ·
   obtain rfl : i = j := by omega
   have HE : Hid (Po.spot c ls = i) := Lib.hid (Nat.le_antisymm HI.out.2 HI.out.1)
   go_wp2_with fail
   go_ret
   exact ⟨by rw [HE.out]; rfl,rfl⟩
set_option maxHeartbeats 2000000 in
theorem post_has (ls : List Ba.T) (c : ByteArray) (ao : Option Addr) (n cap : Nat) (w : World) (hL : Ba.Ls w ao n cap ls) (hS : Po.Sorted ls) :
  Calls Tryz.prog 113 #[.slice ao n cap,.string c] w fun e w' => e = .returned (.bool (Po.has c ls)) ∧ w' = w := by
 have HL := Lib.hid hL
 have HN := Lib.hid hL.len
 have HP := Lib.hid (post_place ls c ao n cap w hL hS)
 have HH := Lib.hid (Po.has_spot c ls)
 have hcap := hL.reach
 have hfit := hL.fits
 clear hL hS
 obtain ⟨s,hs⟩ : ∃ s,Po.spot c ls = s := ⟨_,rfl⟩
 rw [hs] at HP HH
 clear hs
 go_enter Tryz.func113,Tryz.ntmps113
 go_wp2_with fail
 refine HP.out.mono ?_
 rintro e w1 ⟨rfl,rfl⟩
 rename World => u
 by_cases hlt : s < n
 ·
  obtain ⟨b,off,rfl⟩ := HL.out.at (by omega)
  have hsl : s < ls.length := HN.out ▸ hlt
  have hrow := HL.out.row s hsl
  have HV : Hid (Po.has c ls = decide (ls[s].acct = c)) := Lib.hid (by rw [HH.out,List.getElem?_eq_getElem hsl])
  obtain ⟨x,hx⟩ : ∃ x,ls[s] = x := ⟨_,rfl⟩
  rw [hx] at hrow HV
  clear hx
  obtain ⟨r0,r1⟩ := hrow
  by_cases e : x.acct = c
  ·
   have q0 : (x.acct.toList == c.toList) = true := beq_iff_eq.2 (by rw [e])
   have HE : Hid (Po.has c ls = true) := Lib.hid (by rw [HV.out]; exact decide_eq_true e)
   clear e
   go_wp2_with fail
   go_ret
   exact ⟨ret_bool HE.out.symm,rfl⟩
  ·
   have q0 : (x.acct.toList == c.toList) = false := beq_eq_false_iff_ne.2 fun h => e (Vt.cat_ext h)
   have HE : Hid (Po.has c ls = false) := Lib.hid (by rw [HV.out]; exact decide_eq_false e)
   clear e
   go_wp2_with fail
   go_ret
   exact ⟨ret_bool HE.out.symm,rfl⟩
 ·
  have HE : Hid (Po.has c ls = false) := Lib.hid (by rw [HH.out,List.getElem?_eq_none (by rw [← HN.out]; omega)])
  go_wp2_with fail
  go_ret
  exact ⟨ret_bool HE.out.symm,rfl⟩
end Go.Proofs.YtjpfpojbalepeabGreat
namespace Go.Proofs.YtjpfpojbalepeabGreat.Ba
open Go.RowKit
theorem own_some {w : World} {B n cap : Nat} {ao : Option Addr} {xs : List T} (h : Own w B (.slice ao n cap) xs) (hn : 0 < n) : ∃ g,ao = some ⟨g,0,none⟩ := by
 rcases h.2 with ⟨h',h2⟩ | ⟨g,c,cur,h',_⟩
 ·
  cases h'
  omega
 ·
  cases h'
  exact ⟨g,rfl⟩
theorem own_lt {w : World} {B n cap vg : Nat} {M : List T} (h : Own w B (.slice (some ⟨vg,0,none⟩) n cap) M) : vg < w.heap.size := by
 rcases h.2 with ⟨h',h0⟩ | ⟨g',c',cu,h',_,hg,_⟩
 · cases h'
 ·
  simp only [Value.slice.injEq,Option.some.injEq,Addr.mk.injEq,and_true] at h'
  obtain ⟨hl,_⟩ := Array.getElem?_eq_some_iff.1 hg
  rw [h'.1]
  exact hl
end Go.Proofs.YtjpfpojbalepeabGreat.Ba
namespace Go.Proofs.YtjpfpojbalepeabGreat
open Go.RowKit
open Mem
open Go.Sort (grow heap_grow_old putRowK flatK HoldsK)
def cmpB (x y : Ba.T) : Int := Lib.compareBytes x.acct.data.toList y.acct.data.toList
theorem ltOf_cmp (x y : Ba.T) : ltOf cmpB x y = Po.lt x.acct y.acct := by
 unfold ltOf cmpB Po.lt
 rw [Po.cmp_lt,tl,tl]
 rfl
theorem swo_cmp : Go.Sort.SWO (ltOf cmpB) where
 irrefl x := by rw [ltOf_cmp]; exact Po.lt_irrefl _
 trans x y z h1 h2 := by
  rw [ltOf_cmp] at *
  exact Po.lt_trans h1 h2
 ntrans x y z h1 h2 := by
  rw [ltOf_cmp] at *
  rcases Po.lt_tri y.acct z.acct with h | h | h
  ·
   rw [h2] at h
   cases h
  ·
   rw [← h]
   exact h1
  ·
   rw [Bool.eq_false_iff]
   intro k
   have := Po.lt_trans k h
   rw [h1] at this
   cases this
set_option maxHeartbeats 2000000 in
theorem post_order (x y : Ba.T) (w : World) : Calls Tryz.prog 115 #[.agg #[.string x.acct,.int .i64 x.amt],.agg #[.string y.acct,.int .i64 y.amt]] w fun e w' => e = .returned (.int .i64 (cmpB x y)) ∧ ∃ q os',w' = grow (w.drewN q) os' := by
 have hcon : ∀ W',Calls Tryz.prog 132 #[.string x.acct,.string y.acct] W' fun e w' => e = .returned (.int .i64 (cmpB x y)) ∧ w' = W' := fun W' => Tryz.strings_Compare x.acct y.acct W'
 generalize cmpB x y = r at hcon ⊢
 go_enter Tryz.func115,Tryz.ntmps115
 go_wp2_with (go_at_call 132; refine (hcon _).mono ?_; rintro e w' ⟨rfl,rfl⟩)
 go_ret
 exact ⟨rfl,0,_,by rw [Go.Sort.alloc_eq_grow,Go.Sort.alloc_eq_grow,Go.Sort.grow_grow]; rfl⟩
theorem cmp_lays (blk off size : Nat) (w : World) : CmpLays Tryz.prog 115 #[] Ba.rv 2 cmpB blk off size w :=
 fun _ _ _ _ x y => post_order x y _
theorem agg_bal (w : World) : (isAgg 77).run Tryz.prog w = .ok true w := Tryz.isAgg77 w
theorem own_holds {w : World} {B g n cap : Nat} {M : List Ba.T} (h : Ba.Own w B (.slice (some ⟨g,0,none⟩) n cap) M) : HoldsK Ba.rv 2 w g 0 M.toArray := by
 intro t ht
 rw [Go.Sort.size_flatK] at ht
 rw [Go.Sort.get_flatK _ _ _ _ ht]
 have ht' : t < M.length * 2 := by simpa using ht
 obtain ⟨k,p,rfl,hp⟩ : ∃ k p,t = k * 2 + p ∧ p < 2 := ⟨t / 2,t % 2,by omega,by omega⟩
 have hk : k < M.length := by omega
 obtain ⟨⟨c0,c1⟩,hf,_⟩ := Ba.own_at h k hk
 have e : M.toArray[k]! = M[k] := by
  rw [getElem!_pos M.toArray k (by simpa using hk)]
  simp
 rw [show (k * 2 + p) / 2 = k by omega,show (k * 2 + p) % 2 = p by omega,e,Nat.zero_add]
 refine ⟨?_,hf _⟩
 rcases (show p = 0 ∨ p = 1 by omega) with rfl | rfl
 · exact c0
 · exact c1
theorem own_sorted {w : World} {B g n cap m : Nat} {M : List Ba.T} (d : Array Ba.T) (os : Array Obj) (h : Ba.Own w B (.slice (some ⟨g,0,none⟩) n cap) M) (hs : d.size = M.length) : Ba.Own (sortWorldK Ba.rv 2 w g 0 m d os) B (.slice (some ⟨g,0,none⟩) n cap) d.toList := by
 rcases h.2 with ⟨h',_⟩ | ⟨g',cap',cur,h',hb,hg,hnc,hcm,hcs,htake⟩
 · cases h'
 ·
  simp only [Value.slice.injEq,Option.some.injEq,Addr.mk.injEq,and_true] at h'
  obtain ⟨e1,e2,e3⟩ := h'
  subst e1 e3
  have hlt : g < w.heap.size := by
   obtain ⟨hl,_⟩ := Array.getElem?_eq_some_iff.1 hg
   exact hl
  have hg' : (sortWorldK Ba.rv 2 w g 0 m d os).heap[g]? = some (.cells (Go.Sort.putCells id 0 (flatK Ba.rv 2 d) cur) 77 (0,0)) := by
   unfold sortWorldK
   rw [heap_grow_old _ _ (by simpa [putRowK] using hlt)]
   show ((w.heap.modify g (Go.Sort.onCells _)))[g]? = _
   rw [Array.getElem?_modify,if_pos rfl,hg]
   rfl
  have hdl : d.toList.length = M.length := by simpa using hs
  refine ⟨by rw [Ba.flat_len],.inr ⟨g,cap,_,by rw [hdl,e2],hb,hg',by rw [hdl]; exact hnc,hcm,by simp [Go.Sort.putCells,hcs],?_⟩⟩
  rw [hdl]
  apply List.ext_getElem?
  intro t
  by_cases ht : t < M.length * 2
  ·
   obtain ⟨k,p,rfl,hp⟩ : ∃ k p,t = k * 2 + p ∧ p < 2 := ⟨t / 2,t % 2,by omega,by omega⟩
   have hk : k < d.toList.length := by omega
   have hkd : k < d.size := by simpa using hk
   have hc : k * 2 + p < cur.size := by omega
   rw [List.getElem?_take_of_lt ht,Ba.flat_at d.toList k p hk hp]
   unfold Go.Sort.putCells
   rw [Array.getElem?_toList,Array.getElem?_mapIdx,Array.getElem?_eq_getElem hc,Option.map_some,if_pos ⟨Nat.zero_le _,by rw [Go.Sort.size_flatK]; omega⟩,Nat.sub_zero,Go.Sort.get_flatK _ _ _ _ (by omega),show (k * 2 + p) / 2 = k by omega,show (k * 2 + p) % 2 = p by omega,getElem!_pos d k hkd]
   rcases (show p = 0 ∨ p = 1 by omega) with rfl | rfl
   · rfl
   · rfl
  · rw [List.getElem?_eq_none (by rw [List.length_take]; omega),List.getElem?_eq_none (by rw [Ba.flat_len,hdl]; omega)]
theorem below_sorted {B g m : Nat} {w0 w : World} (d : Array Ba.T) (os : Array Obj) (h : Below B w0 w) (hg : B ≤ g) (hlt : g < w.heap.size) : Below B w0 (sortWorldK Ba.rv 2 w g 0 m d os) := by
 refine ⟨h.os,h.tape,h.output,?_,fun k hk => ?_⟩
 ·
  have := h.size
  simp [sortWorldK,putRowK]
  omega
 ·
  rw [← h.block k hk]
  unfold sortWorldK
  rw [heap_grow_old _ _ (by simp [putRowK]; omega)]
  show ((w.heap.modify g (Go.Sort.onCells _)))[k]? = _
  rw [Array.getElem?_modify,if_neg (by omega)]
theorem rows_sort (M : List Ba.T) (B n cap : Nat) (ao : Option Addr) (w0 w : World) (hw : Below B w0 w) (hO : Ba.Own w B (.slice ao n cap) M) (hn : n = M.length) (hm : n ≤ 100000) :
  Calls Tryz.prog 114 #[.slice ao n cap,.func (.func 115) #[] #[]] w fun e w' => e = .returned (.tuple #[]) ∧
   ∃ D : Array Ba.T,Ba.Own w' B (.slice ao n cap) D.toList ∧ D.toList.Perm M ∧ D.size = M.length ∧ (∀ i j,i < j → j < D.size → Po.lt D[j]!.acct D[i]!.acct = false) ∧ Below B w0 w' := by
 by_cases h0 : n = 0
 ·
  subst h0
  have e : M = [] := List.length_eq_zero_iff.1 hn.symm
  subst e
  refine (AnyF.slices_SortFunc_none Tryz.sortB ao cap _ w).mono ?_
  rintro e w' ⟨rfl,rfl⟩
  exact ⟨rfl,#[],hO,List.Perm.refl _,rfl,fun i j h1 h2 => absurd h2 (by simp),hw⟩
 ·
  obtain ⟨g,rfl⟩ := Ba.own_some hO (by omega)
  have hB := Ba.own_ge hO g rfl
  have hlt := Ba.own_lt hO
  have hsz : M.toArray.size = n := by simpa using hn.symm
  have eg : ∀ args w,(callFunc 115 args).run Tryz.prog w = .ok (.enter 115 args) w := enters_of Tryz.func115 (by kernel_rfl) rfl
  have hcon := AnyQ.slices_SortFunc Tryz.sortB 2 agg_bal Tryz.sizeOf77 Ba.rv (fun _ => rfl) (fun x v hv => by unfold Ba.rv at hv; simp at hv; rcases hv with rfl | rfl <;> rfl) cmpB swo_cmp 115 #[] g 0 cap M.toArray w eg (cmp_lays g 0 _ w) (own_holds hO) hlt (by omega)
  rw [hsz] at hcon
  refine hcon.mono ?_
  rintro e w' ⟨rfl,d,m,os,hp,hs,rfl⟩
  have hds : d.size = n := by rw [hp.1,hsz]
  refine ⟨rfl,d,own_sorted d os hO (by omega),?_,by omega,fun i j h1 h2 => ?_,below_sorted d os hw hB hlt⟩
  ·
   have := hp.2.2
   rw [← hds,Array.extract_size,hds,← hsz,Array.extract_size] at this
   simpa using this
  ·
   have := hs i j (Nat.zero_le _) h1 (by omega)
   rw [ltOf_cmp] at this
   exact this
end Go.Proofs.YtjpfpojbalepeabGreat
namespace Go.Proofs.YtjpfpojbalepeabGreat.Ba
open Go.RowKit
open Mem
theorem flat_take : ∀ (M : List T) (o : Nat),(M.flatMap rv).take (o * 2) = (M.take o).flatMap rv
 | [],o => by simp
 | a :: l,0 => by simp
 | a :: l,o + 1 => by
  rw [List.flatMap_cons,List.take_succ_cons,List.flatMap_cons,show (o + 1) * 2 = (rv a).length + o * 2 by rw [rv_len]; omega,List.take_length_add_append,flat_take l o]
end Go.Proofs.YtjpfpojbalepeabGreat.Ba
namespace Go.Proofs.YtjpfpojbalepeabGreat
open Go.RowKit
open Mem
open Go.Sort (grow)
theorem rows_from (g n c k l c' : Nat) (x : Int) (hx : x = (k : Int)) (hk : k + l = n) (hc : k + c' = c) (hl : 0 < c') (hn : n ≤ c) (h63 : c ≤ 9223372036854775807) (u : World) :
  (Instr.slice 37 (.slice (some ⟨g,0,none⟩) n c) (some (.int .i64 x)) none none).run Tryz.prog u = .ok (.slice (some ⟨g,k * 2,none⟩) l c') u := by
 subst hx
 rw [run_slice_l u 37 (some ⟨g,0,none⟩) n c Ba.und .i64 k (by omega) (by omega),Ba.size]
 have e1 : n - k = l := by omega
 have e2 : c - k = c' := by omega
 have e3 : ¬ c = k := by omega
 simp [Result.andThen,sliced,e1,e2,e3,Addr.add]
 intro h
 exact h.symm
theorem rows_to (g n c k : Nat) (x : Int) (hx : x = (k : Int)) (hk : k ≤ c) (h63 : c ≤ 9223372036854775807) (u : World) :
  (Instr.slice 37 (.slice (some ⟨g,0,none⟩) n c) none (some (.int .i64 x)) none).run Tryz.prog u = .ok (.slice (some ⟨g,0,none⟩) k c) u := by
 subst hx
 rw [run_slice_h u 37 (some ⟨g,0,none⟩) n c Ba.und .i64 k (by omega) (by omega),Ba.size]
 simp [Result.andThen,sliced,Addr.add]
theorem own_get {w : World} {B g n cap : Nat} {D : Array Ba.T} (h : Ba.Own w B (.slice (some ⟨g,0,none⟩) n cap) D.toList) (i : Nat) (hi : i < D.size) : Ba.At w g (i * 2) D[i]! ∧ (∀ o,w.frozen? ⟨g,o,none⟩ = false) := by
 obtain ⟨h1,h2,_⟩ := Ba.own_at h i (by simpa using hi)
 rw [getElem!_pos D i hi]
 rw [Array.getElem_toList] at h1
 exact ⟨h1,h2⟩
theorem own_reach {w : World} {B n cap : Nat} {ao : Option Addr} {M : List Ba.T} (h : Ba.Own w B (.slice ao n cap) M) : n = M.length ∧ n ≤ cap ∧ cap ≤ 9223372036854775807 := by
 rcases h.2 with ⟨h',h0⟩ | ⟨g',cap',cur,h',hb,hg,hnc,hcm,hcs,htake⟩
 ·
  cases h'
  omega
 ·
  simp only [Value.slice.injEq] at h'
  obtain ⟨_,e2,e3⟩ := h'
  subst e3
  have : maxLen = 9223372036854775807 := rfl
  omega
theorem zero_cells (n : Nat) : (Builtin.zeroCells Ba.zeroV.cells n).toList = (List.replicate n Ba.zero).flatMap Ba.rv := by
 have h := congrArg Array.toList (Ba.made n)
 unfold Ba.zeros at h
 rw [List.toList_toArray] at h
 exact h
theorem rows_clear {w : World} {B g n cap k : Nat} {M : List Ba.T} (h : Ba.Own w B (.slice (some ⟨g,0,none⟩) n cap) M) (hk : k < n) :
  ∃ w',(∀ ty c,(Builtin.clear_ #[37] ty #[.slice (some ⟨g,k * 2,none⟩) (n - k) c]).run Tryz.prog w = .ok (.tuple #[]) w') ∧ Ba.Own w' B (.slice (some ⟨g,0,none⟩) k cap) (M.take k) ∧ (∀ w0,Below B w0 w → Below B w0 w') := by
 rcases h.2 with ⟨h',_⟩ | ⟨g',cap',cur,h',hb,hg,hnc,hcm,hcs,htake⟩
 · cases h'
 ·
  simp only [Value.slice.injEq,Option.some.injEq,Addr.mk.injEq,and_true] at h'
  obtain ⟨e1,e2,e3⟩ := h'
  subst e1 e3
  have hlen : ((List.replicate (n - k) Ba.zero).flatMap Ba.rv).length = (n - k) * 2 := by rw [Ba.flat_len,List.length_replicate]
  have hst := run_storeCells_at Tryz.prog g (k * 2) 77 ((List.replicate (n - k) Ba.zero).flatMap Ba.rv) 0 cur w hg (by rw [hlen]; omega) (Ba.one_cell _)
  rw [Nat.add_zero] at hst
  obtain ⟨m,hm⟩ : ∃ m,n - k = m + 1 := ⟨n - k - 1,by omega⟩
  have hz : ∀ u,(zeroValue 77).run Tryz.prog u = .ok Ba.zeroV u := Tryz.zeroValue77
  refine ⟨w.setRow g (cur.toList.take (k * 2) ++ (List.replicate (n - k) Ba.zero).flatMap Ba.rv ++ cur.toList.drop (k * 2 + ((List.replicate (n - k) Ba.zero).flatMap Ba.rv).length)).toArray,fun ty c => ?_,?_,fun w0 hw => below_setRow hw hb _⟩
  ·
   rw [hm] at hst ⊢
   simp only [Builtin.clear_,Sem.run_bind,Sem.run_pure,run_underlying Tryz.underlying37,Result.andThen_ok,List.getElem?_toArray,List.getElem?_cons_zero,hz,zero_cells,hst]
  ·
   have hkl : (M.take k).length = k := by rw [List.length_take]; omega
   refine ⟨by rw [Ba.flat_len],.inr ⟨g,cap,_,by rw [hkl],hb,setRow_heap w g _ _ 77 _ hg,by rw [hkl]; omega,hcm,?_,?_⟩⟩
   ·
    rw [List.size_toArray,List.length_append,List.length_append,List.length_take,List.length_drop,hlen,Array.length_toList,hcs]
    simp only [Nat.min_def]
    split <;> omega
   · rw [hkl,List.toList_toArray,List.append_assoc,List.take_left' (by rw [List.length_take,Array.length_toList,hcs]; simp only [Nat.min_def]; split <;> omega),← Ba.flat_take,← htake,List.take_take,Nat.min_eq_left (by omega)]
theorem eq_of {r s : Ba.T} (h0 : r.acct = s.acct) (h1 : r.amt = s.amt) : r = s := by
 cases r
 cases s
 simp only at h0 h1
 subst h0 h1
 rfl
theorem comp_done {D dk : Array Ba.T} {k : Nat} (h : Lib.CompInv D D.size k dk) : Lib.compactUpTo D D.size = dk.toList.take k := by
 apply List.ext_getElem?
 intro j
 have hk := h.lt
 have hs := h.size
 by_cases hj : j < k
 · rw [h.low j hj,List.getElem?_take_of_lt hj,Array.getElem?_toList,getElem!_pos dk j (by omega),Array.getElem?_eq_getElem]
 · rw [List.getElem?_eq_none (by rw [h.len]; omega),List.getElem?_eq_none (by rw [List.length_take]; omega)]
theorem comp_all {D : Array Ba.T} (h : ∀ j,j < D.size → Lib.keeps D j = true) : Lib.compactUpTo D D.size = D.toList := by
 rw [Lib.compactUpTo_all D _ h,Lib.range_map_get]
set_option maxHeartbeats 8000000 in
theorem rows_compact (D : Array Ba.T) (B n cap : Nat) (ao : Option Addr) (w0 w : World) (hw : Below B w0 w) (hO : Ba.Own w B (.slice ao n cap) D.toList) (hn : n = D.size) (hm : n ≤ 100000) :
  Calls Tryz.prog 116 #[.slice ao n cap] w fun e w' => ∃ k : Nat,e = .returned (.slice ao k cap) ∧ Ba.Own w' B (.slice ao k cap) (Lib.compactUpTo D D.size) ∧ Below B w0 w' := by
 have HW := Lib.hid hw
 have HO := Lib.hid hO
 have HN := Lib.hid hn
 obtain ⟨hx,hfit,hcap⟩ := own_reach hO
 clear hx
 clear hw hO hn
 by_cases h2 : n < 2
 ·
  have HA := Lib.hid (comp_all (D := D) fun j hj => Lib.keeps_lt_one D j (by have := HN.out; omega))
  go_enter Tryz.func116,Tryz.ntmps116
  go_wp2_with fail
  go_ret
  exact ⟨n,rfl,by rw [HA.out]; exact HO.out,HW.out⟩
 ·
  obtain ⟨g,rfl⟩ := Ba.own_some HO.out (by omega)
  have HG : Hid (B ≤ g) := Lib.hid (Ba.own_ge HO.out g rfl)
  go_enter Tryz.func116,Tryz.ntmps116
  go_wp2_with fail
  go_loopw [3] (fun i wr => ∃ k : Nat,k + 1 ≤ n ∧ i = .int .i64 ((k + 1 : Nat) : Int) ∧ Hid (∀ j,j < k + 1 → Lib.keeps D j = true) ∧ Hid (Ba.Own wr B (.slice (some ⟨g,0,none⟩) n cap) D.toList ∧ Below B w0 wr)) (fun i _ => n + 1 - (intOf i).toNat)
  case atStart => exact ⟨0,by omega,rfl,Lib.hid (fun j hj => Lib.keeps_lt_one D j hj),Lib.hid ⟨HO.out,HW.out⟩⟩
  case round =>
   rename World => wz
   obtain ⟨k,hk,rfl,HK,H⟩ := hrel
   by_cases hlt : k + 1 < n
   ·
    have hk1 : k + 1 < D.size := HN.out ▸ hlt
    obtain ⟨hr1,_⟩ := own_get H.out.1 k (by omega)
    obtain ⟨hr2,_⟩ := own_get H.out.1 (k + 1) hk1
    obtain ⟨s,hs⟩ : ∃ s,D[k]! = s := ⟨_,rfl⟩
    obtain ⟨r,hr⟩ : ∃ r,D[k + 1]! = r := ⟨_,rfl⟩
    have HR := Lib.hid (And.intro hr hs)
    rw [hs] at hr1
    rw [hr] at hr2
    clear hs hr
    obtain ⟨g0,g1⟩ := hr1
    obtain ⟨f0,f1⟩ := hr2
    have g0' := cell_regrown g0
    have g1' := cell_regrown g1
    have f0' := cell_regrown f0
    have f1' := cell_regrown f1
    clear g0 g1 f0 f1
    have HStep : Hid (r ≠ s → ∀ j,j < k + 1 + 1 → Lib.keeps D j = true) := Lib.hid fun hne j hj => by
     by_cases e : j = k + 1
     ·
      subst e
      exact Lib.keeps_pos (by rw [Nat.add_sub_cancel,HR.out.1,HR.out.2]; exact hne)
     · exact HK.out j (by omega)
    by_cases e0 : r.acct = s.acct
    ·
     have q0 : (r.acct.toList == s.acct.toList) = true := beq_iff_eq.2 (by rw [e0])
     by_cases e1 : r.amt = s.amt
     ·
      have q1 : (r.amt == s.amt) = true := beq_iff_eq.2 e1
      have HD : Hid (Lib.keeps D (k + 1) = false) := Lib.hid (Lib.keeps_neg (by omega) (by rw [Nat.add_sub_cancel,HR.out.1,HR.out.2]; exact eq_of e0 e1))
      have HC0 : Hid (Lib.CompInv D (k + 1 + 0 + 1) (k + 1) D) := Lib.hid (Lib.CompInv.start HK.out HD.out)
      have hsl := rows_from g n cap (k + 1) (n - (k + 1)) (cap - (k + 1)) ((k : Int) + 1) (by omega) (by omega) (by omega) (by omega) (by omega) hcap
      obtain ⟨L,hL⟩ : ∃ L,n - (k + 1) = L := ⟨_,rfl⟩
      obtain ⟨C,hC⟩ : ∃ C,cap - (k + 1) = C := ⟨_,rfl⟩
      obtain ⟨o,ho⟩ : ∃ o,(k + 1) * 2 = o := ⟨_,rfl⟩
      rw [hL,hC,ho] at hsl
      have hC1 : C ≤ 9223372036854775807 := by omega
      have hLC : L ≤ C := by omega
      have hL1 : k + 1 + L ≤ n := by omega
      have hL2 : n ≤ k + 1 + L := by omega
      have HOo := Lib.hid ho
      clear e0 e1 HD HStep hC hL ho
      go_wp2_with fail
      refine wp_region_quiet_below (by kernel_rfl) (by kernel_rfl) ?_
      repeat (first | go_big_quiet_step (fail) | quiet_step (fail))
      refine wpQuiet_nil ?_
      intro _ hw'
      obtain ⟨⟨dq,osq⟩,hw''⟩ := hw'
      subst hw''
      have HV : Hid (Ba.Own (grow (redrawn wz dq) osq) B (.slice (some ⟨g,0,none⟩) n cap) D.toList ∧ Below B w0 (grow (redrawn wz dq) osq)) := Lib.hid ⟨Ba.own_below H.out.1 (below_regrown wz dq osq),H.out.2.trans ((below_regrown wz dq osq).mono (Nat.le_trans HG.out (Nat.le_of_lt (Ba.own_lt H.out.1))))⟩
      generalize grow (redrawn wz dq) osq = wv at *
      clear g0' g1' f0' f1' q0 q1 H
      go_wp2_with fail
      go_loopw [3,5] (fun a b wr => ∃ (kk j : Nat) (dk : Array Ba.T),a = .int .i64 kk ∧ b = .int .i64 ((j + 1 : Nat) : Int) ∧ j + 1 ≤ L ∧ kk < n ∧ Hid (Lib.CompInv D (k + 1 + j + 1) kk dk) ∧ Hid (Ba.Own wr B (.slice (some ⟨g,0,none⟩) n cap) dk.toList ∧ Below B w0 wr)) (fun _ b _ => L + 1 - (intOf b).toNat)
      case atStart => exact ⟨k + 1,0,D,by go_num,rfl,by omega,hlt,HC0,HV⟩
      case round =>
       clear HV HC0 hsl
       rename World => wy
       obtain ⟨kk,j,dk,rfl,rfl,hj,hkk,HI,H⟩ := hrel
       have oj1 : (k + 1 + j) * 2 = o + j * 2 := by have := HOo.out; omega
       have oj2 : (k + 1 + (j + 1)) * 2 = o + (j + 1) * 2 := by have := HOo.out; omega
       have hds : dk.size = n := by rw [HI.out.size,HN.out]
       have hkm := HI.out.lt
       by_cases hlt2 : j + 1 < L
       ·
        obtain ⟨hu1,hfz⟩ := own_get H.out.1 (k + 1 + j) (by omega)
        obtain ⟨hu2,_⟩ := own_get H.out.1 (k + 1 + (j + 1)) (by omega)
        obtain ⟨hu3,_⟩ := own_get H.out.1 kk (by omega)
        rw [HI.out.high (k + 1 + j) (by omega),oj1] at hu1
        rw [HI.out.high (k + 1 + (j + 1)) (by omega),oj2] at hu2
        clear oj1 oj2
        obtain ⟨v,hv⟩ : ∃ v,D[k + 1 + j]! = v := ⟨_,rfl⟩
        obtain ⟨u,hu⟩ : ∃ u,D[k + 1 + (j + 1)]! = u := ⟨_,rfl⟩
        have HUV := Lib.hid (And.intro hu hv)
        rw [hv] at hu1
        rw [hu] at hu2
        generalize dk[kk]! = old at hu3
        clear hu hv
        obtain ⟨g0,g1⟩ := hu1
        obtain ⟨f0,f1⟩ := hu2
        have g0' := cell_regrown g0
        have g1' := cell_regrown g1
        have f0' := cell_regrown f0
        have f1' := cell_regrown f1
        have HSkip : Hid (u = v → Lib.CompInv D (k + 1 + (j + 1) + 1) kk dk) := Lib.hid fun e => HI.out.skip (Lib.keeps_neg (by omega) (by rw [show k + 1 + j + 1 = k + 1 + (j + 1) by omega,HUV.out.1,show k + 1 + (j + 1) - 1 = k + 1 + j by omega,HUV.out.2]; exact e))
        have HKeep : Hid (u ≠ v → Lib.CompInv D (k + 1 + (j + 1) + 1) (kk + 1) (dk.setIfInBounds kk u)) := Lib.hid fun e => by
         have h := HI.out.keep (by rw [← HN.out]; omega) (Lib.keeps_pos (by rw [show k + 1 + j + 1 = k + 1 + (j + 1) by omega,HUV.out.1,show k + 1 + (j + 1) - 1 = k + 1 + j by omega,HUV.out.2]; exact e))
         rw [show k + 1 + j + 1 = k + 1 + (j + 1) by omega,HUV.out.1] at h
         exact h
        have HFr : Hid (∀ wv,Below wy.heap.size wy wv → (wv.cell? ⟨g,kk * 2,none⟩ = some (.string old.acct) ∧ wv.cell? ⟨g,kk * 2 + 1,none⟩ = some (.int .i64 old.amt) ∧ (∀ o,wv.frozen? ⟨g,o,none⟩ = false) ∧ wv.cell? ⟨g,o + (j + 1) * 2,none⟩ = some (.string u.acct) ∧ wv.cell? ⟨g,o + (j + 1) * 2 + 1,none⟩ = some (.int .i64 u.amt)) ∧ Ba.Own wv B (.slice (some ⟨g,0,none⟩) n cap) dk.toList ∧ Below B w0 wv) := Lib.hid fun wv hb => by
         have hgl : g < wy.heap.size := Ba.own_lt H.out.1
         refine ⟨⟨?_,?_,fun o => ?_,?_,?_⟩,Ba.own_below H.out.1 hb,H.out.2.trans (hb.mono (Nat.le_trans HG.out (Nat.le_of_lt hgl)))⟩
         · rw [(bcell hb).1 _ _ hgl]; exact hu3.c0
         · rw [(bcell hb).1 _ _ hgl]; exact hu3.c1
         · rw [(bcell hb).2 _ _ hgl]; exact hfz o
         · rw [(bcell hb).1 _ _ hgl]; exact f0
         · rw [(bcell hb).1 _ _ hgl]; exact f1
        clear hu3 hfz g0 g1 f0 f1 HI H
        have fin : u ≠ v → Hid (u ≠ v) := fun h => Lib.hid h
        have both : (u.acct = v.acct ∧ u.amt = v.amt) ∨ (u.acct = v.acct ∧ u.amt ≠ v.amt) ∨ u.acct ≠ v.acct := by
         by_cases h0 : u.acct = v.acct
         ·
          by_cases h1 : u.amt = v.amt
          · exact .inl ⟨h0,h1⟩
          · exact .inr (.inl ⟨h0,h1⟩)
         · exact .inr (.inr h0)
        rcases both with ⟨e0,e1⟩ | ⟨e0,e1⟩ | e0
        ·
         have q0 : (u.acct.toList == v.acct.toList) = true := beq_iff_eq.2 (by rw [e0])
         have q1 : (u.amt == v.amt) = true := beq_iff_eq.2 e1
         have HE := Lib.hid (HSkip.out (eq_of e0 e1))
         clear e0 e1 fin HSkip HKeep
         go_wp2_with fail
         refine wp_region_quiet_below (by kernel_rfl) (by kernel_rfl) ?_
         repeat (first | go_big_quiet_step (fail) | quiet_step (fail))
         refine wpQuiet_nil ?_
         intro _ hw'
         obtain ⟨⟨dq,osq⟩,hw''⟩ := hw'
         subst hw''
         have HV := Lib.hid (HFr.out _ (below_regrown wy dq osq)).2
         go_wp2_with fail
         go_roundw
         case rel => exact ⟨kk,j + 1,dk,rfl,by go_num,by omega,hkk,HE,HV⟩
         case measure => simp [intOf]; omega
        ·
         have q0 : (u.acct.toList == v.acct.toList) = true := beq_iff_eq.2 (by rw [e0])
         have q1 : (u.amt == v.amt) = false := beq_eq_false_iff_ne.2 e1
         have HE := Lib.hid (HKeep.out fun h => e1 (by rw [h]))
         clear e0 e1 fin HSkip HKeep
         go_wp2_with fail
         refine wp_region_quiet_below (by kernel_rfl) (by kernel_rfl) ?_
         repeat (first | go_big_quiet_step (fail) | quiet_step (fail))
         refine wpQuiet_nil ?_
         intro _ hw'
         obtain ⟨⟨dq,osq⟩,hw''⟩ := hw'
         subst hw''
         obtain ⟨⟨c0,c1,cf,c2,c3⟩,hV⟩ := HFr.out _ (below_regrown wy dq osq)
         have HV := Lib.hid hV
         clear hV g0' g1' f0' f1'
         have cf0 := cf (kk * 2)
         have cf1 := cf (kk * 2 + 1)
         clear cf
         generalize grow (redrawn wy dq) osq = wv at *
         have HP : Hid (Ba.Own ((wv.setCell ⟨g,kk * 2,none⟩ (.string u.acct)).setCell ⟨g,kk * 2 + 1,none⟩ (.int .i64 u.amt)) B (.slice (some ⟨g,0,none⟩) n cap) (dk.setIfInBounds kk u).toList ∧ Below B w0 ((wv.setCell ⟨g,kk * 2,none⟩ (.string u.acct)).setCell ⟨g,kk * 2 + 1,none⟩ (.int .i64 u.amt))) := Lib.hid ⟨by
          have h := Ba.own_store HV.out.1 kk (by rw [Array.length_toList,hds]; exact hkk) u
          rw [Array.toList_setIfInBounds]
          exact h,Ba.below_store HV.out.2 HG.out kk _ _⟩
         go_wp2_with fail
         go_roundw
         case rel => exact ⟨kk + 1,j + 1,dk.setIfInBounds kk u,by go_num,by go_num,by omega,by omega,HE,HP⟩
         case measure => simp [intOf]; omega
        ·
         have q0 : (u.acct.toList == v.acct.toList) = false := beq_eq_false_iff_ne.2 fun h => e0 (Vt.cat_ext h)
         have HE := Lib.hid (HKeep.out fun h => e0 (by rw [h]))
         clear e0 fin HSkip HKeep
         go_wp2_with fail
         refine wp_region_quiet_below (by kernel_rfl) (by kernel_rfl) ?_
         repeat (first | go_big_quiet_step (fail) | quiet_step (fail))
         refine wpQuiet_nil ?_
         intro _ hw'
         obtain ⟨⟨dq,osq⟩,hw''⟩ := hw'
         subst hw''
         obtain ⟨⟨c0,c1,cf,c2,c3⟩,hV⟩ := HFr.out _ (below_regrown wy dq osq)
         have HV := Lib.hid hV
         clear hV g0' g1' f0' f1'
         have cf0 := cf (kk * 2)
         have cf1 := cf (kk * 2 + 1)
         clear cf
         generalize grow (redrawn wy dq) osq = wv at *
         have HP : Hid (Ba.Own ((wv.setCell ⟨g,kk * 2,none⟩ (.string u.acct)).setCell ⟨g,kk * 2 + 1,none⟩ (.int .i64 u.amt)) B (.slice (some ⟨g,0,none⟩) n cap) (dk.setIfInBounds kk u).toList ∧ Below B w0 ((wv.setCell ⟨g,kk * 2,none⟩ (.string u.acct)).setCell ⟨g,kk * 2 + 1,none⟩ (.int .i64 u.amt))) := Lib.hid ⟨by
          have h := Ba.own_store HV.out.1 kk (by rw [Array.length_toList,hds]; exact hkk) u
          rw [Array.toList_setIfInBounds]
          exact h,Ba.below_store HV.out.2 HG.out kk _ _⟩
         go_wp2_with fail
         go_roundw
         case rel => exact ⟨kk + 1,j + 1,dk.setIfInBounds kk u,by go_num,by go_num,by omega,by omega,HE,HP⟩
         case measure => simp [intOf]; omega
       ·
        obtain rfl : j + 1 = L := by omega
        clear oj1 oj2
        have hnn : k + 1 + j + 1 = D.size := by rw [← HN.out]; omega
        have HI2 : Hid (Lib.compactUpTo D D.size = dk.toList.take kk) := Lib.hid (comp_done (by have h := HI.out; rw [hnn] at h; exact h))
        obtain ⟨W,hcl,hW1,hW2⟩ := rows_clear H.out.1 hkk
        have HW1 := Lib.hid hW1
        have HW2 := Lib.hid (hW2 w0 H.out.2)
        have hs1 := rows_from g n cap kk (n - kk) (cap - kk) (kk : Int) rfl (by omega) (by omega) (by omega) (by omega) hcap
        have hs2 := rows_to g n cap kk (kk : Int) rfl (by omega) hcap
        clear hW1 hW2 HI H
        go_wp2_with fail
        go_ret
        exact ⟨kk,rfl,by rw [HI2.out]; exact HW1.out,HW2.out⟩
     ·
      have q1 : (r.amt == s.amt) = false := beq_eq_false_iff_ne.2 e1
      have HE := Lib.hid (HStep.out fun h => e1 (by rw [h]))
      clear e0 e1
      go_wp2_with fail
      refine wp_region_quiet_below (by kernel_rfl) (by kernel_rfl) ?_
      repeat (first | go_big_quiet_step (fail) | quiet_step (fail))
      refine wpQuiet_nil ?_
      intro _ hw'
      obtain ⟨⟨dq,osq⟩,hw''⟩ := hw'
      subst hw''
      have HV : Hid (Ba.Own (grow (redrawn wz dq) osq) B (.slice (some ⟨g,0,none⟩) n cap) D.toList ∧ Below B w0 (grow (redrawn wz dq) osq)) := Lib.hid ⟨Ba.own_below H.out.1 (below_regrown wz dq osq),H.out.2.trans ((below_regrown wz dq osq).mono (Nat.le_trans HG.out (Nat.le_of_lt (Ba.own_lt H.out.1))))⟩
      go_wp2_with fail
      go_roundw
      case rel => exact ⟨k + 1,by omega,by go_num,HE,HV⟩
      case measure => simp [intOf]; omega
    ·
     have q0 : (r.acct.toList == s.acct.toList) = false := beq_eq_false_iff_ne.2 fun h => e0 (Vt.cat_ext h)
     have HE := Lib.hid (HStep.out fun h => e0 (by rw [h]))
     clear e0
     go_wp2_with fail
     refine wp_region_quiet_below (by kernel_rfl) (by kernel_rfl) ?_
     repeat (first | go_big_quiet_step (fail) | quiet_step (fail))
     refine wpQuiet_nil ?_
     intro _ hw'
     obtain ⟨⟨dq,osq⟩,hw''⟩ := hw'
     subst hw''
     have HV : Hid (Ba.Own (grow (redrawn wz dq) osq) B (.slice (some ⟨g,0,none⟩) n cap) D.toList ∧ Below B w0 (grow (redrawn wz dq) osq)) := Lib.hid ⟨Ba.own_below H.out.1 (below_regrown wz dq osq),H.out.2.trans ((below_regrown wz dq osq).mono (Nat.le_trans HG.out (Nat.le_of_lt (Ba.own_lt H.out.1))))⟩
     go_wp2_with fail
     go_roundw
     case rel => exact ⟨k + 1,by omega,by go_num,HE,HV⟩
     case measure => simp [intOf]; omega
   ·
    obtain rfl : k + 1 = n := by omega
    have HA := Lib.hid (comp_all (D := D) fun j hj => HK.out j (by have := HN.out; omega))
    go_wp2_with fail
    go_ret
    exact ⟨k + 1,by go_num,by rw [HA.out]; exact H.out.1,H.out.2⟩
end Go.Proofs.YtjpfpojbalepeabGreat
