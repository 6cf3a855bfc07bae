/- impostref16.RightLetter of kind 3. (By genrl.py.) -/
import Derived.Test.YtagjbjppddbalaaYLtLtBl
import Derived.Test.YtagjbjppddbalaaYLtWlRgP
set_option maxRecDepth 100000
set_option linter.unusedVariables false
namespace Go.Proofs.Ytagjbjppddbalaa.Lr
open Go.RowKit
open Mem
open Go.Sort (grow)
set_option maxHeartbeats 8000000 in
theorem rl_k3 (frm to term idx bt com mem off size : Int) (yes : Bool) (data : ByteArray) (ao : Option Addr) (n cap : Nat) (l : List Et.T) (w : World) (ans : Bool) (HE : Hid (ans = (((idx == 0) == (bt == 0)) && ((!decide ((n : Int) > 8)) && ((!decide (idx > 1099511627776 - (n : Int))) && (Wl.rAll term bt l && ((mem == 0) && ((off == 0) && ((size == 0) && ((yes == false) && (data.toList == []))))))))))) (hl : Et.Ls w ao n cap l) (c2 : ¬ frm < 0) (c3 : ¬ frm ≥ 7) (c4 : ¬ to < 0) (c5 : ¬ to ≥ 7) (c6 : ¬ frm = to) (c7 : ¬ term < 1) (c8 : ¬ term > 1099511627776) (c9 : ¬ idx < 0) (c10 : ¬ idx > 1099511627776) (c11 : ¬ bt < 0) (c12 : ¬ bt > term) (c13 : ¬ com < 0) (c14 : ¬ com > 1099511627776) :
  Calls Try.prog 15 #[Lr.val ⟨3,frm,to,term,idx,bt,com,mem,off,size,yes,data,⟨ao,n,cap⟩⟩] w fun e w' => e = .returned (.bool ans) ∧ Below w.heap.size w w' := by
 have e6 : (frm == to) = false := beq_eq_false_iff_ne.2 c6
 clear c6
 have hcap := hl.fits
 have hreach := hl.reach
 obtain ⟨Z,hZ⟩ : ∃ Z,((w.alloc (.cells #[.int .i64 3,.int .i64 frm,.int .i64 to,.int .i64 term,.int .i64 idx,.int .i64 bt,.int .i64 com,.int .i64 mem,.int .i64 off,.int .i64 size,.bool yes,.string data,.slice ao n cap] 24)).alloc (.cells #[.int .i64 3,.int .i64 frm,.int .i64 to,.int .i64 term,.int .i64 idx,.int .i64 bt,.int .i64 com,.int .i64 0,.int .i64 0,.int .i64 0,.bool false,.string ⟨#[]⟩,.slice none 0 0] 24)).drew = Z := ⟨_,rfl⟩
 have hbZ : Below w.heap.size w Z := hZ ▸ (below_box (below_box (Below.refl _ _) _) _).drew
 have HBZ := Lib.hid hbZ
 have ra : Z.heap[w.heap.size]? = some (.cells #[.int .i64 3,.int .i64 frm,.int .i64 to,.int .i64 term,.int .i64 idx,.int .i64 bt,.int .i64 com,.int .i64 mem,.int .i64 off,.int .i64 size,.bool yes,.string data,.slice ao n cap] 24 (0,0)) := by
  rw [← hZ]
  exact heap_old (heap_alloc_new w _)
 have rb : Z.heap[w.heap.size + 1]? = some (.cells #[.int .i64 3,.int .i64 frm,.int .i64 to,.int .i64 term,.int .i64 idx,.int .i64 bt,.int .i64 com,.int .i64 0,.int .i64 0,.int .i64 0,.bool false,.string ⟨#[]⟩,.slice none 0 0] 24 (0,0)) := by
  rw [← hZ]
  exact heap_next w _ _
 have ha := (Array.getElem?_eq_some_iff.1 ra).1
 have hb := (Array.getElem?_eq_some_iff.1 rb).1
 have LZ : Hid (∀ y,Below Z.heap.size Z y → y.cell? ⟨w.heap.size,0,none⟩ = some (.int .i64 3) ∧ y.cell? ⟨w.heap.size,1,none⟩ = some (.int .i64 frm) ∧ y.cell? ⟨w.heap.size,2,none⟩ = some (.int .i64 to) ∧ y.cell? ⟨w.heap.size,3,none⟩ = some (.int .i64 term) ∧ y.cell? ⟨w.heap.size,4,none⟩ = some (.int .i64 idx) ∧ y.cell? ⟨w.heap.size,5,none⟩ = some (.int .i64 bt) ∧ y.cell? ⟨w.heap.size,6,none⟩ = some (.int .i64 com) ∧ y.cell? ⟨w.heap.size,7,none⟩ = some (.int .i64 mem) ∧ y.cell? ⟨w.heap.size,8,none⟩ = some (.int .i64 off) ∧ y.cell? ⟨w.heap.size,9,none⟩ = some (.int .i64 size) ∧ y.cell? ⟨w.heap.size,10,none⟩ = some (.bool yes) ∧ y.cell? ⟨w.heap.size,11,none⟩ = some (.string data) ∧ y.cell? ⟨w.heap.size,12,none⟩ = some (.slice ao n cap) ∧ y.cell? ⟨w.heap.size + 1,4,none⟩ = some (.int .i64 idx) ∧ y.cell? ⟨w.heap.size + 1,5,none⟩ = some (.int .i64 bt) ∧ y.cell? ⟨w.heap.size + 1,6,none⟩ = some (.int .i64 com) ∧ y.cell? ⟨w.heap.size + 1,7,none⟩ = some (.int .i64 0) ∧ y.cell? ⟨w.heap.size + 1,8,none⟩ = some (.int .i64 0) ∧ y.cell? ⟨w.heap.size + 1,9,none⟩ = some (.int .i64 0) ∧ y.cell? ⟨w.heap.size + 1,10,none⟩ = some (.bool false) ∧ y.cell? ⟨w.heap.size + 1,11,none⟩ = some (.string ⟨#[]⟩)) := Lib.hid fun y k => ⟨((bcell k).1 _ _ ha).trans ((cell_of_row Z w.heap.size 0 _ _ _ ra).trans rfl),((bcell k).1 _ _ ha).trans ((cell_of_row Z w.heap.size 1 _ _ _ ra).trans rfl),((bcell k).1 _ _ ha).trans ((cell_of_row Z w.heap.size 2 _ _ _ ra).trans rfl),((bcell k).1 _ _ ha).trans ((cell_of_row Z w.heap.size 3 _ _ _ ra).trans rfl),((bcell k).1 _ _ ha).trans ((cell_of_row Z w.heap.size 4 _ _ _ ra).trans rfl),((bcell k).1 _ _ ha).trans ((cell_of_row Z w.heap.size 5 _ _ _ ra).trans rfl),((bcell k).1 _ _ ha).trans ((cell_of_row Z w.heap.size 6 _ _ _ ra).trans rfl),((bcell k).1 _ _ ha).trans ((cell_of_row Z w.heap.size 7 _ _ _ ra).trans rfl),((bcell k).1 _ _ ha).trans ((cell_of_row Z w.heap.size 8 _ _ _ ra).trans rfl),((bcell k).1 _ _ ha).trans ((cell_of_row Z w.heap.size 9 _ _ _ ra).trans rfl),((bcell k).1 _ _ ha).trans ((cell_of_row Z w.heap.size 10 _ _ _ ra).trans rfl),((bcell k).1 _ _ ha).trans ((cell_of_row Z w.heap.size 11 _ _ _ ra).trans rfl),((bcell k).1 _ _ ha).trans ((cell_of_row Z w.heap.size 12 _ _ _ ra).trans rfl),((bcell k).1 _ _ hb).trans ((cell_of_row Z (w.heap.size + 1) 4 _ _ _ rb).trans rfl),((bcell k).1 _ _ hb).trans ((cell_of_row Z (w.heap.size + 1) 5 _ _ _ rb).trans rfl),((bcell k).1 _ _ hb).trans ((cell_of_row Z (w.heap.size + 1) 6 _ _ _ rb).trans rfl),((bcell k).1 _ _ hb).trans ((cell_of_row Z (w.heap.size + 1) 7 _ _ _ rb).trans rfl),((bcell k).1 _ _ hb).trans ((cell_of_row Z (w.heap.size + 1) 8 _ _ _ rb).trans rfl),((bcell k).1 _ _ hb).trans ((cell_of_row Z (w.heap.size + 1) 9 _ _ _ rb).trans rfl),((bcell k).1 _ _ hb).trans ((cell_of_row Z (w.heap.size + 1) 10 _ _ _ rb).trans rfl),((bcell k).1 _ _ hb).trans ((cell_of_row Z (w.heap.size + 1) 11 _ _ _ rb).trans rfl)⟩
 have HL := Lib.hid (hl.below hbZ)
 have HN := Lib.hid hl.len
 have HZ := Lib.hid hZ
 clear hbZ ra rb ha hb hl hZ
 unfold Lr.val
 dsimp only
 go_enter Try.func15,Try.ntmps15
 go_wp2_with fail
 clear c2 c3 c4 c5 c7 c8 c9 c10 c11 c12 c13 c14 e6
 go_region
 rw [HZ.out]
 clear HZ
 obtain ⟨a0,a1,a2,a3,a4,a5,a6,a7,a8,a9,a10,a11,a12,b4,b5,b6,b7,b8,b9,b10,b11⟩ := LZ.out Z (Below.refl _ _)
 cases u8 : (idx == 0)
 ·
  cases p0 : (false == (bt == 0))
  ·
   have p1 : (bt == 0) = true := by
    revert p0
    cases (bt == 0) <;> decide
   rw [u8,p1] at HE
   go_wp2_with fail
   go_ret
   first | exact ⟨ret_bool HE.out.symm,HBZ.out⟩ | exact ⟨ret_bool HE.out.symm,(HBZ.out).drew⟩
  ·
   have p1 : (bt == 0) = false := by
    revert p0
    cases (bt == 0) <;> decide
   clear p0
   rw [u8,p1,BEq.rfl,Bool.true_and] at HE
   by_cases t0 : (n : Int) > 8
   ·
    rw [decide_eq_true t0,Bool.not_true,Bool.false_and] at HE
    go_wp2_with fail
    go_ret
    first | exact ⟨ret_bool HE.out.symm,HBZ.out⟩ | exact ⟨ret_bool HE.out.symm,(HBZ.out).drew⟩
   rw [decide_eq_false t0,Bool.not_false,Bool.true_and] at HE
   by_cases t1 : idx > 1099511627776 - (n : Int)
   ·
    rw [decide_eq_true t1,Bool.not_true,Bool.false_and] at HE
    go_wp2_with fail
    go_ret
    first | exact ⟨ret_bool HE.out.symm,HBZ.out⟩ | exact ⟨ret_bool HE.out.symm,(HBZ.out).drew⟩
   rw [decide_eq_false t1,Bool.not_false,Bool.true_and] at HE
   go_wp2_with fail
   clear a0 a1 a2 a3 a4 a5 a6 a7 a8 a9 a10 a11 a12 b4 b5 b6 b7 b8 b9 b10 b11
   go_loopw [4,5] (fun c i wr => ∃ (k : Nat) (s : Int),k ≤ n ∧ i = .int .i64 k ∧ c = .int .i64 s ∧ Hid (Wl.rAll term s (l.drop k) = Wl.rAll term bt l) ∧ Hid (Below Z.heap.size Z wr)) (fun _ i _ => n - (intOf i).toNat)
   case atStart => exact ⟨0,_,Nat.zero_le _,rfl,rfl,Lib.hid rfl,Lib.hid (Below.refl _ _)⟩
   case round =>
    rename World => wz
    obtain ⟨k,s,hk,rfl,rfl,HK,HBz⟩ := hrel
    obtain ⟨a0,a1,a2,a3,a4,a5,a6,a7,a8,a9,a10,a11,a12,b4,b5,b6,b7,b8,b9,b10,b11⟩ := LZ.out wz HBz.out
    by_cases hlt : k < n
    ·
     have hka : k < l.length := HN.out ▸ hlt
     obtain ⟨ga,oa,rfl⟩ := HL.out.at (by omega)
     have hra := (HL.out.row k hka).below HBz.out
     have hsh := HL.out.short _ (List.getElem_mem hka)
     have HD : Hid (l.drop k = l[k] :: l.drop (k + 1)) := Lib.hid (List.drop_eq_getElem_cons hka)
     obtain ⟨x,hx⟩ : ∃ x,l[k] = x := ⟨_,rfl⟩
     rw [hx] at hra HD hsh
     clear hx
     obtain ⟨g0,g1,g2⟩ := hra
     have g0' := cell_regrown g0
     have g1' := cell_regrown g1
     have g2' := cell_regrown g2
     have x12' := cell_regrown a12
     have x3' := cell_regrown a3
     have cE := Wl.entry_ag x s term hsh wz
     unfold Et.val AnsW at cE
     have HX : Hid (Wl.rAll term s (l.drop k) = (Wl.rEntry x s term && Wl.rAll term x.term (l.drop (k + 1)))) := Lib.hid (by rw [HD.out]; rfl)
     have g0x := g0
     clear g0 g1 g2 hsh HD a0 a1 a2 a4 a5 a6 a7 a8 a9 a10 a11 b4 b5 b6 b7 b8 b9 b10 b11
     cases q : Wl.rEntry x s term
     ·
      rw [q] at cE
      rw [q,Bool.false_and] at HX
      have HR : Hid (Wl.rAll term bt l = false) := Lib.hid (HK.out.symm.trans HX.out)
      rw [HR.out,Bool.false_and] at HE
      clear HX HK
      go_wp2_with fail
      refine wp_region_quiet_below (by kernel_rfl) (by kernel_rfl) ?_
      repeat (first | go_big_quiet_step (first | (go_at_call 31; with_reducible exact cE _ _)) | quiet_step (first | (go_at_call 31; with_reducible exact cE _ _)))
      refine wpQuiet_nil ?_
      intro _ hw'
      obtain ⟨⟨dq,osq⟩,hw''⟩ := hw'
      subst hw''
      have HBv := Lib.hid (bchain HBz.out (below_regrown wz dq osq))
      go_wp2_with fail
      go_ret
      exact ⟨ret_bool HE.out.symm,bchain HBZ.out HBv.out⟩
     ·
      rw [q] at cE
      rw [q,Bool.true_and] at HX
      have HR : Hid (Wl.rAll term x.term (l.drop (k + 1)) = Wl.rAll term bt l) := Lib.hid (HX.out.symm.trans HK.out)
      clear HX HK
      go_wp2_with fail
      refine wp_region_quiet_below (by kernel_rfl) (by kernel_rfl) ?_
      repeat (first | go_big_quiet_step (first | (go_at_call 31; with_reducible exact cE _ _)) | quiet_step (first | (go_at_call 31; with_reducible exact cE _ _)))
      refine wpQuiet_nil ?_
      intro _ hw'
      obtain ⟨⟨dq,osq⟩,hw''⟩ := hw'
      subst hw''
      have HBv := Lib.hid (bchain HBz.out (below_regrown wz dq osq))
      have k0 := ((bcell (below_regrown wz dq osq)).1 _ _ (cell_lt g0x)).trans g0x
      have k12 := ((bcell (below_regrown wz dq osq)).1 _ _ (cell_lt a12)).trans a12
      go_wp2_with fail
      go_roundw
      case rel => exact ⟨k + 1,x.term,by omega,by go_num,rfl,HR,HBv⟩
      case measure => simp [intOf]; omega
    ·
     obtain rfl : k = n := by omega
     have HR : Hid (Wl.rAll term bt l = true) := Lib.hid (by
      rw [← HK.out,List.drop_eq_nil_of_le (by have := HN.out; omega)]
      rfl)
     rw [HR.out,Bool.true_and] at HE
     clear HK
     cases u0 : (mem == 0)
     ·
      rw [u0,Bool.false_and] at HE
      go_wp2_with fail
      go_ret
      first | exact ⟨ret_bool HE.out.symm,bchain HBZ.out HBz.out⟩ | exact ⟨ret_bool HE.out.symm,(bchain HBZ.out HBz.out).drew⟩
     rw [u0,Bool.true_and] at HE
     cases u1 : (off == 0)
     ·
      rw [u1,Bool.false_and] at HE
      go_wp2_with fail
      go_ret
      first | exact ⟨ret_bool HE.out.symm,bchain HBZ.out HBz.out⟩ | exact ⟨ret_bool HE.out.symm,(bchain HBZ.out HBz.out).drew⟩
     rw [u1,Bool.true_and] at HE
     cases u2 : (size == 0)
     ·
      rw [u2,Bool.false_and] at HE
      go_wp2_with fail
      go_ret
      first | exact ⟨ret_bool HE.out.symm,bchain HBZ.out HBz.out⟩ | exact ⟨ret_bool HE.out.symm,(bchain HBZ.out HBz.out).drew⟩
     rw [u2,Bool.true_and] at HE
     cases u3 : (yes == false)
     ·
      rw [u3,Bool.false_and] at HE
      go_wp2_with fail
      go_ret
      first | exact ⟨ret_bool HE.out.symm,bchain HBZ.out HBz.out⟩ | exact ⟨ret_bool HE.out.symm,(bchain HBZ.out HBz.out).drew⟩
     rw [u3,Bool.true_and] at HE
     cases u4 : (data.toList == [])
     ·
      rw [u4] at HE
      go_wp2_with fail
      go_ret
      first | exact ⟨ret_bool HE.out.symm,bchain HBZ.out HBz.out⟩ | exact ⟨ret_bool HE.out.symm,(bchain HBZ.out HBz.out).drew⟩
     ·
      rw [u4] at HE
      go_wp2_with fail
      go_ret
      first | exact ⟨ret_bool HE.out.symm,bchain HBZ.out HBz.out⟩ | exact ⟨ret_bool HE.out.symm,(bchain HBZ.out HBz.out).drew⟩
 ·
  cases p0 : (true == (bt == 0))
  ·
   have p1 : (bt == 0) = false := by
    revert p0
    cases (bt == 0) <;> decide
   rw [u8,p1] at HE
   go_wp2_with fail
   go_ret
   first | exact ⟨ret_bool HE.out.symm,HBZ.out⟩ | exact ⟨ret_bool HE.out.symm,(HBZ.out).drew⟩
  ·
   have p1 : (bt == 0) = true := by
    revert p0
    cases (bt == 0) <;> decide
   clear p0
   rw [u8,p1,BEq.rfl,Bool.true_and] at HE
   by_cases t0 : (n : Int) > 8
   ·
    rw [decide_eq_true t0,Bool.not_true,Bool.false_and] at HE
    go_wp2_with fail
    go_ret
    first | exact ⟨ret_bool HE.out.symm,HBZ.out⟩ | exact ⟨ret_bool HE.out.symm,(HBZ.out).drew⟩
   rw [decide_eq_false t0,Bool.not_false,Bool.true_and] at HE
   by_cases t1 : idx > 1099511627776 - (n : Int)
   ·
    rw [decide_eq_true t1,Bool.not_true,Bool.false_and] at HE
    go_wp2_with fail
    go_ret
    first | exact ⟨ret_bool HE.out.symm,HBZ.out⟩ | exact ⟨ret_bool HE.out.symm,(HBZ.out).drew⟩
   rw [decide_eq_false t1,Bool.not_false,Bool.true_and] at HE
   go_wp2_with fail
   clear a0 a1 a2 a3 a4 a5 a6 a7 a8 a9 a10 a11 a12 b4 b5 b6 b7 b8 b9 b10 b11
   go_loopw [4,5] (fun c i wr => ∃ (k : Nat) (s : Int),k ≤ n ∧ i = .int .i64 k ∧ c = .int .i64 s ∧ Hid (Wl.rAll term s (l.drop k) = Wl.rAll term bt l) ∧ Hid (Below Z.heap.size Z wr)) (fun _ i _ => n - (intOf i).toNat)
   case atStart => exact ⟨0,_,Nat.zero_le _,rfl,rfl,Lib.hid rfl,Lib.hid (Below.refl _ _)⟩
   case round =>
    rename World => wz
    obtain ⟨k,s,hk,rfl,rfl,HK,HBz⟩ := hrel
    obtain ⟨a0,a1,a2,a3,a4,a5,a6,a7,a8,a9,a10,a11,a12,b4,b5,b6,b7,b8,b9,b10,b11⟩ := LZ.out wz HBz.out
    by_cases hlt : k < n
    ·
     have hka : k < l.length := HN.out ▸ hlt
     obtain ⟨ga,oa,rfl⟩ := HL.out.at (by omega)
     have hra := (HL.out.row k hka).below HBz.out
     have hsh := HL.out.short _ (List.getElem_mem hka)
     have HD : Hid (l.drop k = l[k] :: l.drop (k + 1)) := Lib.hid (List.drop_eq_getElem_cons hka)
     obtain ⟨x,hx⟩ : ∃ x,l[k] = x := ⟨_,rfl⟩
     rw [hx] at hra HD hsh
     clear hx
     obtain ⟨g0,g1,g2⟩ := hra
     have g0' := cell_regrown g0
     have g1' := cell_regrown g1
     have g2' := cell_regrown g2
     have x12' := cell_regrown a12
     have x3' := cell_regrown a3
     have cE := Wl.entry_ag x s term hsh wz
     unfold Et.val AnsW at cE
     have HX : Hid (Wl.rAll term s (l.drop k) = (Wl.rEntry x s term && Wl.rAll term x.term (l.drop (k + 1)))) := Lib.hid (by rw [HD.out]; rfl)
     have g0x := g0
     clear g0 g1 g2 hsh HD a0 a1 a2 a4 a5 a6 a7 a8 a9 a10 a11 b4 b5 b6 b7 b8 b9 b10 b11
     cases q : Wl.rEntry x s term
     ·
      rw [q] at cE
      rw [q,Bool.false_and] at HX
      have HR : Hid (Wl.rAll term bt l = false) := Lib.hid (HK.out.symm.trans HX.out)
      rw [HR.out,Bool.false_and] at HE
      clear HX HK
      go_wp2_with fail
      refine wp_region_quiet_below (by kernel_rfl) (by kernel_rfl) ?_
      repeat (first | go_big_quiet_step (first | (go_at_call 31; with_reducible exact cE _ _)) | quiet_step (first | (go_at_call 31; with_reducible exact cE _ _)))
      refine wpQuiet_nil ?_
      intro _ hw'
      obtain ⟨⟨dq,osq⟩,hw''⟩ := hw'
      subst hw''
      have HBv := Lib.hid (bchain HBz.out (below_regrown wz dq osq))
      go_wp2_with fail
      go_ret
      exact ⟨ret_bool HE.out.symm,bchain HBZ.out HBv.out⟩
     ·
      rw [q] at cE
      rw [q,Bool.true_and] at HX
      have HR : Hid (Wl.rAll term x.term (l.drop (k + 1)) = Wl.rAll term bt l) := Lib.hid (HX.out.symm.trans HK.out)
      clear HX HK
      go_wp2_with fail
      refine wp_region_quiet_below (by kernel_rfl) (by kernel_rfl) ?_
      repeat (first | go_big_quiet_step (first | (go_at_call 31; with_reducible exact cE _ _)) | quiet_step (first | (go_at_call 31; with_reducible exact cE _ _)))
      refine wpQuiet_nil ?_
      intro _ hw'
      obtain ⟨⟨dq,osq⟩,hw''⟩ := hw'
      subst hw''
      have HBv := Lib.hid (bchain HBz.out (below_regrown wz dq osq))
      have k0 := ((bcell (below_regrown wz dq osq)).1 _ _ (cell_lt g0x)).trans g0x
      have k12 := ((bcell (below_regrown wz dq osq)).1 _ _ (cell_lt a12)).trans a12
      go_wp2_with fail
      go_roundw
      case rel => exact ⟨k + 1,x.term,by omega,by go_num,rfl,HR,HBv⟩
      case measure => simp [intOf]; omega
    ·
     obtain rfl : k = n := by omega
     have HR : Hid (Wl.rAll term bt l = true) := Lib.hid (by
      rw [← HK.out,List.drop_eq_nil_of_le (by have := HN.out; omega)]
      rfl)
     rw [HR.out,Bool.true_and] at HE
     clear HK
     cases u0 : (mem == 0)
     ·
      rw [u0,Bool.false_and] at HE
      go_wp2_with fail
      go_ret
      first | exact ⟨ret_bool HE.out.symm,bchain HBZ.out HBz.out⟩ | exact ⟨ret_bool HE.out.symm,(bchain HBZ.out HBz.out).drew⟩
     rw [u0,Bool.true_and] at HE
     cases u1 : (off == 0)
     ·
      rw [u1,Bool.false_and] at HE
      go_wp2_with fail
      go_ret
      first | exact ⟨ret_bool HE.out.symm,bchain HBZ.out HBz.out⟩ | exact ⟨ret_bool HE.out.symm,(bchain HBZ.out HBz.out).drew⟩
     rw [u1,Bool.true_and] at HE
     cases u2 : (size == 0)
     ·
      rw [u2,Bool.false_and] at HE
      go_wp2_with fail
      go_ret
      first | exact ⟨ret_bool HE.out.symm,bchain HBZ.out HBz.out⟩ | exact ⟨ret_bool HE.out.symm,(bchain HBZ.out HBz.out).drew⟩
     rw [u2,Bool.true_and] at HE
     cases u3 : (yes == false)
     ·
      rw [u3,Bool.false_and] at HE
      go_wp2_with fail
      go_ret
      first | exact ⟨ret_bool HE.out.symm,bchain HBZ.out HBz.out⟩ | exact ⟨ret_bool HE.out.symm,(bchain HBZ.out HBz.out).drew⟩
     rw [u3,Bool.true_and] at HE
     cases u4 : (data.toList == [])
     ·
      rw [u4] at HE
      go_wp2_with fail
      go_ret
      first | exact ⟨ret_bool HE.out.symm,bchain HBZ.out HBz.out⟩ | exact ⟨ret_bool HE.out.symm,(bchain HBZ.out HBz.out).drew⟩
     ·
      rw [u4] at HE
      go_wp2_with fail
      go_ret
      first | exact ⟨ret_bool HE.out.symm,bchain HBZ.out HBz.out⟩ | exact ⟨ret_bool HE.out.symm,(bchain HBZ.out HBz.out).drew⟩
end Go.Proofs.Ytagjbjppddbalaa.Lr
