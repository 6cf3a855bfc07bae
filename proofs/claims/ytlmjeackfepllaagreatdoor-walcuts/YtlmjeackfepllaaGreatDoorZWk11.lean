import Derived.Deep.RegionHeld3
import Derived.Maps.AppendAt
import Derived.Laws.AppendOwnNone
import Derived.Laws.Rows
import Derived.Deep.RegionWith
import Derived.RegionTactic
import Derived.SizedLaws
import Derived.Deep.RegionLaw
import Derived.Deep.Slices
import Derived.Deep.DeepCutAuto
import Derived.Deep.CutBlock
import Derived.Test.YtlmjeackfepllaaGreatDoorZWk1
import Derived.Test.YtlmjeackfepllaaGreatDoorZWk2
import Derived.Test.YtlmjeackfepllaaGreatDoorZWk3
import Derived.Test.YtlmjeackfepllaaGreatDoorZWk4
import Derived.Test.YtlmjeackfepllaaGreatDoorZWk6
import Derived.Test.YtlmjeackfepllaaGreatDoorZWk8
import Derived.Test.YtlmjeackfepllaaGreatDoorZWk9
import Derived.Test.YtlmjeackfepllaaGreatDoorZWk10
set_option maxRecDepth 100000
set_option linter.unusedVariables false
namespace Go.Proofs.YtlmjeackfepllaaGreatDoor.Wl
open Go.RowKit
open Mem
open Go.Sort (grow)
set_option maxHeartbeats 8000000 in
theorem rf_yes (r : Hd.T) (l : List Et.T) (w : World) (hl : Et.Ls w r.log.ao r.log.n r.log.cap l) (hz : r.snap.size ≤ 140737488355328) (c0 : ¬ r.term < 0) (c1 : ¬ r.term > 1099511627776) (c2 : ¬ r.vote < -1) (c3 : ¬ r.vote ≥ 7) (c4 : ¬ r.base < 0) (c5 : ¬ r.base > 1099511627776) (c6 : ¬ r.bt < 0) (c7 : ¬ r.bt > r.term) (c8 : (r.base == 0) = (r.bt == 0)) (c9 : ¬ r.mem < 1) (c10 : ¬ r.mem ≥ 128) (c11 : (r.base == 0) = (r.snap.toList == [])) (c12 : ¬ (r.snap.size : Int) > 65536) (c13 : ¬ (r.log.n : Int) > 200) (c14 : ¬ r.base > 1099511627776 - (r.log.n : Int)) :
  Calls Tryz.prog 20 #[Hd.val r] w fun e w' => e = .returned (.bool (rAll r.term r.bt l)) ∧ Below w.heap.size w w' := by
 obtain ⟨term,vote,base,bt,mem,snap,ao,n,cap⟩ := r
 dsimp only at *
 obtain ⟨W,hW,hbW,hC⟩ := Hd.boxed1 w ⟨term,vote,base,bt,mem,snap,⟨ao,n,cap⟩⟩
 have HB := Lib.hid hbW
 have h1 := hl.fits
 have h2 := hl.reach
 unfold Hd.C at hC
 dsimp only at hC hW
 obtain ⟨a0,a1,a2,a3,a4,a5,a6⟩ := hC
 unfold Hd.val
 dsimp only
 have HL := Lib.hid (hl.below hbW)
 have HN := Lib.hid hl.len
 have lz : ∀ y,Below W.heap.size W y → y.cell? ⟨w.heap.size,6,none⟩ = some (.slice ao n cap) ∧ y.cell? ⟨w.heap.size,0,none⟩ = some (.int .i64 term) := fun y k => ⟨((bcell k).1 _ _ (cell_lt a6)).trans a6,((bcell k).1 _ _ (cell_lt a0)).trans a0⟩
 have LZ := Lib.hid lz
 clear lz hl hbW
 cases u8 : (base == 0)
 ·
  have v8 := c8.symm.trans u8
  have v11 := c11.symm.trans u8
  clear c8 c11
  go_enter Tryz.func20,Tryz.ntmps20
  go_wp2_with fail
  clear c0 c1 c2 c3 c4 c5 c6 c7 c9 c10 c12 c13 c14 a0 a1 a2 a3 a4 a5 a6 hW
  go_loopw [3,4] (fun c i wr => ∃ (k : Nat) (s : Int),k ≤ n ∧ i = .int .i64 k ∧ c = .int .i64 s ∧ Hid (rAll term s (l.drop k) = rAll term bt l) ∧ Hid (Below W.heap.size W wr)) (fun _ i _ => n - (intOf i).toNat)
  case atStart => exact ⟨0,_,Nat.zero_le _,rfl,rfl,Lib.hid rfl,Lib.hid (Below.refl _ _)⟩
  case round =>
   rename World => wz
   obtain ⟨k,s,hk,rfl,rfl,HK,HBz⟩ := hrel
   obtain ⟨x6,x0⟩ := LZ.out wz HBz.out
   by_cases hlt : k < n
   ·
    have hka : k < l.length := HN.out ▸ hlt
    obtain ⟨ga,oa,rfl⟩ := HL.out.at (by omega)
    have hra := (HL.out.row k hka).below HBz.out
    have hsh := HL.out.short _ (List.getElem_mem hka)
    have HD : Hid (l.drop k = l[k] :: l.drop (k + 1)) := Lib.hid (List.drop_eq_getElem_cons hka)
    obtain ⟨x,hx⟩ : ∃ x,l[k] = x := ⟨_,rfl⟩
    rw [hx] at hra HD hsh
    clear hx
    obtain ⟨g0,g1,g2⟩ := hra
    have g0' := cell_regrown g0
    have g1' := cell_regrown g1
    have g2' := cell_regrown g2
    have x6' := cell_regrown x6
    have x0' := cell_regrown x0
    have cE := entry_ag x s term hsh wz
    unfold Et.val AnsW at cE
    have HX : Hid (rAll term s (l.drop k) = (rEntry x s term && rAll term x.term (l.drop (k + 1)))) := Lib.hid (by rw [HD.out]; rfl)
    have g0x := g0
    clear g0 g1 g2 hsh HD
    cases q : rEntry x s term
    ·
     rw [q] at cE
     rw [q,Bool.false_and] at HX
     have HR : Hid (rAll term bt l = false) := Lib.hid (HK.out.symm.trans HX.out)
     clear HX HK
     go_wp2_with fail
     refine wp_region_quiet_below (by kernel_rfl) (by kernel_rfl) ?_
     repeat (first | go_big_quiet_step (first | (go_at_call 59; with_reducible exact cE _ _)) | quiet_step (first | (go_at_call 59; with_reducible exact cE _ _)))
     refine wpQuiet_nil ?_
     intro _ hw'
     obtain ⟨⟨dq,osq⟩,hw''⟩ := hw'
     subst hw''
     have HBv := Lib.hid (bchain HBz.out (below_regrown wz dq osq))
     go_wp2_with fail
     go_ret
     exact ⟨ret_bool HR.out.symm,bchain HB.out HBv.out⟩
    ·
     rw [q] at cE
     rw [q,Bool.true_and] at HX
     have HR : Hid (rAll term x.term (l.drop (k + 1)) = rAll term bt l) := Lib.hid (HX.out.symm.trans HK.out)
     clear HX HK
     go_wp2_with fail
     refine wp_region_quiet_below (by kernel_rfl) (by kernel_rfl) ?_
     repeat (first | go_big_quiet_step (first | (go_at_call 59; with_reducible exact cE _ _)) | quiet_step (first | (go_at_call 59; with_reducible exact cE _ _)))
     refine wpQuiet_nil ?_
     intro _ hw'
     obtain ⟨⟨dq,osq⟩,hw''⟩ := hw'
     subst hw''
     have HBv := Lib.hid (bchain HBz.out (below_regrown wz dq osq))
     have k0 := ((bcell (below_regrown wz dq osq)).1 _ _ (cell_lt g0x)).trans g0x
     go_wp2_with fail
     go_roundw
     case rel => exact ⟨k + 1,x.term,by omega,by go_num,rfl,HR,HBv⟩
     case measure => simp [intOf]; omega
   ·
    obtain rfl : k = n := by omega
    have HR : Hid (rAll term bt l = true) := Lib.hid (by
     rw [← HK.out,List.drop_eq_nil_of_le (by have := HN.out; omega)]
     rfl)
    go_wp2_with fail
    go_ret
    exact ⟨ret_bool HR.out.symm,bchain HB.out HBz.out⟩
 ·
  have v8 := c8.symm.trans u8
  have v11 := c11.symm.trans u8
  clear c8 c11
  go_enter Tryz.func20,Tryz.ntmps20
  go_wp2_with fail
  clear c0 c1 c2 c3 c4 c5 c6 c7 c9 c10 c12 c13 c14 a0 a1 a2 a3 a4 a5 a6 hW
  go_loopw [3,4] (fun c i wr => ∃ (k : Nat) (s : Int),k ≤ n ∧ i = .int .i64 k ∧ c = .int .i64 s ∧ Hid (rAll term s (l.drop k) = rAll term bt l) ∧ Hid (Below W.heap.size W wr)) (fun _ i _ => n - (intOf i).toNat)
  case atStart => exact ⟨0,_,Nat.zero_le _,rfl,rfl,Lib.hid rfl,Lib.hid (Below.refl _ _)⟩
  case round =>
   rename World => wz
   obtain ⟨k,s,hk,rfl,rfl,HK,HBz⟩ := hrel
   obtain ⟨x6,x0⟩ := LZ.out wz HBz.out
   by_cases hlt : k < n
   ·
    have hka : k < l.length := HN.out ▸ hlt
    obtain ⟨ga,oa,rfl⟩ := HL.out.at (by omega)
    have hra := (HL.out.row k hka).below HBz.out
    have hsh := HL.out.short _ (List.getElem_mem hka)
    have HD : Hid (l.drop k = l[k] :: l.drop (k + 1)) := Lib.hid (List.drop_eq_getElem_cons hka)
    obtain ⟨x,hx⟩ : ∃ x,l[k] = x := ⟨_,rfl⟩
    rw [hx] at hra HD hsh
    clear hx
    obtain ⟨g0,g1,g2⟩ := hra
    have g0' := cell_regrown g0
    have g1' := cell_regrown g1
    have g2' := cell_regrown g2
    have x6' := cell_regrown x6
    have x0' := cell_regrown x0
    have cE := entry_ag x s term hsh wz
    unfold Et.val AnsW at cE
    have HX : Hid (rAll term s (l.drop k) = (rEntry x s term && rAll term x.term (l.drop (k + 1)))) := Lib.hid (by rw [HD.out]; rfl)
    have g0x := g0
    clear g0 g1 g2 hsh HD
    cases q : rEntry x s term
    ·
     rw [q] at cE
     rw [q,Bool.false_and] at HX
     have HR : Hid (rAll term bt l = false) := Lib.hid (HK.out.symm.trans HX.out)
     clear HX HK
     go_wp2_with fail
     refine wp_region_quiet_below (by kernel_rfl) (by kernel_rfl) ?_
     repeat (first | go_big_quiet_step (first | (go_at_call 59; with_reducible exact cE _ _)) | quiet_step (first | (go_at_call 59; with_reducible exact cE _ _)))
     refine wpQuiet_nil ?_
     intro _ hw'
     obtain ⟨⟨dq,osq⟩,hw''⟩ := hw'
     subst hw''
     have HBv := Lib.hid (bchain HBz.out (below_regrown wz dq osq))
     go_wp2_with fail
     go_ret
     exact ⟨ret_bool HR.out.symm,bchain HB.out HBv.out⟩
    ·
     rw [q] at cE
     rw [q,Bool.true_and] at HX
     have HR : Hid (rAll term x.term (l.drop (k + 1)) = rAll term bt l) := Lib.hid (HX.out.symm.trans HK.out)
     clear HX HK
     go_wp2_with fail
     refine wp_region_quiet_below (by kernel_rfl) (by kernel_rfl) ?_
     repeat (first | go_big_quiet_step (first | (go_at_call 59; with_reducible exact cE _ _)) | quiet_step (first | (go_at_call 59; with_reducible exact cE _ _)))
     refine wpQuiet_nil ?_
     intro _ hw'
     obtain ⟨⟨dq,osq⟩,hw''⟩ := hw'
     subst hw''
     have HBv := Lib.hid (bchain HBz.out (below_regrown wz dq osq))
     have k0 := ((bcell (below_regrown wz dq osq)).1 _ _ (cell_lt g0x)).trans g0x
     go_wp2_with fail
     go_roundw
     case rel => exact ⟨k + 1,x.term,by omega,by go_num,rfl,HR,HBv⟩
     case measure => simp [intOf]; omega
   ·
    obtain rfl : k = n := by omega
    have HR : Hid (rAll term bt l = true) := Lib.hid (by
     rw [← HK.out,List.drop_eq_nil_of_le (by have := HN.out; omega)]
     rfl)
    go_wp2_with fail
    go_ret
    exact ⟨ret_bool HR.out.symm,bchain HB.out HBz.out⟩
theorem rf_right (r : Hd.T) (l : List Et.T) (w : World) (hl : Et.Ls w r.log.ao r.log.n r.log.cap l) (hz : r.snap.size ≤ 140737488355328) :
  Calls Tryz.prog 20 #[Hd.val r] w fun e w' => e = .returned (.bool (rRight (Hd.h r l))) ∧ Below w.heap.size w w' := by
 have HE : (rRight (Hd.h r l) = ((!(decide (r.term < 0)) && (!(decide (r.term > 1099511627776)) && (!(decide (r.vote < -1)) && (!(decide (r.vote ≥ 7)) && (!(decide (r.base < 0)) && (!(decide (r.base > 1099511627776)) && (!(decide (r.bt < 0)) && (!(decide (r.bt > r.term)) && (((r.base == 0) == (r.bt == 0)) && (!(decide (r.mem < 1)) && (!(decide (r.mem ≥ 128)) && (((r.base == 0) == (r.snap.toList == [])) && (!(decide ((r.snap.size : Int) > 65536)) && (!(decide ((r.log.n : Int) > 200)) && (!(decide (r.base > 1099511627776 - (r.log.n : Int)))))))))))))))))) && rAll r.term r.bt l)) := by
  unfold rRight rHead
  rw [show (Hd.h r l).log = l from rfl,← hl.len]
  rfl
 rw [HE]
 by_cases c0 : r.term < 0
 ·
  rw [decide_eq_true c0]
  exact rf_no0 r l w hl hz c0
 rw [decide_eq_false c0,Bool.not_false,Bool.true_and]
 by_cases c1 : r.term > 1099511627776
 ·
  rw [decide_eq_true c1]
  exact rf_no1 r l w hl hz c0 c1
 rw [decide_eq_false c1,Bool.not_false,Bool.true_and]
 by_cases c2 : r.vote < -1
 ·
  rw [decide_eq_true c2]
  exact rf_no2 r l w hl hz c0 c1 c2
 rw [decide_eq_false c2,Bool.not_false,Bool.true_and]
 by_cases c3 : r.vote ≥ 7
 ·
  rw [decide_eq_true c3]
  exact rf_no3 r l w hl hz c0 c1 c2 c3
 rw [decide_eq_false c3,Bool.not_false,Bool.true_and]
 by_cases c4 : r.base < 0
 ·
  rw [decide_eq_true c4]
  exact rf_no4 r l w hl hz c0 c1 c2 c3 c4
 rw [decide_eq_false c4,Bool.not_false,Bool.true_and]
 by_cases c5 : r.base > 1099511627776
 ·
  rw [decide_eq_true c5]
  exact rf_no5 r l w hl hz c0 c1 c2 c3 c4 c5
 rw [decide_eq_false c5,Bool.not_false,Bool.true_and]
 by_cases c6 : r.bt < 0
 ·
  rw [decide_eq_true c6]
  exact rf_no6 r l w hl hz c0 c1 c2 c3 c4 c5 c6
 rw [decide_eq_false c6,Bool.not_false,Bool.true_and]
 by_cases c7 : r.bt > r.term
 ·
  rw [decide_eq_true c7]
  exact rf_no7 r l w hl hz c0 c1 c2 c3 c4 c5 c6 c7
 rw [decide_eq_false c7,Bool.not_false,Bool.true_and]
 by_cases c8 : (r.base == 0) = (r.bt == 0)
 rotate_left
 ·
  rw [beq_eq_false_iff_ne.2 c8]
  exact rf_no8 r l w hl hz c0 c1 c2 c3 c4 c5 c6 c7 c8
 rw [beq_iff_eq.2 c8,Bool.true_and]
 by_cases c9 : r.mem < 1
 ·
  rw [decide_eq_true c9]
  exact rf_no9 r l w hl hz c0 c1 c2 c3 c4 c5 c6 c7 c8 c9
 rw [decide_eq_false c9,Bool.not_false,Bool.true_and]
 by_cases c10 : r.mem ≥ 128
 ·
  rw [decide_eq_true c10]
  exact rf_no10 r l w hl hz c0 c1 c2 c3 c4 c5 c6 c7 c8 c9 c10
 rw [decide_eq_false c10,Bool.not_false,Bool.true_and]
 by_cases c11 : (r.base == 0) = (r.snap.toList == [])
 rotate_left
 ·
  rw [beq_eq_false_iff_ne.2 c11]
  exact rf_no11 r l w hl hz c0 c1 c2 c3 c4 c5 c6 c7 c8 c9 c10 c11
 rw [beq_iff_eq.2 c11,Bool.true_and]
 by_cases c12 : (r.snap.size : Int) > 65536
 ·
  rw [decide_eq_true c12]
  exact rf_no12 r l w hl hz c0 c1 c2 c3 c4 c5 c6 c7 c8 c9 c10 c11 c12
 rw [decide_eq_false c12,Bool.not_false,Bool.true_and]
 by_cases c13 : (r.log.n : Int) > 200
 ·
  rw [decide_eq_true c13]
  exact rf_no13 r l w hl hz c0 c1 c2 c3 c4 c5 c6 c7 c8 c9 c10 c11 c12 c13
 rw [decide_eq_false c13,Bool.not_false,Bool.true_and]
 by_cases c14 : r.base > 1099511627776 - (r.log.n : Int)
 ·
  rw [decide_eq_true c14]
  exact rf_no14 r l w hl hz c0 c1 c2 c3 c4 c5 c6 c7 c8 c9 c10 c11 c12 c13 c14
 rw [decide_eq_false c14,Bool.not_false,Bool.true_and]
 exact rf_yes r l w hl hz c0 c1 c2 c3 c4 c5 c6 c7 c8 c9 c10 c11 c12 c13 c14
end Go.Proofs.YtlmjeackfepllaaGreatDoor.Wl
namespace Go.Proofs.YtlmjeackfepllaaGreatDoor.Wl
open Go.RowKit
open Mem
open Go.Sort (grow)
def sizes (n : Int) (l : List Et.T) : Int := l.foldl (fun a e => a + (e.data.size : Int)) n
def smallL (n : Int) : List Et.T → Bool
 | [] => decide (n ≤ 9000)
 | e :: l => if n + (e.data.size : Int) > 9000 then false else smallL (n + (e.data.size : Int)) l
def small (h : H) : Bool := if (h.log.length : Int) > 40 then false else smallL (h.snap.size : Int) h.log
set_option maxHeartbeats 4000000 in
theorem kp_small (r : Hd.T) (l : List Et.T) (w : World) (hl : Et.Ls w r.log.ao r.log.n r.log.cap l) (hz : r.snap.size ≤ 140737488355328) :
  Calls Tryz.prog 18 #[Hd.val r] w fun e w' => e = .returned (.bool (small (Hd.h r l))) ∧ Below w.heap.size w w' := by
 obtain ⟨⟨ao,n,cap⟩,hlog⟩ : ∃ s,r.log = s := ⟨_,rfl⟩
 rw [hlog] at hl
 dsimp only at hl
 obtain ⟨W,hW,hbW,hC⟩ := Hd.boxed1 w r
 have HB := Lib.hid hbW
 have HL := Lib.hid (hl.below hbW)
 have HN := Lib.hid hl.len
 have h1 := hl.fits
 have h2 := hl.reach
 unfold Hd.C at hC
 rw [hlog] at hC hW
 dsimp only at hC hW
 obtain ⟨a0,a1,a2,a3,a4,a5,a6⟩ := hC
 unfold Hd.val
 rw [hlog]
 dsimp only
 have HS : Hid (small (Hd.h r l) = if (n : Int) > 40 then false else smallL (r.snap.size : Int) l) := Lib.hid (by
  have := HN.out
  unfold small
  rw [show (Hd.h r l).log = l from rfl,← this]
  rfl)
 clear hl hlog hbW
 by_cases c1 : (n : Int) > 40
 ·
  rw [if_pos c1] at HS
  go_enter Tryz.func18,Tryz.ntmps18
  go_wp2_with fail
  go_ret
  exact ⟨ret_bool HS.out.symm,HB.out⟩
 rw [if_neg c1] at HS
 have lz : ∀ y,Below W.heap.size W y → y.cell? ⟨w.heap.size,6,none⟩ = some (.slice ao n cap) := fun y k => ((bcell k).1 _ _ (cell_lt a6)).trans a6
 have LZ := Lib.hid lz
 clear lz
 go_enter Tryz.func18,Tryz.ntmps18
 go_wp2_with fail
 clear a0 a1 a2 a3 a4 a5 a6 hW
 go_loopw [3,4] (fun c i wr => ∃ (k : Nat) (s : Int),k ≤ n ∧ i = .int .i64 k ∧ c = .int .i64 s ∧ Hid (0 ≤ s ∧ s ≤ 140737488355328) ∧ Hid (k = 0 ∨ s ≤ 9000) ∧ Hid (smallL s (l.drop k) = smallL (r.snap.size : Int) l) ∧ Hid (Below W.heap.size W wr)) (fun _ i _ => n - (intOf i).toNat)
 case atStart => exact ⟨0,_,Nat.zero_le _,rfl,rfl,Lib.hid ⟨by omega,by omega⟩,Lib.hid (.inl rfl),Lib.hid rfl,Lib.hid (Below.refl _ _)⟩
 case round =>
  rename World => wz
  obtain ⟨k,s,hk,rfl,rfl,HS2,HS9,HK,HBz⟩ := hrel
  have x6 := LZ.out wz HBz.out
  by_cases hlt : k < n
  ·
   have hka : k < l.length := HN.out ▸ hlt
   obtain ⟨ga,oa,rfl⟩ := HL.out.at (by omega)
   have hra := (HL.out.row k hka).below HBz.out
   have hsh : l[k].data.size ≤ 140737488355328 := (HL.out.short _ (List.getElem_mem hka)).2.2
   have HD : Hid (l.drop k = l[k] :: l.drop (k + 1)) := Lib.hid (List.drop_eq_getElem_cons hka)
   obtain ⟨x,hx⟩ : ∃ x,l[k] = x := ⟨_,rfl⟩
   rw [hx] at hra HD hsh
   clear hx
   obtain ⟨g0,g1,g2⟩ := hra
   have s1 := HS2.out.1
   have s2 := HS2.out.2
   have HE : Hid (smallL s (l.drop k) = if s + (x.data.size : Int) > 9000 then false else smallL (s + (x.data.size : Int)) (l.drop (k + 1))) := Lib.hid (by rw [HD.out]; rfl)
   by_cases c2 : s + (x.data.size : Int) > 9000
   ·
    have HX : Hid (smallL (r.snap.size : Int) l = false) := Lib.hid (by rw [← HK.out,HE.out,if_pos c2])
    go_wp2_with fail
    go_ret
    exact ⟨ret_bool (HS.out.trans HX.out).symm,bchain HB.out HBz.out⟩
   ·
    have HX : Hid (smallL (s + (x.data.size : Int)) (l.drop (k + 1)) = smallL (r.snap.size : Int) l) := Lib.hid (by rw [← HK.out,HE.out,if_neg c2])
    go_wp2_with fail
    go_roundw
    case rel => exact ⟨k + 1,_,by omega,by go_num,rfl,Lib.hid ⟨by omega,by omega⟩,Lib.hid (.inr (by omega)),HX,HBz⟩
    case measure => simp [intOf]; omega
  ·
   obtain rfl : k = n := by omega
   have HX : Hid (decide (s ≤ 9000) = smallL (r.snap.size : Int) l) := Lib.hid (by
    rw [← HK.out,List.drop_eq_nil_of_le (by have := HN.out; omega)]
    rfl)
   go_wp2_with fail
   go_ret
   exact ⟨ret_bool (HS.out.trans HX.out.symm).symm,bchain HB.out HBz.out⟩
end Go.Proofs.YtlmjeackfepllaaGreatDoor.Wl
namespace Go.Proofs.YtlmjeackfepllaaGreatDoor.Wa
open Go.RowKit
open Mem
structure T where
 kind : Int
 n : Int
 term : Int
 vote : Int
 base : Int
 bt : Int
 mem : Int
 snap : ByteArray
 log : Sl
 picks : Sl
def val (r : T) : Value := .agg #[.int .i64 r.kind,.int .i64 r.n,.int .i64 r.term,.int .i64 r.vote,.int .i64 r.base,.int .i64 r.bt,.int .i64 r.mem,.string r.snap,.slice r.log.ao r.log.n r.log.cap,.slice r.picks.ao r.picks.n r.picks.cap]
def Short (r : T) : Prop := Fit r.kind ∧ Fit r.n ∧ Fit r.term ∧ Fit r.vote ∧ Fit r.base ∧ Fit r.bt ∧ Fit r.mem ∧ r.snap.size ≤ 140737488355328
def box (w : World) (r : T) : World := w.alloc (.cells #[.int .i64 r.kind,.int .i64 r.n,.int .i64 r.term,.int .i64 r.vote,.int .i64 r.base,.int .i64 r.bt,.int .i64 r.mem,.string r.snap,.slice r.log.ao r.log.n r.log.cap,.slice r.picks.ao r.picks.n r.picks.cap] 48)
def C (u : World) (b : Nat) (r : T) : Prop :=
 u.cell? ⟨b,0,none⟩ = some (.int .i64 r.kind) ∧ u.cell? ⟨b,1,none⟩ = some (.int .i64 r.n) ∧ u.cell? ⟨b,2,none⟩ = some (.int .i64 r.term) ∧ u.cell? ⟨b,3,none⟩ = some (.int .i64 r.vote) ∧ u.cell? ⟨b,4,none⟩ = some (.int .i64 r.base) ∧ u.cell? ⟨b,5,none⟩ = some (.int .i64 r.bt) ∧ u.cell? ⟨b,6,none⟩ = some (.int .i64 r.mem) ∧ u.cell? ⟨b,7,none⟩ = some (.string r.snap) ∧ u.cell? ⟨b,8,none⟩ = some (.slice r.log.ao r.log.n r.log.cap) ∧ u.cell? ⟨b,9,none⟩ = some (.slice r.picks.ao r.picks.n r.picks.cap)
theorem C.below {u v : World} {b : Nat} {r : T} (h : C u b r) (k : Below u.heap.size u v) : C v b r := by
 obtain ⟨h0,h1,h2,h3,h4,h5,h6,h7,h8,h9⟩ := h
 have hl := cell_lt h0
 unfold C
 rw [(bcell k).1 _ _ hl,(bcell k).1 _ _ hl,(bcell k).1 _ _ hl,(bcell k).1 _ _ hl,(bcell k).1 _ _ hl,(bcell k).1 _ _ hl,(bcell k).1 _ _ hl,(bcell k).1 _ _ hl,(bcell k).1 _ _ hl,(bcell k).1 _ _ hl]
 exact ⟨h0,h1,h2,h3,h4,h5,h6,h7,h8,h9⟩
theorem c_box (w : World) (r : T) : C (box w r) w.heap.size r := by
 unfold box C
 simp [go_sem]
theorem box_size (w : World) (r : T) : (box w r).heap.size = w.heap.size + 1 := by
 unfold box
 simp
theorem below_own (w : World) (r : T) : Below w.heap.size w (box w r) := (Below.refl _ _).alloc (Nat.le_refl _) _
theorem boxed1 (w : World) (a : T) : ∃ W,w.alloc (.cells #[.int .i64 a.kind,.int .i64 a.n,.int .i64 a.term,.int .i64 a.vote,.int .i64 a.base,.int .i64 a.bt,.int .i64 a.mem,.string a.snap,.slice a.log.ao a.log.n a.log.cap,.slice a.picks.ao a.picks.n a.picks.cap] 48) = W ∧ Below w.heap.size w W ∧ C W w.heap.size a :=
 ⟨_,rfl,below_own w a,c_box w a⟩
theorem boxed2 (w : World) (a b : T) : ∃ W,(w.alloc (.cells #[.int .i64 a.kind,.int .i64 a.n,.int .i64 a.term,.int .i64 a.vote,.int .i64 a.base,.int .i64 a.bt,.int .i64 a.mem,.string a.snap,.slice a.log.ao a.log.n a.log.cap,.slice a.picks.ao a.picks.n a.picks.cap] 48)).alloc (.cells #[.int .i64 b.kind,.int .i64 b.n,.int .i64 b.term,.int .i64 b.vote,.int .i64 b.base,.int .i64 b.bt,.int .i64 b.mem,.string b.snap,.slice b.log.ao b.log.n b.log.cap,.slice b.picks.ao b.picks.n b.picks.cap] 48) = W ∧
  Below w.heap.size w W ∧ C W w.heap.size a ∧ C W (w.heap.size + 1) b := by
 refine ⟨_,rfl,((below_own w a).trans ((below_own (box w a) b).mono (below_own w a).size)),(c_box w a).below (below_own _ b),?_⟩
 have h := c_box (box w a) b
 rw [box_size] at h
 exact h
end Go.Proofs.YtlmjeackfepllaaGreatDoor.Wa
namespace Go.Proofs.YtlmjeackfepllaaGreatDoor
open Go.RowKit
theorem bookWithin_any (n lo hi : Int) (w : World) (_hn : Fit n) (h0 : 0 ≤ lo) (h1 : lo ≤ hi) (h2 : hi ≤ 4611686018427387904) :
  Calls Tryz.prog 29 #[.int .i64 n,.int .i64 lo,.int .i64 hi] w fun e w' => (∃ r : Nat,e = .returned (.int .i64 (r : Int)) ∧ lo ≤ r ∧ r ≤ hi) ∧ w' = w := by
 have a1 : n.tmod (hi - lo + 1) < hi - lo + 1 := Int.tmod_lt_of_pos _ (by omega)
 have a2 : -(hi - lo + 1) < n.tmod (hi - lo + 1) := by
  have := Int.tmod_lt_of_pos (-n) (show 0 < hi - lo + 1 by omega)
  rw [Int.neg_tmod] at this
  omega
 go_enter Tryz.func29,Tryz.ntmps29
 go_wp2
 all_goals go_ret
 all_goals refine ⟨⟨Int.toNat _,ret_int (Int.toNat_of_nonneg ?_).symm,?_,?_⟩,rfl⟩
 all_goals omega
end Go.Proofs.YtlmjeackfepllaaGreatDoor
namespace Go.Proofs.YtlmjeackfepllaaGreatDoor.Wl
open Go.RowKit
open Mem Dk
structure Nx (w U : World) (c0 c1 c2 c3 : Nat) (r : Hd.T) (a : Wa.T) (g : Hd.T) (gl : List Et.T) : Prop where
 bel : Below w.heap.size w U
 lt : c0 < c1 ∧ c1 < c2 ∧ c2 < c3 ∧ w.heap.size ≤ c0
 bh : Hd.Block U c0 [r]
 ba : Wa.C U c1 a
 bz : U.heap[c2]? = some (.cells #[.int .i64 0,.int .i64 0,.int .i64 0,.int .i64 0,.int .i64 0,.string ⟨#[]⟩,.slice none 0 0] 30 (0,0))
 bg : Hd.Block U c3 [g]
 own : Et.Own U (c3 + 1) (sv g.log) gl
theorem wa_upd {Q : Nat → Prop} {U V : World} {c : Nat} {a : Wa.T} (h : Wa.C U c a) (k : UpdQ Q U V) (hc : ¬ Q c) : Wa.C V c a := by
 obtain ⟨x0,x1,x2,x3,x4,x5,x6,x7,x8,x9⟩ := h
 have hb := k.block c (cell_lt x0) hc
 exact ⟨(Hd.cell_same hb _).trans x0,(Hd.cell_same hb _).trans x1,(Hd.cell_same hb _).trans x2,(Hd.cell_same hb _).trans x3,(Hd.cell_same hb _).trans x4,(Hd.cell_same hb _).trans x5,(Hd.cell_same hb _).trans x6,(Hd.cell_same hb _).trans x7,(Hd.cell_same hb _).trans x8,(Hd.cell_same hb _).trans x9⟩
theorem Nx.upd {w U V : World} {c0 c1 c2 c3 : Nat} {r g g' : Hd.T} {a : Wa.T} {gl gl' : List Et.T} (h : Nx w U c0 c1 c2 c3 r a g gl) (k : UpdQ (fun b => c3 ≤ b) U V) (hb : Hd.Block V c3 [g']) (ho : Et.Own V (c3 + 1) (sv g'.log) gl') : Nx w V c0 c1 c2 c3 r a g' gl' := by
 obtain ⟨l1,l2,l3,l4⟩ := h.lt
 refine ⟨k.below w h.bel fun b z => by omega,h.lt,?_,wa_upd h.ba k (by omega),?_,hb,ho⟩
 · exact (k.block _ h.bh.lt (by omega)).trans h.bh
 · exact (k.block _ (Array.getElem?_eq_some_iff.1 h.bz).1 (by omega)).trans h.bz
theorem Nx.put {w U : World} {c0 c1 c2 c3 : Nat} {r g : Hd.T} {a : Wa.T} {gl : List Et.T} (h : Nx w U c0 c1 c2 c3 r a g gl) (t v : Int) : Nx w ((U.setCell ⟨c3,0,none⟩ (.int .i64 t)).setCell ⟨c3,1,none⟩ (.int .i64 v)) c0 c1 c2 c3 r a ⟨t,v,g.base,g.bt,g.mem,g.snap,g.log⟩ gl := by
 have u1 := upd_set U c3 0 (.int .i64 t)
 have u2 := upd_set (U.setCell ⟨c3,0,none⟩ (.int .i64 t)) c3 1 (.int .i64 v)
 refine h.upd ((u1.mono fun b z => by omega).trans (u2.mono fun b z => by omega)) ?_ ?_
 · exact (heap_setCell_same _ c3 1 _ _ _ ((heap_setCell_same U c3 0 _ _ (.int .i64 t) h.bg).trans (show _ = some (Obj.cells #[.int .i64 t,.int .i64 g.vote,.int .i64 g.base,.int .i64 g.bt,.int .i64 g.mem,.string g.snap,sv g.log] 30 (0,0)) from rfl))).trans rfl
 · exact (u1.trans u2).rows h.own fun b z e => by have := Et.own_ge h.own b z; omega
theorem alloc_lt (w : World) (o : Obj) : w.heap.size < (w.alloc o).heap.size := by
 show w.heap.size < (w.heap.push _).size
 rw [Array.size_push]
 omega
theorem Nx.later {w U V : World} {c0 c1 c2 c3 : Nat} {r g : Hd.T} {a : Wa.T} {gl : List Et.T} (h : Nx w U c0 c1 c2 c3 r a g gl) (k : Below U.heap.size U V) : Nx w V c0 c1 c2 c3 r a g gl := h.upd (UpdQ.of k) (h.bg.below k) (Et.own_below h.own k)
theorem Nx.fin {w U : World} {c0 c1 c2 c3 : Nat} {r g : Hd.T} {a : Wa.T} {gl : List Et.T} (h : Nx w U c0 c1 c2 c3 r a g gl) (x : Hd.T) : (lay U c2 0 x).heap[c2]? = some (.cells (Hd.rv x).toArray 30 (0,0)) ∧ Below w.heap.size w (lay U c2 0 x) ∧ Et.Own (lay U c2 0 x) (c3 + 1) (sv g.log) gl := by
 obtain ⟨l1,l2,l3,l4⟩ := h.lt
 have hu := lay_upd U c2 0 x
 exact ⟨hd_lay h.bz x,hu.below w h.bel fun b z => by omega,hu.rows h.own fun b z e => by have := Et.own_ge h.own b z; omega⟩
theorem flat_take : ∀ (M : List Et.T) (k : Nat),(M.flatMap Et.rv).take (k * 3) = (M.take k).flatMap Et.rv
 | [],k => by simp
 | a :: M,0 => by simp
 | a :: M,k + 1 => by
  rw [List.flatMap_cons,List.take_succ_cons,List.flatMap_cons,List.take_append,Et.rv_len,List.take_of_length_le (by rw [Et.rv_len]; omega),show (k + 1) * 3 - 3 = k * 3 by omega,flat_take M k]
theorem own_to {w : World} {B : Nat} {ao : Option Addr} {n cap : Nat} {M : List Et.T} (h : Et.Own w B (.slice ao n cap) M) (k : Nat) (hk : k ≤ n) (hn : n = M.length) : Et.Own w B (.slice ao k cap) (M.take k) := by
 have hl : (M.take k).length = k := by rw [List.length_take]; omega
 obtain ⟨h1,h2⟩ := h
 unfold Et.Own
 rw [hl]
 refine ⟨by rw [Et.flat_len,hl],?_⟩
 rcases h2 with ⟨e,z⟩ | ⟨g,c,cur,e,hb,hg,hc,hm,hs,ht⟩
 ·
  simp only [Value.slice.injEq] at e
  obtain ⟨rfl,rfl,rfl⟩ := e
  obtain rfl : k = 0 := by omega
  exact .inl ⟨rfl,rfl⟩
 ·
  simp only [Value.slice.injEq] at e
  obtain ⟨rfl,e2,rfl⟩ := e
  refine .inr ⟨g,cap,cur,rfl,hb,hg,by omega,hm,hs,?_⟩
  rw [← flat_take,← ht,List.take_take,Nat.min_eq_left (by omega)]
theorem step_apq {ops : Array Oper} {o : Oper} {a : Act} {K : Act → World → Prop} {Q : Exit → Act → World → Prop} {E : Prop} (X : World) (hgd : o.guard = none) (s t : Operand)
  (ho : o.op = .call { callee := .builtin .append,args := #[s,t],argTypes := #[28,28] })
  (B : Nat) (v : Value) (xs : List Et.T) (hs : a.eval s = v) (hown : Et.Own X B v xs)
  (ao : Option Addr) (n cap : Nat) (zs : List Et.T) (ht : a.eval t = .slice ao n cap) (hn : n = zs.length) (hnil : ao = none → cap = 0) (hsrc : Et.Seg X ao zs) (hl : (xs.length + n) * 32 ≤ 140737488355328) (hb : B ≤ X.heap.size)
  (h : ∀ v' w1,Et.Own w1 B v' (xs ++ zs) → X.grownBy w1 v.ownBlock → K (a.put o.dst v') w1) :
  if Region.wanted o (yielded ops a.tmps) = true then Oper.wp Tryz.prog o a X K Q else E := by
 have hw : Region.wanted o (yielded ops a.tmps) = true := by simp [Region.wanted,hgd]
 rw [if_pos hw]
 exact Et.wp_append X s t ho B v xs hs hown ao n cap zs ht hn hnil hsrc hl hb fun v' w1 h1 h2 _ => h v' w1 h1 h2
theorem Nx.facts {w U : World} {c0 c1 c2 c3 : Nat} {r g : Hd.T} {a : Wa.T} {gl : List Et.T} (h : Nx w U c0 c1 c2 c3 r a g gl) : (∀ k,U.frozen? ⟨c2,k,none⟩ = false) ∧ c2 < U.heap.size ∧ Hd.C U c0 r ∧ Hd.C U c3 g ∧ Hd.C U c2 ⟨0,0,0,0,0,⟨#[]⟩,⟨none,0,0⟩⟩ := by
 have hz : Hd.Block U c2 [⟨0,0,0,0,0,⟨#[]⟩,⟨none,0,0⟩⟩] := h.bz
 exact ⟨hz.frozen,hz.lt,h.bh.cells,h.bg.cells,hz.cells⟩
theorem Nx.ls {w U : World} {c0 c1 c2 c3 : Nat} {r g : Hd.T} {a : Wa.T} {gl : List Et.T} (h : Nx w U c0 c1 c2 c3 r a g gl) (hs : ∀ x ∈ gl,Et.Short x) : Et.Ls U g.log.ao g.log.n g.log.cap gl := by
 obtain ⟨a1,k1,e,ls,_⟩ := Et.own_ls h.own hs
 unfold sv at e
 simp only [Value.slice.injEq] at e
 obtain ⟨e1,e2,e3⟩ := e
 rw [e1,e2,e3]
 exact ls
def NxE (w : World) (r : Hd.T) (l : List Et.T) (e : Ending) (w' : World) : Prop :=
 ∃ (r' : Hd.T) (l' : List Et.T),e = .returned (Hd.val r') ∧ Below w.heap.size w w' ∧ ((r' = r ∧ l' = l) ∨ (Et.Own w' w.heap.size (sv r'.log) l' ∧ (∀ x ∈ l',Et.Short x) ∧ rRight (Hd.h r' l') = true ∧ small (Hd.h r' l') = true))
set_option maxHeartbeats 8000000 in
theorem lw_next (r : Hd.T) (l : List Et.T) (a : Wa.T) (al : List Et.T) (w : World) (hl : Et.Ls w r.log.ao r.log.n r.log.cap l) (hal : Et.Ls w a.log.ao a.log.n a.log.cap al) (h40 : l.length ≤ 100) (hz : r.snap.size ≤ 9000) (ha : al.length * 32 ≤ 140737488351232) (hfn : Fit a.n) (hsr : ∀ x ∈ l,Et.Short x) (hsa : ∀ x ∈ al,Et.Short x) :
  Calls Tryz.prog 32 #[Hd.val r,Wa.val a] w (NxE w r l) := by
 obtain ⟨W1,hW1,hbW1,hC1⟩ := Hd.boxed1 w r
 obtain ⟨W2,hW2,hbW2,hC2⟩ := Wa.boxed1 W1 a
 obtain ⟨W3,hW3,hbW3,hC3⟩ := Hd.boxed1 W2 ⟨0,0,0,0,0,⟨#[]⟩,⟨none,0,0⟩⟩
 obtain ⟨W4,hW4,hbW4,hC4⟩ := Hd.boxed1 W3 r
 have k1 : w.heap.size < W1.heap.size := by rw [← hW1]; exact alloc_lt _ _
 have k2 : W1.heap.size < W2.heap.size := by rw [← hW2]; exact alloc_lt _ _
 have k3 : W2.heap.size < W3.heap.size := by rw [← hW3]; exact alloc_lt _ _
 have k4 : W4.heap.size = W3.heap.size + 1 := by rw [← hW4]; show (W3.heap.push _).size = _; rw [Array.size_push]
 have B1 : Hd.Block W1 w.heap.size [r] := by rw [← hW1]; exact Hd.block_box w r
 have B3 : W3.heap[W2.heap.size]? = some (.cells #[.int .i64 0,.int .i64 0,.int .i64 0,.int .i64 0,.int .i64 0,.string ⟨#[]⟩,.slice none 0 0] 30 (0,0)) := by rw [← hW3]; exact heap_alloc_new W2 _
 have B4 : Hd.Block W4 W3.heap.size [r] := by rw [← hW4]; exact Hd.block_box W3 r
 obtain ⟨W5,hW5⟩ : ∃ W5,W4.alloc (.cells #[] 36) = W5 := ⟨_,rfl⟩
 have b45 : Below W4.heap.size W4 W5 := by rw [← hW5]; exact (Below.refl _ _).alloc (Nat.le_refl _) _
 have k5 : W4.heap.size ≤ W5.heap.size := b45.size
 have HO := Lib.hid (Et.own_empty (X := W5) (B := W4.heap.size) (g := W4.heap.size) (Nat.le_refl _) (by rw [← hW5]; exact heap_alloc_new W4 _))
 have b14 := bchain hbW2 (bchain hbW3 hbW4)
 have HB := Lib.hid (bchain hbW1 b14)
 have HBw : Hid (∀ w1,W5.grownBy w1 (Value.slice (some ⟨W4.heap.size,0,none⟩) 0 0).ownBlock → Hd.Block w1 W3.heap.size [r]) := Lib.hid fun w1 gr => B4.below (b45.grown gr b45.size (fun k e => by simp only [Value.ownBlock,Option.some.injEq] at e; omega))
 have HN : Hid (∀ (v : Sl) (w1 : World),Et.Own w1 W4.heap.size (sv v) l → W5.grownBy w1 (Value.slice (some ⟨W4.heap.size,0,none⟩) 0 0).ownBlock → Nx w (w1.setCell ⟨W3.heap.size,6,none⟩ (sv v)) w.heap.size W1.heap.size W2.heap.size W3.heap.size r a (Hd.with r v) l) := Lib.hid fun v w1 o gr => by
  have b5 : Below W4.heap.size W4 w1 := b45.grown gr b45.size (fun k e => by simp only [Value.ownBlock,Option.some.injEq] at e; omega)
  have hu := upd_set w1 W3.heap.size 6 (sv v)
  refine ⟨hu.below w (bchain HB.out b5) fun b z => by omega,⟨k1,k2,k3,Nat.le_refl _⟩,?_,?_,?_,?_,?_⟩
  · exact (hu.block _ (by have := b5.size; omega) (by omega)).trans ((B1.below b14).below b5)
  · exact wa_upd (((hC2.below hbW3).below hbW4).below b5) hu (by omega)
  · exact (hu.block _ (by have := b5.size; omega) (by omega)).trans ((b5.block _ (by omega)).trans ((hbW4.block _ k3).trans B3))
  · exact (B4.below b5).log v
  ·
   rw [← k4]
   exact hu.rows o fun b z e => by have := Et.own_ge o b z; omega
 obtain ⟨⟨ao,n,cap⟩,hlog⟩ : ∃ s,r.log = s := ⟨_,rfl⟩
 obtain ⟨⟨bo,m,cb⟩,hlog'⟩ : ∃ s,a.log = s := ⟨_,rfl⟩
 rw [hlog] at hl hW1 hW4
 rw [hlog'] at hal hW2
 dsimp only at hl hal hW1 hW2 hW3 hW4
 have hl5 := (hl.below HB.out).below b45
 have HLn := Lib.hid hl5.len
 have lnil := hl5.nil
 have lseg := hl5.seg
 have a6 : W5.cell? ⟨w.heap.size,6,none⟩ = some (.slice ao n cap) := by
  have := ((((hC1.below hbW2).below hbW3).below hbW4).below b45)
  obtain ⟨_,_,_,_,_,_,z⟩ := this
  rw [hlog] at z
  exact z
 have f6 : ∀ (w1 : World),W5.grownBy w1 (Value.slice (some ⟨W4.heap.size,0,none⟩) 0 0).ownBlock → w1.frozen? ⟨W3.heap.size,6,none⟩ = false := fun w1 gr => (HBw.out w1 gr).frozen 6
 have f7 : ∀ (w1 : World),W5.grownBy w1 (Value.slice (some ⟨W4.heap.size,0,none⟩) 0 0).ownBlock → w1.cell? ⟨W3.heap.size,6,none⟩ = some (.slice ao n cap) ∧ W3.heap.size < w1.heap.size := fun w1 gr => by
  obtain ⟨_,_,_,_,_,_,z⟩ := (HBw.out w1 gr).cells
  rw [hlog] at z
  exact ⟨z,(HBw.out w1 gr).lt⟩
 have hn2 : n ≤ 100 := by have := HLn.out; omega
 obtain ⟨z0,z1,z2,z3,z4,z5,z6⟩ : Hd.C W3 w.heap.size r := (hC1.below hbW2).below hbW3
 rw [hlog] at z6
 dsimp only at z6
 have HE : Hid (∀ v' w1,Et.Own w1 W4.heap.size v' ([] ++ l) → ∃ v : Sl,v' = sv v ∧ v.n = l.length ∧ Et.Own w1 W4.heap.size (sv v) l) := Lib.hid fun v' w1 o => by
  obtain ⟨ao',cap',e,_,_⟩ := Et.own_ls o (fun x hx => hl5.short x hx)
  exact ⟨⟨ao',l.length,cap'⟩,e,rfl,by rw [e] at o; exact o⟩
 have K4 := Lib.hid k4
 clear k4 hC1 hC2 hC3 hC4 hbW1 hbW2 hbW3 hbW4 b14 B1 B3 B4 b45 hl
 unfold Hd.val Wa.val
 rw [hlog,hlog']
 dsimp only
 go_enter Tryz.func32,Tryz.ntmps32
 go_upto_region 3 with (at_builtin; go_must (refine Et.wpList_append _ rfl (.tmp 8) (.tmp 10) rfl W4.heap.size (.slice (some ⟨W4.heap.size,0,none⟩) 0 0) [] rfl HO.out ao n cap l rfl HLn.out lnil lseg (by show (0 + n) * 32 ≤ 140737488355328; omega) k5 ?_))
 intro v' w1 ho gr _
 obtain ⟨⟨go,gn,gc⟩,rfl,hvn,hov⟩ := HE.out v' w1 ho
 have HX : Hid (Nx w (w1.setCell ⟨W3.heap.size,6,none⟩ (.slice go gn gc)) w.heap.size W1.heap.size W2.heap.size W3.heap.size r a (Hd.with r ⟨go,gn,gc⟩) l) := Lib.hid (HN.out ⟨go,gn,gc⟩ w1 hov gr)
 have HG := Lib.hid hvn
 have ff := f6 w1 gr
 obtain ⟨fe,fl⟩ := f7 w1 gr
 clear hvn hov ho gr f6 f7
 unfold sv
 dsimp only
 go_upto_region 3 with fail
 generalize w1.setCell ⟨W3.heap.size,6,none⟩ (.slice go gn gc) = U at *
 clear HN HO HB HE HBw hW1 hW2 hW3 hW4 hW5 k1 k2 k3 k5 K4 hl5 lnil lseg a6 z0 z1 z2 z3 z4 z5 z6 ff fe fl
 generalize W1.heap.size = c1 at *
 generalize W2.heap.size = c2 at *
 generalize W3.heap.size = c3 at *
 generalize W4.heap.size = c4 at *
 obtain ⟨cc,hcc⟩ : ∃ cc,(decide (a.term > r.term) && decide (a.term ≤ 1099511627776)) = cc := ⟨_,rfl⟩
 have HC := Lib.hid hcc
 clear hcc
 go_cut [5,24] (fun p q wx => p = .pointer (some ⟨c3,0,none⟩) ∧ q = .bool cc ∧ wx = U)
 case first =>
  obtain ⟨x0,x1,x2,x3,x4,x5,x6,x7,x8,x9⟩ := HX.out.ba
  obtain ⟨y0,y1,y2,y3,y4,y5,y6⟩ := HX.out.bh.cells
  by_cases q1 : a.term > r.term
  ·
   by_cases q2 : a.term ≤ 1099511627776
   ·
    have HQ : Hid (Value.bool true = .bool cc) := Lib.hid (by rw [← HC.out,decide_eq_true q1,decide_eq_true q2]; rfl)
    go_wp2_with fail
    go_meet
    exact ⟨rfl,HQ.out,rfl⟩
   ·
    have HQ : Hid (Value.bool false = .bool cc) := Lib.hid (by rw [← HC.out,decide_eq_false q2,Bool.and_false])
    go_wp2_with fail
    go_meet
    exact ⟨rfl,HQ.out,rfl⟩
  ·
   have HQ : Hid (Value.bool false = .bool cc) := Lib.hid (by rw [← HC.out,decide_eq_false q1,Bool.false_and])
   go_wp2_with fail
   go_meet
   exact ⟨rfl,HQ.out,rfl⟩
 case rest =>
 rename World => U1
 obtain ⟨rfl,rfl,rfl⟩ := hcut
 clear HC
 go_upto_if 24 with fail
 go_cut [5] (fun p wx => ∃ t v : Int,p = .pointer (some ⟨c3,0,none⟩) ∧ Hid (Nx w wx w.heap.size c1 c2 c3 r a ⟨t,v,r.base,r.bt,r.mem,r.snap,⟨go,gn,gc⟩⟩ l))
 case first =>
  cases cc
  ·
   go_wp2_with fail
   go_meet
   exact ⟨_,_,rfl,HX⟩
  ·
   obtain ⟨x0,x1,x2,x3,x4,x5,x6,x7,x8,x9⟩ := HX.out.ba
   obtain ⟨v0,v1,v2,v3,v4,v5,v6⟩ := HX.out.bg.cells
   have g0 := HX.out.bg.frozen 0
   have g1 := HX.out.bg.frozen 1
   have gl := HX.out.bg.lt
   have hne : (c1 == c3) = false := beq_eq_false_iff_ne.2 (by have := HX.out.lt; omega)
   have hne2 : (c3 == c1) = false := beq_eq_false_iff_ne.2 (by have := HX.out.lt; omega)
   have hne3 : c1 ≠ c3 := by have := HX.out.lt; omega
   have hne4 : c3 ≠ c1 := by have := HX.out.lt; omega
   have HP := Lib.hid ((HX.out.put a.term a.vote).later ((Below.refl _ _).drew))
   go_wp2_with fail
   go_region_held3 (fun y => y.cell? ⟨c1,2,none⟩ = some (.int .i64 a.term) ∧ y.cell? ⟨c1,3,none⟩ = some (.int .i64 a.vote)) (go_keep) (fail)
   all_goals (go_wp2_with fail; go_meet; exact ⟨_,_,rfl,HP⟩)
 case rest =>
  rename World => Y
  obtain ⟨t,v,rfl,HY⟩ := hcut
  obtain ⟨x0,x1,x2,x3,x4,x5,x6,x7,x8,x9⟩ := HY.out.ba
  obtain ⟨v0,v1,v2,v3,v4,v5,v6⟩ := HY.out.bg.cells
  rw [hlog'] at x8
  dsimp only at x8 v6 HG
  have hgn := HG.out
  have hls : Et.Ls Y go gn gc l := by
   obtain ⟨a1,k1,e,ls,_⟩ := Et.own_ls HY.out.own hsr
   have e' : Value.slice go gn gc = .slice a1 l.length k1 := e
   simp only [Value.slice.injEq] at e'
   obtain ⟨rfl,_,rfl⟩ := e'
   rw [hgn]
   exact ls
  have HAL := Lib.hid (hal.below HY.out.bel)
  have hgn2 : gn ≤ 100 := by omega
  have HGn := Lib.hid hgn
  clear hgn
  have CW := Lib.hid (bookWithin_any a.n 0 gn Y hfn (by omega) (by omega) (by omega))
  clear x0 x2 x3 x4 x5 x6 x7 x9 v0 v1 v2 v3 v4 v5
  go_upto_region 6 with (go_at_call 29; refine CW.out.mono ?_; rintro e u ⟨⟨k,rfl,k0,k1⟩,hu⟩; rw [hu]; clear hu u)
  have hkn : k ≤ gn := by omega
  obtain ⟨hs1,hR1⟩ := hls.to k hkn
  have HO2 : Hid (Et.Own Y (c3 + 1) (.slice go k gc) (l.take k)) := Lib.hid (own_to (B := c3 + 1) (ao := go) (n := gn) (cap := gc) HY.out.own k hkn HGn.out)
  have HYl := Lib.hid HY.out.bg.lt
  have HS2 : Hid (∀ w1,Y.drew.grownBy w1 (Value.slice go k gc).ownBlock → w1.cell? ⟨c3,6,none⟩ = some (.slice go gn gc) ∧ w1.frozen? ⟨c3,6,none⟩ = false ∧ c3 < w1.heap.size) := Lib.hid fun w1 gr => by
   have b : Below (c3 + 1) Y w1 := ((Below.refl (c3 + 1) Y).drew).grown gr HYl.out (Et.own_ge HO2.out)
   have hb := b.block c3 (by omega)
   have hB : Hd.Block w1 c3 [⟨t,v,r.base,r.bt,r.mem,r.snap,⟨go,gn,gc⟩⟩] := hb.trans HY.out.bg
   obtain ⟨_,_,_,_,_,_,z⟩ := hB.cells
   exact ⟨z,hB.frozen 6,hB.lt⟩
  have hlk : ((l.take k).length + m) * 32 ≤ 140737488355328 := by
   have h1 : (l.take k).length ≤ 100 := by rw [List.length_take]; omega
   have h2 := HAL.out.len
   omega
  have hc3 : c3 + 1 ≤ Y.heap.size := HYl.out
  have HO3 : Hid (Et.Own Y.drew (c3 + 1) (.slice go k gc) (l.take k)) := Lib.hid HO2.out
  have hc4 : c3 + 1 ≤ Y.drew.heap.size := HYl.out
  have HAs : Hid (Et.Seg Y.drew bo al ∧ (bo = none → cb = 0) ∧ m = al.length) := Lib.hid ⟨HAL.out.seg.below ((Below.refl _ _).drew),HAL.out.nil,HAL.out.len⟩
  have HE2 : Hid (∀ v' w1,Et.Own w1 (c3 + 1) v' (l.take k ++ al) → ∃ eo en ec,v' = .slice eo en ec ∧ Et.Own w1 (c3 + 1) (.slice eo en ec) (l.take k ++ al)) := Lib.hid fun v' w1 o => by
   obtain ⟨ao',cap',e,_,_⟩ := Et.own_ls o (fun x hx => (List.mem_append.1 hx).elim (fun z => hsr x (List.mem_of_mem_take z)) (hsa x))
   exact ⟨ao',_,cap',e,by rw [e] at o; exact o⟩
  have HN2 : Hid (∀ w1 eo en ec,Y.drew.grownBy w1 (Value.slice go k gc).ownBlock → Et.Own w1 (c3 + 1) (.slice eo en ec) (l.take k ++ al) → Nx w (w1.setCell ⟨c3,6,none⟩ (.slice eo en ec)) w.heap.size c1 c2 c3 r a ⟨t,v,r.base,r.bt,r.mem,r.snap,⟨eo,en,ec⟩⟩ (l.take k ++ al)) := Lib.hid fun w1 eo en ec gr o => by
   have b : Below (c3 + 1) Y w1 := ((Below.refl (c3 + 1) Y).drew).grown gr HYl.out (Et.own_ge HO2.out)
   have hB : Hd.Block w1 c3 [⟨t,v,r.base,r.bt,r.mem,r.snap,⟨go,gn,gc⟩⟩] := (b.block c3 (by omega)).trans HY.out.bg
   have u1 : UpdQ (fun b => c3 ≤ b) Y w1 := (UpdQ.of ((Below.refl _ _).drew)).trans ((UpdQ.grown gr).mono fun b z => by have := Et.own_ge HO2.out b z; omega)
   have u2 := upd_set w1 c3 6 (.slice eo en ec)
   exact HY.out.upd (u1.trans (u2.mono fun b z => by omega)) (hB.log ⟨eo,en,ec⟩) (u2.rows o fun b z e => by have := Et.own_ge o b z; omega)
  go_cut [5] (fun p wx => ∃ s : Sl,p = .pointer (some ⟨c3,0,none⟩) ∧ Hid (Nx w wx w.heap.size c1 c2 c3 r a ⟨t,v,r.base,r.bt,r.mem,r.snap,s⟩ (l.take k ++ al)))
  case first =>
   go_wp2_with fail
   go_region_law (first | (refine step_apq Y.drew (by rfl) (.tmp 42) (.tmp 45) (by rfl) (c3 + 1) (.slice go k gc) (l.take k) (by rfl) HO3.out bo m cb al (by rfl) HAs.out.2.2 HAs.out.2.1 HAs.out.1 hlk hc4 ?_; intro v2 w2 o2 gr2; obtain ⟨eo,en,ec,rfl,o3⟩ := HE2.out v2 w2 o2; have s3 := HS2.out w2 gr2; (obtain ⟨t1,t2,t3⟩ := s3); have HN3 := Lib.hid (HN2.out w2 eo en ec gr2 o3)) | fail)
   all_goals (go_wp2_with fail; go_meet; exact ⟨_,rfl,HN3⟩)
  case rest =>
   rename World => Z
   obtain ⟨s,rfl,HZ⟩ := hcut
   clear HN2 HE2 HAs HO3 HS2 HO2 hs1 hR1 HY hls x1 x8 v6 hlk hc3 hc4 HYl CW
   have HSh : Hid (∀ x ∈ l.take k ++ al,Et.Short x) := Lib.hid fun x hx => (List.mem_append.1 hx).elim (fun z => hsr x (List.mem_of_mem_take z)) (hsa x)
   generalize l.take k ++ al = M at *
   obtain ⟨so,sn,sc⟩ := s
   have hNo : ∀ x : Hd.T,x = r → Hid (∀ U,Nx w U w.heap.size c1 c2 c3 r a ⟨t,v,r.base,r.bt,r.mem,r.snap,⟨so,sn,sc⟩⟩ M → NxE w r l (.returned (Hd.val x)) (lay U c2 0 x)) := fun x hx => Lib.hid fun U h => ⟨x,l,rfl,(h.fin x).2.1,.inl ⟨hx,rfl⟩⟩
   have HNo := hNo ⟨r.term,r.vote,r.base,r.bt,r.mem,r.snap,⟨ao,n,cap⟩⟩ (by rw [← hlog])
   clear hNo
   have HYs : Hid (∀ U,Nx w U w.heap.size c1 c2 c3 r a ⟨t,v,r.base,r.bt,r.mem,r.snap,⟨so,sn,sc⟩⟩ M → rRight (Hd.h ⟨t,v,r.base,r.bt,r.mem,r.snap,⟨so,sn,sc⟩⟩ M) = true → small (Hd.h ⟨t,v,r.base,r.bt,r.mem,r.snap,⟨so,sn,sc⟩⟩ M) = true → NxE w r l (.returned (Hd.val ⟨t,v,r.base,r.bt,r.mem,r.snap,⟨so,sn,sc⟩⟩)) (lay U c2 0 ⟨t,v,r.base,r.bt,r.mem,r.snap,⟨so,sn,sc⟩⟩)) := Lib.hid fun U h h1 h2 => ⟨_,M,rfl,(h.fin _).2.1,.inr ⟨Et.own_mono (h.fin _).2.2 (by have := h.lt; omega),HSh.out,h1,h2⟩⟩
   have hz2 : r.snap.size ≤ 140737488355328 := by omega
   have CR := Lib.hid fun U (h : Nx w U w.heap.size c1 c2 c3 r a ⟨t,v,r.base,r.bt,r.mem,r.snap,⟨so,sn,sc⟩⟩ M) => rf_right ⟨t,v,r.base,r.bt,r.mem,r.snap,⟨so,sn,sc⟩⟩ M U (h.ls HSh.out) hz2
   have CS := Lib.hid fun U (h : Nx w U w.heap.size c1 c2 c3 r a ⟨t,v,r.base,r.bt,r.mem,r.snap,⟨so,sn,sc⟩⟩ M) => kp_small ⟨t,v,r.base,r.bt,r.mem,r.snap,⟨so,sn,sc⟩⟩ M U (h.ls HSh.out) hz2
   obtain ⟨-,-,-,p3,-⟩ := HZ.out.facts
   unfold Hd.C at p3
   obtain ⟨v0,v1,v2,v3,v4,v5,v6⟩ := p3
   dsimp only at v0 v1 v2 v3 v4 v5 v6
   cases q1 : rRight (Hd.h ⟨t,v,r.base,r.bt,r.mem,r.snap,⟨so,sn,sc⟩⟩ M)
   ·
    have CR := CR.out Z HZ.out
    rw [q1] at CR
    unfold Hd.val at CR
    dsimp only at CR
    have CR := Lib.hid CR
    go_wp2_with (go_at_call 20; refine CR.out.mono ?_; rintro e u ⟨rfl,bu⟩; have HU := Lib.hid (HZ.out.later bu); obtain ⟨fz,lt2,p0,-,p2⟩ := HU.out.facts; unfold Hd.C at p0 p2; rw [hlog] at p0; dsimp only at p0 p2; obtain ⟨y0,y1,y2,y3,y4,y5,y6⟩ := p0; obtain ⟨d0,d1,d2,d3,d4,d5,d6⟩ := p2; clear bu)
    refine bodyPost_ret (results_hd Tryz.results32 rfl (HU.out.fin ⟨r.term,r.vote,r.base,r.bt,r.mem,r.snap,⟨ao,n,cap⟩⟩).1) rfl ?_
    exact HNo.out u HU.out
   ·
    have CR := CR.out Z HZ.out
    rw [q1] at CR
    unfold Hd.val at CR
    dsimp only at CR
    have CR := Lib.hid CR
    have HQ1 := Lib.hid q1
    clear q1
    cases q2 : small (Hd.h ⟨t,v,r.base,r.bt,r.mem,r.snap,⟨so,sn,sc⟩⟩ M)
    ·
     have CT : Hid (∀ U,Nx w U w.heap.size c1 c2 c3 r a ⟨t,v,r.base,r.bt,r.mem,r.snap,⟨so,sn,sc⟩⟩ M → Calls Tryz.prog 18 #[Hd.val ⟨t,v,r.base,r.bt,r.mem,r.snap,⟨so,sn,sc⟩⟩] U fun e w' => e = .returned (.bool false) ∧ Below U.heap.size U w') := Lib.hid fun U h => q2 ▸ CS.out U h
     unfold Hd.val at CT
     dsimp only at CT
     clear CS q2
     go_wp2_with (first | (go_at_call 20; refine CR.out.mono ?_; rintro e u ⟨rfl,bu⟩; have HU := Lib.hid (HZ.out.later bu); obtain ⟨-,-,-,p3,-⟩ := HU.out.facts; unfold Hd.C at p3; dsimp only at p3; obtain ⟨z0,z1,z2,z3,z4,z5,z6⟩ := p3; clear bu) | (go_at_call 18; refine (CT.out _ HU.out).mono ?_; rintro e u2 ⟨rfl,bu⟩; have HV := Lib.hid (HU.out.later bu); obtain ⟨fz,lt2,p0,-,p2⟩ := HV.out.facts; unfold Hd.C at p0 p2; rw [hlog] at p0; dsimp only at p0 p2; obtain ⟨y0,y1,y2,y3,y4,y5,y6⟩ := p0; obtain ⟨d0,d1,d2,d3,d4,d5,d6⟩ := p2; clear bu))
     refine bodyPost_ret (results_hd Tryz.results32 rfl (HV.out.fin ⟨r.term,r.vote,r.base,r.bt,r.mem,r.snap,⟨ao,n,cap⟩⟩).1) rfl ?_
     exact HNo.out u2 HV.out
    ·
     have CT : Hid (∀ U,Nx w U w.heap.size c1 c2 c3 r a ⟨t,v,r.base,r.bt,r.mem,r.snap,⟨so,sn,sc⟩⟩ M → Calls Tryz.prog 18 #[Hd.val ⟨t,v,r.base,r.bt,r.mem,r.snap,⟨so,sn,sc⟩⟩] U fun e w' => e = .returned (.bool true) ∧ Below U.heap.size U w') := Lib.hid fun U h => q2 ▸ CS.out U h
     have HQ2 := Lib.hid q2
     unfold Hd.val at CT
     dsimp only at CT
     clear CS q2
     go_wp2_with (first | (go_at_call 20; refine CR.out.mono ?_; rintro e u ⟨rfl,bu⟩; have HU := Lib.hid (HZ.out.later bu); obtain ⟨-,-,-,p3,-⟩ := HU.out.facts; unfold Hd.C at p3; dsimp only at p3; obtain ⟨z0,z1,z2,z3,z4,z5,z6⟩ := p3; clear bu) | (go_at_call 18; refine (CT.out _ HU.out).mono ?_; rintro e u2 ⟨rfl,bu⟩; have HV := Lib.hid (HU.out.later bu); obtain ⟨fz,lt2,-,p0,p2⟩ := HV.out.facts; unfold Hd.C at p0 p2; dsimp only at p0 p2; obtain ⟨y0,y1,y2,y3,y4,y5,y6⟩ := p0; obtain ⟨d0,d1,d2,d3,d4,d5,d6⟩ := p2; clear bu))
     refine bodyPost_ret (results_hd Tryz.results32 rfl (HV.out.fin ⟨t,v,r.base,r.bt,r.mem,r.snap,⟨so,sn,sc⟩⟩).1) rfl ?_
     exact HYs.out u2 HV.out HQ1.out HQ2.out
end Go.Proofs.YtlmjeackfepllaaGreatDoor.Wl
namespace Go.Proofs.YtlmjeackfepllaaGreatDoor.Wa
open Go.RowKit
open Mem
structure At (u : World) (b o : Nat) (r : T) : Prop where
 c0 : u.cell? ⟨b,o,none⟩ = some (.int .i64 r.kind)
 c1 : u.cell? ⟨b,o + 1,none⟩ = some (.int .i64 r.n)
 c2 : u.cell? ⟨b,o + 2,none⟩ = some (.int .i64 r.term)
 c3 : u.cell? ⟨b,o + 3,none⟩ = some (.int .i64 r.vote)
 c4 : u.cell? ⟨b,o + 4,none⟩ = some (.int .i64 r.base)
 c5 : u.cell? ⟨b,o + 5,none⟩ = some (.int .i64 r.bt)
 c6 : u.cell? ⟨b,o + 6,none⟩ = some (.int .i64 r.mem)
 c7 : u.cell? ⟨b,o + 7,none⟩ = some (.string r.snap)
 c8 : u.cell? ⟨b,o + 8,none⟩ = some (.slice r.log.ao r.log.n r.log.cap)
 c9 : u.cell? ⟨b,o + 9,none⟩ = some (.slice r.picks.ao r.picks.n r.picks.cap)
theorem At.below {u v : World} {b o : Nat} {r : T} (h : At u b o r) (k : Below u.heap.size u v) : At v b o r := by
 have hl := cell_lt h.c0
 exact ⟨by rw [(bcell k).1 _ _ hl]; exact h.c0,by rw [(bcell k).1 _ _ hl]; exact h.c1,by rw [(bcell k).1 _ _ hl]; exact h.c2,by rw [(bcell k).1 _ _ hl]; exact h.c3,by rw [(bcell k).1 _ _ hl]; exact h.c4,by rw [(bcell k).1 _ _ hl]; exact h.c5,by rw [(bcell k).1 _ _ hl]; exact h.c6,by rw [(bcell k).1 _ _ hl]; exact h.c7,by rw [(bcell k).1 _ _ hl]; exact h.c8,by rw [(bcell k).1 _ _ hl]; exact h.c9⟩
def Seg (w : World) (ao : Option Addr) (rs : List T) : Prop := rs = [] ∨ ∃ b off,ao = some ⟨b,off,none⟩ ∧ ∀ (k : Nat) (hk : k < rs.length),At w b (off + k * 10) rs[k]
theorem Seg.below {w v : World} {ao : Option Addr} {rs : List T} (h : Seg w ao rs) (k : Below w.heap.size w v) : Seg v ao rs := by
 rcases h with h | ⟨b,off,e,h⟩
 · exact .inl h
 · exact .inr ⟨b,off,e,fun i hi => (h i hi).below k⟩
structure Ls (w : World) (ao : Option Addr) (n cap : Nat) (rs : List T) : Prop where
 len : n = rs.length
 fits : n ≤ cap
 reach : cap ≤ 9223372036854775807
 nil : ao = none → cap = 0
 seg : Seg w ao rs
 short : ∀ r ∈ rs,Short r
theorem Ls.below {w v : World} {ao : Option Addr} {n cap : Nat} {rs : List T} (h : Ls w ao n cap rs) (k : Below w.heap.size w v) : Ls v ao n cap rs :=
 ⟨h.len,h.fits,h.reach,h.nil,h.seg.below k,h.short⟩
theorem Ls.at {w : World} {ao : Option Addr} {n cap : Nat} {rs : List T} (h : Ls w ao n cap rs) (hn : 0 < n) : ∃ b off,ao = some ⟨b,off,none⟩ := by
 rcases h.seg with e | ⟨b,off,e,_⟩
 ·
  have := h.len
  rw [e] at this
  simp at this
  omega
 · exact ⟨b,off,e⟩
theorem Ls.row {w : World} {b off n cap : Nat} {rs : List T} (h : Ls w (some ⟨b,off,none⟩) n cap rs) (k : Nat) (hk : k < rs.length) : At w b (off + k * 10) rs[k] := by
 rcases h.seg with e | ⟨b',off',e,hs⟩
 ·
  subst e
  simp at hk
 ·
  cases e
  exact hs k hk
theorem ls_nil (w : World) : Ls w none 0 0 [] := ⟨rfl,Nat.le_refl _,by omega,fun _ => rfl,.inl rfl,by simp⟩
theorem und : Tryz.prog.underlying 40 = some (.slice (Tryz.prog.elem 40)) := by kernel_rfl
theorem size (u : World) : (sizeOf (Tryz.prog.elem 40)).run Tryz.prog u = .ok 10 u := by
 have h : (Tryz.prog.info? (Tryz.prog.elem 40)).map (·.size) = some 10 := by kernel_rfl
 obtain ⟨i,hi,hs⟩ := Option.map_eq_some_iff.1 h
 simp [sizeOf,typeInfo,hi,hs]
theorem Ls.to {w : World} {ao : Option Addr} {n cap : Nat} {rs : List T} (h : Ls w ao n cap rs) (k : Nat) (hk : k ≤ n) :
  (∀ u,(Instr.slice 40 (.slice ao n cap) none (some (.int .i64 (k : Int))) none).run Tryz.prog u = .ok (.slice ao k cap) u) ∧ Ls w ao k cap (rs.take k) := by
 have hl := h.len
 have hf := h.fits
 refine ⟨fun u => ?_,⟨by rw [List.length_take]; omega,by omega,h.reach,h.nil,?_,fun r hr => h.short r (List.mem_of_mem_take hr)⟩⟩
 ·
  rw [run_slice_h u 40 ao n cap und .i64 k (by omega) (by omega),size]
  have e : Option.map (fun x : Addr => x.add 0) ao = ao := by cases ao <;> simp [Addr.add]
  simp [Result.andThen,sliced,e]
 ·
  rcases h.seg with e | ⟨b,off,e,hc⟩
  · exact .inl (by rw [e]; simp)
  ·
   refine .inr ⟨b,off,e,fun j hj => ?_⟩
   rw [List.length_take] at hj
   rw [List.getElem_take]
   exact hc j (by omega)
theorem Ls.from {w : World} {ao : Option Addr} {n cap : Nat} {rs : List T} (h : Ls w ao n cap rs) (k : Nat) (hk : k ≤ n) :
  ∃ ao2 cap2,(∀ u,(Instr.slice 40 (.slice ao n cap) (some (.int .i64 (k : Int))) none none).run Tryz.prog u = .ok (.slice ao2 (n - k) cap2) u) ∧ Ls w ao2 (n - k) cap2 (rs.drop k) := by
 have hl := h.len
 have hf := h.fits
 refine ⟨if cap = k then ao else ao.map (·.add (k * 10)),cap - k,fun u => ?_,⟨by rw [List.length_drop]; omega,by omega,by have := h.reach; omega,?_,?_,fun r hr => h.short r (List.mem_of_mem_drop hr)⟩⟩
 ·
  rw [run_slice_l u 40 ao n cap und .i64 k (by omega) (by omega),size]
  simp [Result.andThen,sliced]
 ·
  by_cases e : cap = k
  · omega
  ·
   rw [if_neg e]
   cases ao with
   | none => have := h.nil rfl; omega
   | some a => exact fun k => by cases k
 ·
  by_cases hkn : k = n
  · exact .inl (List.drop_eq_nil_of_le (by omega))
  ·
   rcases h.seg with e | ⟨b,off,rfl,hc⟩
   · exact .inl (by rw [e]; simp)
   ·
    refine .inr ⟨b,off + k * 10,?_,fun j hj => ?_⟩
    ·
     rw [if_neg (by omega)]
     unfold Addr.add
     simp only [Option.map_some,Option.some.injEq]
     split
     ·
      rename_i e
      rw [e]
      rfl
     · rfl
    ·
     rw [List.length_drop] at hj
     rw [List.getElem_drop,show off + k * 10 + j * 10 = off + (k + j) * 10 by omega]
     exact hc (k + j) (by omega)
end Go.Proofs.YtlmjeackfepllaaGreatDoor.Wa
namespace Go.Proofs.YtlmjeackfepllaaGreatDoor.Wa
open Go.RowKit
open Mem
def rv (r : T) : List Value := [.int .i64 r.kind,.int .i64 r.n,.int .i64 r.term,.int .i64 r.vote,.int .i64 r.base,.int .i64 r.bt,.int .i64 r.mem,.string r.snap,.slice r.log.ao r.log.n r.log.cap,.slice r.picks.ao r.picks.n r.picks.cap]
theorem rv_len (r : T) : (rv r).length = 10 := rfl
theorem flat_len : ∀ rs : List T,(rs.flatMap rv).length = rs.length * 10
 | [] => rfl
 | r :: l => by
  rw [List.flatMap_cons,List.length_append,rv_len,flat_len l,List.length_cons]
  omega
theorem flat_at : ∀ (rs : List T) (k p : Nat) (hk : k < rs.length),p < 10 → (rs.flatMap rv)[k * 10 + p]? = (rv rs[k])[p]?
 | r :: l,0,p,_,hp => by
  rw [List.flatMap_cons,List.getElem?_append_left (by rw [rv_len]; omega),Nat.zero_mul,Nat.zero_add]
  rfl
 | r :: l,k + 1,p,hk,hp => by
  rw [List.flatMap_cons,List.getElem?_append_right (by rw [rv_len]; omega),rv_len,show (k + 1) * 10 + p - 10 = k * 10 + p by omega]
  exact flat_at l k p (by simpa using hk) hp
theorem one_cell (rs : List T) : ∀ v ∈ rs.flatMap rv,v.oneCell' = true := by
 intro v hv
 obtain ⟨r,_,h⟩ := List.mem_flatMap.1 hv
 unfold rv at h
 simp only [List.mem_cons,List.not_mem_nil,or_false] at h
 rcases h with rfl | rfl | rfl | rfl | rfl | rfl | rfl | rfl | rfl | rfl <;> rfl
theorem news_of {w : World} {b off : Nat} {rs : List T} (h : ∀ (k : Nat) (hk : k < rs.length),At w b (off + k * 10) rs[k]) (j : Nat) (u : Value) (hu : (rs.flatMap rv)[j]? = some u) : w.cell? ((⟨b,off,none⟩ : Addr).add j) = some u := by
 have hj : j < (rs.flatMap rv).length := by
  obtain ⟨hj,_⟩ := List.getElem?_eq_some_iff.1 hu
  exact hj
 rw [flat_len] at hj
 obtain ⟨k,p,rfl,hp⟩ : ∃ k p,j = k * 10 + p ∧ p < 10 := ⟨j / 10,j % 10,by omega,by omega⟩
 have hk : k < rs.length := by omega
 rw [flat_at rs k p hk hp] at hu
 have ha : (⟨b,off,none⟩ : Addr).add (k * 10 + p) = ⟨b,off + k * 10 + p,none⟩ := by
  unfold Addr.add
  split
  ·
   rename_i e
   simp only [Addr.mk.injEq,true_and,and_true]
   omega
  ·
   simp only [Addr.mk.injEq,true_and,and_true]
   omega
 rw [ha]
 obtain ⟨c0,c1,c2,c3,c4,c5,c6,c7,c8,c9⟩ := h k hk
 have hp' : p = 0 ∨ p = 1 ∨ p = 2 ∨ p = 3 ∨ p = 4 ∨ p = 5 ∨ p = 6 ∨ p = 7 ∨ p = 8 ∨ p = 9 := by omega
 unfold rv at hu
 rcases hp' with rfl | rfl | rfl | rfl | rfl | rfl | rfl | rfl | rfl | rfl
 all_goals simp at hu
 all_goals subst hu
 · exact c0
 · exact c1
 · exact c2
 · exact c3
 · exact c4
 · exact c5
 · exact c6
 · exact c7
 · exact c8
 · exact c9
def Own (w : World) (B : Nat) (v : Value) (xs : List T) : Prop := w.ownsRow B 48 10 v xs.length (xs.flatMap rv)
theorem own_nil (w : World) (B : Nat) : Own w B (.slice none 0 0) [] := ⟨rfl,.inl ⟨rfl,rfl⟩⟩
theorem own_ls {w : World} {B : Nat} {v : Value} {xs : List T} (h : Own w B v xs) (hs : ∀ r ∈ xs,Short r) : ∃ ao cap,v = .slice ao xs.length cap ∧ Ls w ao xs.length cap xs ∧ (∀ ad,ao = some ad → ∃ g,ad = ⟨g,0,none⟩ ∧ B ≤ g) := by
 rcases h.2 with ⟨h',h2⟩ | ⟨g,cap,cur,h',hb,hg,hnc,hcm,hcs,htake⟩
 ·
  have e : xs = [] := List.length_eq_zero_iff.1 h2
  subst e
  exact ⟨none,0,h',⟨rfl,Nat.le_refl _,by omega,fun _ => rfl,.inl rfl,hs⟩,fun ad k => by cases k⟩
 ·
  refine ⟨some ⟨g,0,none⟩,cap,h',⟨rfl,hnc,hcm,fun k => (by cases k),.inr ⟨g,0,rfl,fun k hk => ?_⟩,hs⟩,fun ad k => by cases k; exact ⟨g,rfl,hb⟩⟩
  have hcell : ∀ p,p < 10 → w.cell? ⟨g,0 + k * 10 + p,none⟩ = (rv xs[k])[p]? := by
   intro p hp
   rw [Nat.zero_add,cell_of_row w g _ _ _ _ hg,← flat_at xs k p hk hp,← htake,List.getElem?_take_of_lt (by omega)]
   simp
  exact ⟨hcell 0 (by omega),hcell 1 (by omega),hcell 2 (by omega),hcell 3 (by omega),hcell 4 (by omega),hcell 5 (by omega),hcell 6 (by omega),hcell 7 (by omega),hcell 8 (by omega),hcell 9 (by omega)⟩
def zero : T := ⟨0,0,0,0,0,0,0,.empty,⟨none,0,0⟩,⟨none,0,0⟩⟩
def zeroV : Value := .agg #[.int .i64 0,.int .i64 0,.int .i64 0,.int .i64 0,.int .i64 0,.int .i64 0,.int .i64 0,.string .empty,.slice none 0 0,.slice none 0 0]
theorem info : (Tryz.prog.info? 48).map (fun i => (i.zero,i.size,i.bytes)) = some (some zeroV,10,120) := by kernel_rfl
theorem wp_append {o : Oper} {a : Act} {K : Act → World → Prop} {Q : Exit → Act → World → Prop} (w : World) (s x : Operand)
  (ho : o.op = .call { callee := .builtin .append,args := #[s,x],argTypes := #[40,40] })
  (B : Nat) (v : Value) (xs : List T) (hs : a.eval s = v) (hown : Own w B v xs)
  (ao : Option Addr) (n cap : Nat) (zs : List T) (hx : a.eval x = .slice ao n cap) (hn : n = zs.length) (hnil : ao = none → cap = 0) (hsrc : Seg w ao zs) (hl : (xs.length + n) * 120 ≤ 140737488355328) (hb : B ≤ w.heap.size)
  (h : ∀ v' w1,Own w1 B v' (xs ++ zs) → w.grownBy w1 v.ownBlock → (v'.ownBlock = v.ownBlock ∨ v'.ownBlock = some w.heap.size) → K (a.put o.dst v') w1) : o.wp Tryz.prog a w K Q := by
 have hzs : zeroV.cells.size = 10 := rfl
 obtain ⟨i0,hi,hz0,hz1,hz2⟩ := info_parts info
 have hmx : maxLen = 9223372036854775807 := rfl
 have empty : zs = [] → n = 0 → Own w B v (xs ++ zs) := by
  intro e _
  rw [e,List.append_nil]
  exact hown
 cases ao with
 | none =>
  obtain rfl : cap = 0 := hnil rfl
  rcases hsrc with e | ⟨b,off,e,_⟩
  ·
   obtain rfl : n = 0 := by rw [hn,e]; rfl
   have hrun := run_append_owned_none (P := Tryz.prog) (w := w) B 40 o.type 48 i0 10 Tryz.underlying40 hi v _ _ hown
   unfold Oper.wp
   simp [execOp,ho,resolve,invoke,builtin,hs,hx,hrun,Result.andThen]
   exact h v w (empty e rfl) ⟨rfl,rfl,rfl,Nat.le_refl _,fun _ _ _ => rfl⟩ (.inl rfl)
  · cases e
 | some ad =>
  obtain ⟨v',w',hr,h2,h3,_,h5⟩ := run_append_own_at (P := Tryz.prog) w B 40 o.type 48 i0 zeroV 10 120 Tryz.underlying40 hi hz0 hz1 hz2 hzs (by omega) v xs.length (xs.flatMap rv) hown ad n cap (zs.flatMap rv) (by rw [flat_len,hn]) (by
   rcases hsrc with e | ⟨b,off,e,hc⟩
   ·
    rw [e]
    intro j u hu
    simp at hu
   ·
    cases e
    exact fun j u hu => news_of hc j u hu) (one_cell zs) (by omega) hl hb
  unfold Oper.wp execOp
  simp only [ho,resolve,invoke,builtin,Sem.run_bind,Sem.run_pure,Result.andThen_ok,List.map_toArray,List.map_cons,List.map_nil,hs,hx,hr]
  refine h v' w' ?_ h3 h5
  unfold Own
  rw [List.flatMap_append,List.length_append,← hn]
  exact h2
theorem wpList_append {ops : Array Oper} {rest : List Oper} {o : Oper} {a : Act} {Q : Exit → Act → World → Prop} (w : World) (hgd : o.guard = none) (s x : Operand)
  (ho : o.op = .call { callee := .builtin .append,args := #[s,x],argTypes := #[40,40] })
  (B : Nat) (v : Value) (xs : List T) (hs : a.eval s = v) (hown : Own w B v xs)
  (ao : Option Addr) (n cap : Nat) (zs : List T) (hx : a.eval x = .slice ao n cap) (hn : n = zs.length) (hnil : ao = none → cap = 0) (hsrc : Seg w ao zs) (hl : (xs.length + n) * 120 ≤ 140737488355328) (hb : B ≤ w.heap.size)
  (h : ∀ v' w1,Own w1 B v' (xs ++ zs) → w.grownBy w1 v.ownBlock → (v'.ownBlock = v.ownBlock ∨ v'.ownBlock = some w.heap.size) → wpList Tryz.prog ops Q rest (a.put o.dst v') w1) : wpList Tryz.prog ops Q (o :: rest) a w :=
 wpList_plain hgd fun _ hK => wp_append w s x ho B v xs hs hown ao n cap zs hx hn hnil hsrc hl hb fun v' w1 h1 h2 h3 => hK _ _ (h v' w1 h1 h2 h3)
theorem own_ge {w : World} {B : Nat} {v : Value} {xs : List T} (h : Own w B v xs) : ∀ k,v.ownBlock = some k → B ≤ k := by
 intro k hk
 rcases h.2 with ⟨h',_⟩ | ⟨g,cap,cur,h',hb,_⟩
 ·
  rw [h'] at hk
  cases hk
 ·
  rw [h'] at hk
  simp only [Value.ownBlock,Option.some.injEq] at hk
  omega
theorem own_mono {w : World} {B C : Nat} {v : Value} {xs : List T} (h : Own w B v xs) (hc : C ≤ B) : Own w C v xs := by
 obtain ⟨h1,h2⟩ := h
 refine ⟨h1,?_⟩
 rcases h2 with h2 | ⟨g,cap,cur,h',hb,h3⟩
 · exact .inl h2
 · exact .inr ⟨g,cap,cur,h',by omega,h3⟩
theorem own_empty {X : World} {B g : Nat} (hB : B ≤ g) (hg : X.heap[g]? = some (.cells #[] 48 (0,0))) : Own X B (.slice (some ⟨g,0,none⟩) 0 0) [] :=
 ⟨rfl,.inr ⟨g,0,#[],rfl,hB,hg,Nat.le_refl _,Nat.zero_le _,rfl,rfl⟩⟩
theorem own_alloc {w : World} {B : Nat} {v : Value} {xs : List T} (h : Own w B v xs) (o : Obj) : Own (w.alloc o) B v xs := World.ownsRow.alloc h o
theorem own_drew {w : World} {B : Nat} {v : Value} {M : List T} (h : Own w B v M) : Own w.drew B v M := h
theorem own_below {w u : World} {B : Nat} {v : Value} {xs : List T} (h : Own w B v xs) (k : Below w.heap.size w u) : Own u B v xs := by
 obtain ⟨h1,h2⟩ := h
 refine ⟨h1,?_⟩
 rcases h2 with h2 | ⟨g,cap,cur,h',hb,hg,h3⟩
 · exact .inl h2
 ·
  refine .inr ⟨g,cap,cur,h',hb,?_,h3⟩
  have hl : g < w.heap.size := by
   obtain ⟨hl,_⟩ := Array.getElem?_eq_some_iff.1 hg
   exact hl
  rw [k.block g hl]
  exact hg
def block (r : T) : Obj := .cells #[.int .i64 r.kind,.int .i64 r.n,.int .i64 r.term,.int .i64 r.vote,.int .i64 r.base,.int .i64 r.bt,.int .i64 r.mem,.string r.snap,.slice r.log.ao r.log.n r.log.cap,.slice r.picks.ao r.picks.n r.picks.cap] 48 (0,0)
theorem seg_block {X : World} {g : Nat} {r : T} (h : X.heap[g]? = some (block r)) : Seg X (some ⟨g,0,none⟩) [r] := by
 refine .inr ⟨g,0,rfl,fun k hk => ?_⟩
 obtain rfl : k = 0 := by simpa using hk
 unfold block at h
 refine ⟨?_,?_,?_,?_,?_,?_,?_,?_,?_,?_⟩
 all_goals rw [cell_of_row X g _ _ _ _ h]
 all_goals rfl
theorem step_append {ops : Array Oper} {o : Oper} {a : Act} {K : Act → World → Prop} {Q : Exit → Act → World → Prop} {E : Prop} (X x : World) (hX : Below x.heap.size x X) (hgd : o.guard = none) (s t : Operand)
  (ho : o.op = .call { callee := .builtin .append,args := #[s,t],argTypes := #[40,40] })
  (v : Value) (xs : List T) (hs : a.eval s = v) (hown : Own X x.heap.size v xs)
  (ao : Option Addr) (n cap : Nat) (zs : List T) (ht : a.eval t = .slice ao n cap) (hn : n = zs.length) (hnil : ao = none → cap = 0) (hsrc : Seg X ao zs) (hl : xs.length + n ≤ 100000)
  (h : ∀ v' w1,Own w1 x.heap.size v' (xs ++ zs) → X.grownBy w1 v.ownBlock → Below x.heap.size x w1 → K (a.put o.dst v') w1) :
  if Region.wanted o (yielded ops a.tmps) = true then Oper.wp Tryz.prog o a X K Q else E := by
 have hw : Region.wanted o (yielded ops a.tmps) = true := by simp [Region.wanted,hgd]
 rw [if_pos hw]
 exact wp_append X s t ho x.heap.size v xs hs hown ao n cap zs ht hn hnil hsrc (by omega) hX.size fun v' w1 h1 h2 _ => h v' w1 h1 h2 (hX.grown h2 hX.size (own_ge hown))
end Go.Proofs.YtlmjeackfepllaaGreatDoor.Wa
namespace Go.Proofs.YtlmjeackfepllaaGreatDoor.Et
open Go.ChangeShapes Go.WideShapes Go.ChangeAt Go.RowKit Mem
theorem cellsOf : Tryz.prog.cellsOf 36 = 3 := by kernel_rfl
def datum (H : Type) (r : T) : DataW H := .agg [.lit (.int .i64 r.term),.lit (.int .i64 r.mem),.lit (.string (txt r.data))]
theorem open_cells {H : Type} {enc : TypeId × Value → H} {w : World} {base : Nat} {spare : Nat → Bool} {held : Bool} {fuel : Nat} {cs : List Value} {x : DataW H × List MemPlace}
  (h : DataW.trod enc Tryz.prog w base spare held fuel 36 cs = some x) : ∃ r : T,cs = rv r ∧ x.1 = datum H r ∧ Fit r.term ∧ Fit r.mem := by
 obtain ⟨xs,n,_,rfl,hl,hxl,hf⟩ := DataW.trod_struct Tryz.underlying36 h
 rw [cellsOf] at hl
 match cs,hl with
 | [v0,v1,v2],_ =>
  match xs,hxl with
  | [y0,y1,y2],_ =>
   have g0 : DataW.trod enc Tryz.prog w base spare held n 3 (List.take (Tryz.prog.cellsOf 3) (List.drop 0 [v0,v1,v2])) = some y0 := hf 0 _ rfl
   rw [show Tryz.prog.cellsOf 3 = 1 by kernel_rfl] at g0
   simp only [List.drop,List.take] at g0
   have g1 : DataW.trod enc Tryz.prog w base spare held n 3 (List.take (Tryz.prog.cellsOf 3) (List.drop 1 [v0,v1,v2])) = some y1 := hf 1 _ rfl
   rw [show Tryz.prog.cellsOf 3 = 1 by kernel_rfl] at g1
   simp only [List.drop,List.take] at g1
   have g2 : DataW.trod enc Tryz.prog w base spare held n 9 (List.take (Tryz.prog.cellsOf 9) (List.drop 2 [v0,v1,v2])) = some y2 := hf 2 _ rfl
   rw [show Tryz.prog.cellsOf 9 = 1 by kernel_rfl] at g2
   simp only [List.drop,List.take] at g2
   obtain ⟨x0,e0,rfl,w0⟩ := DataW.trod_int Tryz.underlying3 g0
   obtain ⟨x1,e1,rfl,w1⟩ := DataW.trod_int Tryz.underlying3 g1
   obtain ⟨x2,e2,rfl,_⟩ := DataW.trod_string Tryz.underlying9 g2
   simp only [List.cons.injEq,and_true] at e0 e1 e2
   subst e0 e1 e2
   exact ⟨⟨x0,x1,x2⟩,rfl,rfl,fit_in w0,fit_in w1⟩
theorem weights_data {H : Type} (r : T) : (txt r.data).length ∈ (datum H r).weights Tryz.prog 36 := by
 unfold datum
 simp [DataW.weights,Tryz.underlying36,DataW.weightsEach]
theorem one_in {H : Type} {enc : TypeId × Value → H} {W : World} {base b0 : Nat} {spare : Nat → Bool} {held : Bool} {rr : Reach} {v : Value} {d : DataW H} {p : List MemPlace} {ts : List TypeId} {ds : List (DataW H)} (j : Nat)
  (hv : Value.okWide Tryz.prog W rr b0 36 v) (h : DataW.Trod enc Tryz.prog W base spare held 36 v d p)
  (hsz : (DataW.weightsEach Tryz.prog ts ds).all (· ≤ reachBytes) = true) (ht : ts[j]? = some 36) (hd : ds[j]? = some d) : ∃ r : T,v = val r ∧ Short r := by
 obtain ⟨cs,rfl,hc⟩ := okWide_struct Tryz.underlying36 hv
 obtain ⟨fuel,hf⟩ := h
 obtain ⟨r,e,hx,hf0,hf1⟩ := open_cells hf
 have hd' : d = datum H r := hx
 subst hd'
 have hs_data : r.data.size ≤ 140737488355328 := by
  have hw := List.all_eq_true.1 hsz _ (DataW.weights_mem_each ht hd _ (weights_data r))
  rw [decide_eq_true_eq,txt_len] at hw
  unfold reachBytes at hw
  omega
 refine ⟨r,?_,⟨hf0,hf1,hs_data⟩⟩
 have e' : cs.toList = rv r := e
 unfold val
 congr 1
 apply Array.toList_inj.1
 rw [e']
 rfl
theorem weights_all {H : Type} {P : Program} {e : TypeId} {d : DataW H} {n : Nat} (hn : n ∈ d.weights P e) : ∀ (l : List (DataW H)),d ∈ l → n ∈ DataW.weightsAll P e l
 | a :: l,h => by
  rw [DataW.weightsAll,List.mem_append]
  rcases List.mem_cons.1 h with rfl | h
  · exact .inl hn
  · exact .inr (weights_all hn l h)
def AtA (w : World) (a : Addr) (r : T) : Prop := ∀ p,p < 3 → w.cell? (a.add p) = (rv r)[p]?
def Tight (r : T) : Prop := r.data.size ≤ 140737488351232
theorem list_tight {H : Type} {enc : TypeId × Value → H} {W : World} {ao : Option Addr} {n cap : Nat} {d : DataW H} {p : List MemPlace} {ts : List TypeId} {ds : List (DataW H)} (j : Nat)
  (hj : DataW.Trod enc Tryz.prog W 0 (fun _ => true) true 28 (.slice ao n cap) d p)
  (hsz : (DataW.weightsEach Tryz.prog ts ds).all (· ≤ reachBytes) = true) (ht : ts[j]? = some 28) (hd : ds[j]? = some d) : ∃ rs,Ls W ao n cap rs ∧ ∀ r ∈ rs,Tight r := by
 haveI : Inhabited T := ⟨zero⟩
 obtain ⟨fuel,hf⟩ := hj
 rcases Go.Deep.open_slice Tryz.underlying28 hf with ⟨hcs,_⟩ | ⟨a,len,c,m,k,D,Pl,hcs,_,hl,hm,hmm,hx,hel⟩
 ·
  simp [Value.cells] at hcs
  obtain ⟨rfl,rfl,rfl⟩ := hcs
  exact ⟨[],ls_nil W,by simp⟩
 ·
  simp [Value.cells] at hcs
  obtain ⟨rfl,rfl,rfl⟩ := hcs
  simp only [if_true] at hmm
  subst hmm
  obtain ⟨R,hR⟩ := Go.Deep.choose_lt (α := T) (n := m) (p := fun i r => AtA W (a.add (i * 3)) r ∧ D i = datum H r ∧ Fit r.term ∧ Fit r.mem) (fun i hi => by
   obtain ⟨cs',h1,h2⟩ := hel i hi
   rw [cellsOf] at h1
   obtain ⟨_,_,hcell⟩ := World.cells?_some h1
   obtain ⟨r,e,hx',f⟩ := open_cells h2
   subst e
   exact ⟨r,fun p hp => hcell p hp,hx',f⟩)
  have hd' := congrArg Prod.fst hx
  simp only at hd'
  rw [hd'] at hd
  have hall : ∀ r ∈ (List.range n).map R,Short r ∧ Tight r := by
   intro r hr
   obtain ⟨i,hi,rfl⟩ := List.mem_map.1 hr
   rw [List.mem_range] at hi
   obtain ⟨_,hDi,hf0,hf1⟩ := hR i (by omega)
   have hq_data : (R i).data.size ≤ 140737488351232 := by
    have hw := List.all_eq_true.1 hsz _ (DataW.weights_mem_each ht hd (txt (R i).data).length (by
     rw [DataW.weights,Tryz.underlying28]
     refine List.mem_cons_of_mem _ (List.mem_append.2 (.inl (weights_all (weights_data (R i)) _ ?_)))
     rw [← hDi]
     exact List.mem_map.2 ⟨i,List.mem_range.2 hi,rfl⟩))
    rw [decide_eq_true_eq,txt_len] at hw
    unfold reachBytes at hw
    omega
   have hs_data : (R i).data.size ≤ 140737488355328 := Nat.le_trans hq_data (by omega)
   exact ⟨⟨hf0,hf1,hs_data⟩,hq_data⟩
  refine ⟨(List.range n).map R,⟨by simp,hl,hm,(fun h => by cases h),?_,fun r hr => (hall r hr).1⟩,fun r hr => (hall r hr).2⟩
  ·
   by_cases h0 : 0 < n
   ·
    obtain ⟨b,off,spot⟩ := a
    have h1 := (hR 0 (by omega)).1 0 (by omega)
    have hspot : spot = none := by
     have h2 : W.cell? ((Addr.mk b off spot).add 0) = some (.int .i64 (R 0).term) := by
      rw [show (Addr.mk b off spot).add 0 = ((Addr.mk b off spot).add (0 * 3)).add 0 by simp [Addr.add]]
      exact h1
     simpa [Addr.add] using World.cell?_spot h2
    subst hspot
    refine .inr ⟨b,off,rfl,fun k hk => ?_⟩
    simp only [List.length_map,List.length_range] at hk
    have hcell : ∀ p,p < 3 → W.cell? ⟨b,off + k * 3 + p,none⟩ = (rv (R k))[p]? := by
     intro p hp
     rw [← (hR k (by omega)).1 p hp,Go.WideShapes.add_plain,Go.WideShapes.add_plain]
    simp only [List.getElem_map,List.getElem_range]
    exact ⟨hcell 0 (by omega),hcell 1 (by omega),hcell 2 (by omega)⟩
   · exact .inl (by rw [show n = 0 by omega]; rfl)
theorem list_in {H : Type} {enc : TypeId × Value → H} {W : World} {ao : Option Addr} {n cap : Nat} {d : DataW H} {p : List MemPlace} {ts : List TypeId} {ds : List (DataW H)} (j : Nat)
  (hj : DataW.Trod enc Tryz.prog W 0 (fun _ => true) true 28 (.slice ao n cap) d p)
  (hsz : (DataW.weightsEach Tryz.prog ts ds).all (· ≤ reachBytes) = true) (ht : ts[j]? = some 28) (hd : ds[j]? = some d) : ∃ rs,Ls W ao n cap rs := by
 obtain ⟨rs,h,_⟩ := list_tight j hj hsz ht hd
 exact ⟨rs,h⟩
end Go.Proofs.YtlmjeackfepllaaGreatDoor.Et
namespace Go.Proofs.YtlmjeackfepllaaGreatDoor.Et
open Go.ChangeShapes Go.WideShapes Go.ChangeAt Go.RowKit
theorem bytes32 : Tryz.prog.bytesOf 36 = 32 := by kernel_rfl
theorem list_bytes {H : Type} {enc : TypeId × Value → H} {W : World} {ao : Option Addr} {n cap : Nat} {d : DataW H} {p : List MemPlace} {ts : List TypeId} {ds : List (DataW H)} (j : Nat)
  (hj : DataW.Trod enc Tryz.prog W 0 (fun _ => true) true 28 (.slice ao n cap) d p)
  (hsz : (DataW.weightsEach Tryz.prog ts ds).all (· ≤ reachBytes) = true) (ht : ts[j]? = some 28) (hd : ds[j]? = some d) : n * 32 ≤ 140737488351232 := by
 obtain ⟨fuel,hf⟩ := hj
 rcases Go.Deep.open_slice Tryz.underlying28 hf with ⟨hcs,_⟩ | ⟨a,len,c,m,k,D,Pl,hcs,_,hl,hm,hmm,hx,hel⟩
 ·
  simp [Value.cells] at hcs
  obtain ⟨rfl,rfl,rfl⟩ := hcs
  omega
 ·
  simp [Value.cells] at hcs
  obtain ⟨rfl,rfl,rfl⟩ := hcs
  have hd' := congrArg Prod.fst hx
  simp only at hd'
  rw [hd'] at hd
  have hw := List.all_eq_true.1 hsz _ (DataW.weights_mem_each ht hd _ (by
   rw [DataW.weights,Tryz.underlying28]
   exact List.mem_cons_self))
  rw [decide_eq_true_eq,bytes32] at hw
  unfold reachBytes at hw
  simp only [List.length_map,List.length_range] at hw
  omega
theorem list_sized {H : Type} {enc : TypeId × Value → H} {W : World} {ao : Option Addr} {n cap : Nat} {d : DataW H} {p : List MemPlace} {ts : List TypeId} {ds : List (DataW H)} (j : Nat)
  (hj : DataW.Trod enc Tryz.prog W 0 (fun _ => true) true 28 (.slice ao n cap) d p)
  (hsz : (DataW.weightsEach Tryz.prog ts ds).all (· ≤ reachBytes) = true) (ht : ts[j]? = some 28) (hd : ds[j]? = some d) : ∃ rs,Ls W ao n cap rs ∧ n * 32 ≤ 140737488351232 := by
 obtain ⟨rs,h⟩ := list_in j hj hsz ht hd
 exact ⟨rs,h,list_bytes j hj hsz ht hd⟩
end Go.Proofs.YtlmjeackfepllaaGreatDoor.Et
namespace Go.Proofs.YtlmjeackfepllaaGreatDoor.Wa
open Go.ChangeShapes Go.WideShapes Go.ChangeAt Go.RowKit Mem
theorem cellsOf : Tryz.prog.cellsOf 48 = 10 := by kernel_rfl
def datum (H : Type) (r : T) (d_log d_picks : DataW H) : DataW H := .agg [.lit (.int .i64 r.kind),.lit (.int .i64 r.n),.agg [.lit (.int .i64 r.term),.lit (.int .i64 r.vote),.lit (.int .i64 r.base),.lit (.int .i64 r.bt),.lit (.int .i64 r.mem),.lit (.string (txt r.snap)),d_log],d_picks]
theorem open_cells {H : Type} {enc : TypeId × Value → H} {w : World} {base : Nat} {spare : Nat → Bool} {held : Bool} {fuel : Nat} {cs : List Value} {x : DataW H × List MemPlace}
  (h : DataW.trod enc Tryz.prog w base spare held fuel 48 cs = some x) : ∃ (r : T) (d_log : DataW H) (p_log : List MemPlace) (d_picks : DataW H) (p_picks : List MemPlace),cs = rv r ∧ x.1 = datum H r d_log d_picks ∧ DataW.Trod enc Tryz.prog w base spare held 28 (.slice r.log.ao r.log.n r.log.cap) d_log p_log ∧ DataW.Trod enc Tryz.prog w base spare held 46 (.slice r.picks.ao r.picks.n r.picks.cap) d_picks p_picks ∧ Fit r.kind ∧ Fit r.n ∧ Fit r.term ∧ Fit r.vote ∧ Fit r.base ∧ Fit r.bt ∧ Fit r.mem := by
 obtain ⟨xs,n,_,rfl,hl,hxl,hf⟩ := DataW.trod_struct Tryz.underlying48 h
 rw [cellsOf] at hl
 match cs,hl with
 | [v0,v1,v2,v3,v4,v5,v6,v7,v8,v9],_ =>
  match xs,hxl with
  | [y0,y1,y2,y3],_ =>
   have g0 : DataW.trod enc Tryz.prog w base spare held n 3 (List.take (Tryz.prog.cellsOf 3) (List.drop 0 [v0,v1,v2,v3,v4,v5,v6,v7,v8,v9])) = some y0 := hf 0 _ rfl
   rw [show Tryz.prog.cellsOf 3 = 1 by kernel_rfl] at g0
   simp only [List.drop,List.take] at g0
   have g1 : DataW.trod enc Tryz.prog w base spare held n 3 (List.take (Tryz.prog.cellsOf 3) (List.drop 1 [v0,v1,v2,v3,v4,v5,v6,v7,v8,v9])) = some y1 := hf 1 _ rfl
   rw [show Tryz.prog.cellsOf 3 = 1 by kernel_rfl] at g1
   simp only [List.drop,List.take] at g1
   have g2 : DataW.trod enc Tryz.prog w base spare held n 30 (List.take (Tryz.prog.cellsOf 30) (List.drop 2 [v0,v1,v2,v3,v4,v5,v6,v7,v8,v9])) = some y2 := hf 2 _ rfl
   rw [show Tryz.prog.cellsOf 30 = 7 by kernel_rfl] at g2
   simp only [List.drop,List.take] at g2
   have g3 : DataW.trod enc Tryz.prog w base spare held n 46 (List.take (Tryz.prog.cellsOf 46) (List.drop 9 [v0,v1,v2,v3,v4,v5,v6,v7,v8,v9])) = some y3 := hf 3 _ rfl
   rw [show Tryz.prog.cellsOf 46 = 1 by kernel_rfl] at g3
   simp only [List.drop,List.take] at g3
   obtain ⟨x0,e0,rfl,w0⟩ := DataW.trod_int Tryz.underlying3 g0
   obtain ⟨x1,e1,rfl,w1⟩ := DataW.trod_int Tryz.underlying3 g1
   obtain ⟨q2_zs,q2_k,_,rfl,_,q2_hl,q2_hf⟩ := DataW.trod_struct Tryz.underlying30 g2
   match q2_zs,q2_hl with
   | [q2_z0,q2_z1,q2_z2,q2_z3,q2_z4,q2_z5,q2_z6],_ =>
    have q2_g0 : DataW.trod enc Tryz.prog w base spare held q2_k 3 (List.take (Tryz.prog.cellsOf 3) (List.drop 0 [v2,v3,v4,v5,v6,v7,v8])) = some q2_z0 := q2_hf 0 _ rfl
    rw [show Tryz.prog.cellsOf 3 = 1 by kernel_rfl] at q2_g0
    simp only [List.drop,List.take] at q2_g0
    have q2_g1 : DataW.trod enc Tryz.prog w base spare held q2_k 3 (List.take (Tryz.prog.cellsOf 3) (List.drop 1 [v2,v3,v4,v5,v6,v7,v8])) = some q2_z1 := q2_hf 1 _ rfl
    rw [show Tryz.prog.cellsOf 3 = 1 by kernel_rfl] at q2_g1
    simp only [List.drop,List.take] at q2_g1
    have q2_g2 : DataW.trod enc Tryz.prog w base spare held q2_k 3 (List.take (Tryz.prog.cellsOf 3) (List.drop 2 [v2,v3,v4,v5,v6,v7,v8])) = some q2_z2 := q2_hf 2 _ rfl
    rw [show Tryz.prog.cellsOf 3 = 1 by kernel_rfl] at q2_g2
    simp only [List.drop,List.take] at q2_g2
    have q2_g3 : DataW.trod enc Tryz.prog w base spare held q2_k 3 (List.take (Tryz.prog.cellsOf 3) (List.drop 3 [v2,v3,v4,v5,v6,v7,v8])) = some q2_z3 := q2_hf 3 _ rfl
    rw [show Tryz.prog.cellsOf 3 = 1 by kernel_rfl] at q2_g3
    simp only [List.drop,List.take] at q2_g3
    have q2_g4 : DataW.trod enc Tryz.prog w base spare held q2_k 3 (List.take (Tryz.prog.cellsOf 3) (List.drop 4 [v2,v3,v4,v5,v6,v7,v8])) = some q2_z4 := q2_hf 4 _ rfl
    rw [show Tryz.prog.cellsOf 3 = 1 by kernel_rfl] at q2_g4
    simp only [List.drop,List.take] at q2_g4
    have q2_g5 : DataW.trod enc Tryz.prog w base spare held q2_k 9 (List.take (Tryz.prog.cellsOf 9) (List.drop 5 [v2,v3,v4,v5,v6,v7,v8])) = some q2_z5 := q2_hf 5 _ rfl
    rw [show Tryz.prog.cellsOf 9 = 1 by kernel_rfl] at q2_g5
    simp only [List.drop,List.take] at q2_g5
    have q2_g6 : DataW.trod enc Tryz.prog w base spare held q2_k 28 (List.take (Tryz.prog.cellsOf 28) (List.drop 6 [v2,v3,v4,v5,v6,v7,v8])) = some q2_z6 := q2_hf 6 _ rfl
    rw [show Tryz.prog.cellsOf 28 = 1 by kernel_rfl] at q2_g6
    simp only [List.drop,List.take] at q2_g6
    obtain ⟨x2,e2,rfl,w2⟩ := DataW.trod_int Tryz.underlying3 q2_g0
    obtain ⟨x3,e3,rfl,w3⟩ := DataW.trod_int Tryz.underlying3 q2_g1
    obtain ⟨x4,e4,rfl,w4⟩ := DataW.trod_int Tryz.underlying3 q2_g2
    obtain ⟨x5,e5,rfl,w5⟩ := DataW.trod_int Tryz.underlying3 q2_g3
    obtain ⟨x6,e6,rfl,w6⟩ := DataW.trod_int Tryz.underlying3 q2_g4
    obtain ⟨x7,e7,rfl,_⟩ := DataW.trod_string Tryz.underlying9 q2_g5
    obtain ⟨ao8,nn8,cap8,e8⟩ : ∃ ao nn cap,[v8] = [Value.slice ao nn cap] := by
     rcases Go.Deep.open_slice Tryz.underlying28 q2_g6 with ⟨hcs,_⟩ | ⟨a,len,c,_,_,_,_,hcs,_⟩
     · exact ⟨_,_,_,hcs⟩
     · exact ⟨_,_,_,hcs⟩
    obtain ⟨ao9,nn9,cap9,e9⟩ : ∃ ao nn cap,[v9] = [Value.slice ao nn cap] := by
     rcases Go.Deep.open_slice Tryz.underlying46 g3 with ⟨hcs,_⟩ | ⟨a,len,c,_,_,_,_,hcs,_⟩
     · exact ⟨_,_,_,hcs⟩
     · exact ⟨_,_,_,hcs⟩
    simp only [List.cons.injEq,and_true] at e0 e1 e2 e3 e4 e5 e6 e7 e8 e9
    subst e0 e1 e2 e3 e4 e5 e6 e7 e8 e9
    exact ⟨⟨x0,x1,x2,x3,x4,x5,x6,x7,⟨ao8,nn8,cap8⟩,⟨ao9,nn9,cap9⟩⟩,q2_z6.1,q2_z6.2,y3.1,y3.2,rfl,rfl,⟨q2_k,q2_g6⟩,⟨n,g3⟩,fit_in w0,fit_in w1,fit_in w2,fit_in w3,fit_in w4,fit_in w5,fit_in w6⟩
theorem weights_snap {H : Type} (r : T) (d_log d_picks : DataW H) : (txt r.snap).length ∈ (datum H r d_log d_picks).weights Tryz.prog 48 := by
 unfold datum
 simp [DataW.weights,DataW.weightsEach,Tryz.underlying48,Tryz.underlying30]
theorem weights_dlog {H : Type} (r : T) (d_log d_picks : DataW H) (k : Nat) (h : k ∈ d_log.weights Tryz.prog 28) : k ∈ (datum H r d_log d_picks).weights Tryz.prog 48 := by
 unfold datum
 simp [DataW.weights,DataW.weightsEach,Tryz.underlying48,Tryz.underlying30,h]
theorem weights_dpicks {H : Type} (r : T) (d_log d_picks : DataW H) (k : Nat) (h : k ∈ d_picks.weights Tryz.prog 46) : k ∈ (datum H r d_log d_picks).weights Tryz.prog 48 := by
 unfold datum
 simp [DataW.weights,DataW.weightsEach,Tryz.underlying48,Tryz.underlying30,h]
def Sub (W : World) (r : T) : Prop := (∃ es,Et.Ls W r.log.ao r.log.n r.log.cap es ∧ r.log.n * 32 ≤ 140737488351232) ∧ (∃ zs,Ints W r.picks.ao r.picks.n r.picks.cap zs)
theorem one_in {H : Type} {enc : TypeId × Value → H} {W : World} {b0 : Nat} {rr : Reach} {v : Value} {d : DataW H} {p : List MemPlace} {ts : List TypeId} {ds : List (DataW H)} (j : Nat)
  (hv : Value.okWide Tryz.prog W rr b0 48 v) (h : DataW.Trod enc Tryz.prog W 0 (fun _ => true) true 48 v d p)
  (hsz : (DataW.weightsEach Tryz.prog ts ds).all (· ≤ reachBytes) = true) (ht : ts[j]? = some 48) (hd : ds[j]? = some d) : ∃ r : T,v = val r ∧ Short r ∧ Sub W r := by
 obtain ⟨cs,rfl,hc⟩ := okWide_struct Tryz.underlying48 hv
 obtain ⟨fuel,hf⟩ := h
 obtain ⟨r,d_log,p_log,d_picks,p_picks,e,hx,l_log,l_picks,f_kind,f_n,f_term,f_vote,f_base,f_bt,f_mem⟩ := open_cells hf
 have hd' : d = datum H r d_log d_picks := hx
 subst hd'
 have hs_snap : r.snap.size ≤ 140737488355328 := by
  have hw := List.all_eq_true.1 hsz _ (DataW.weights_mem_each ht hd _ (weights_snap r d_log d_picks))
  rw [decide_eq_true_eq,txt_len] at hw
  unfold reachBytes at hw
  omega
 have hz_log : (DataW.weightsEach Tryz.prog [28] [d_log]).all (· ≤ reachBytes) = true := by
  refine List.all_eq_true.2 fun k hk => ?_
  refine List.all_eq_true.1 hsz k (DataW.weights_mem_each ht hd k (weights_dlog r d_log d_picks k ?_))
  simpa [DataW.weightsEach] using hk
 have hz_picks : (DataW.weightsEach Tryz.prog [46] [d_picks]).all (· ≤ reachBytes) = true := by
  refine List.all_eq_true.2 fun k hk => ?_
  refine List.all_eq_true.1 hsz k (DataW.weights_mem_each ht hd k (weights_dpicks r d_log d_picks k ?_))
  simpa [DataW.weightsEach] using hk
 refine ⟨r,?_,⟨f_kind,f_n,f_term,f_vote,f_base,f_bt,f_mem,hs_snap⟩,Et.list_sized 0 l_log hz_log rfl rfl,ints_in 0 l_picks hz_picks rfl rfl⟩
 have e' : cs.toList = rv r := e
 unfold val
 congr 1
 apply Array.toList_inj.1
 rw [e']
 rfl
theorem weights_all {H : Type} {P : Program} {e : TypeId} {d : DataW H} {n : Nat} (hn : n ∈ d.weights P e) : ∀ (l : List (DataW H)),d ∈ l → n ∈ DataW.weightsAll P e l
 | a :: l,h => by
  rw [DataW.weightsAll,List.mem_append]
  rcases List.mem_cons.1 h with rfl | h
  · exact .inl hn
  · exact .inr (weights_all hn l h)
def AtA (w : World) (a : Addr) (r : T) : Prop := ∀ p,p < 10 → w.cell? (a.add p) = (rv r)[p]?
theorem list_in {H : Type} {enc : TypeId × Value → H} {W : World} {ao : Option Addr} {n cap : Nat} {d : DataW H} {p : List MemPlace} {ts : List TypeId} {ds : List (DataW H)} (j : Nat)
  (hj : DataW.Trod enc Tryz.prog W 0 (fun _ => true) true 40 (.slice ao n cap) d p)
  (hsz : (DataW.weightsEach Tryz.prog ts ds).all (· ≤ reachBytes) = true) (ht : ts[j]? = some 40) (hd : ds[j]? = some d) : ∃ rs,Ls W ao n cap rs ∧ ∀ r ∈ rs,Sub W r := by
 haveI : Inhabited T := ⟨zero⟩
 obtain ⟨fuel,hf⟩ := hj
 rcases Go.Deep.open_slice Tryz.underlying40 hf with ⟨hcs,_⟩ | ⟨a,len,c,m,k,D,Pl,hcs,_,hl,hm,hmm,hx,hel⟩
 ·
  simp [Value.cells] at hcs
  obtain ⟨rfl,rfl,rfl⟩ := hcs
  exact ⟨[],ls_nil W,by simp⟩
 ·
  simp [Value.cells] at hcs
  obtain ⟨rfl,rfl,rfl⟩ := hcs
  simp only [if_true] at hmm
  subst hmm
  obtain ⟨R,hR⟩ := Go.Deep.choose_lt (α := T) (n := m) (p := fun i r => AtA W (a.add (i * 10)) r ∧ (∃ (d_log : DataW H) (p_log : List MemPlace) (d_picks : DataW H) (p_picks : List MemPlace),D i = datum H r d_log d_picks ∧ DataW.Trod enc Tryz.prog W 0 (fun _ => true) true 28 (.slice r.log.ao r.log.n r.log.cap) d_log p_log ∧ DataW.Trod enc Tryz.prog W 0 (fun _ => true) true 46 (.slice r.picks.ao r.picks.n r.picks.cap) d_picks p_picks) ∧ Fit r.kind ∧ Fit r.n ∧ Fit r.term ∧ Fit r.vote ∧ Fit r.base ∧ Fit r.bt ∧ Fit r.mem) (fun i hi => by
   obtain ⟨cs',h1,h2⟩ := hel i hi
   rw [cellsOf] at h1
   obtain ⟨_,_,hcell⟩ := World.cells?_some h1
   obtain ⟨r,d_log,p_log,d_picks,p_picks,e,hx',l_log,l_picks,f⟩ := open_cells h2
   subst e
   exact ⟨r,fun p hp => hcell p hp,⟨d_log,p_log,d_picks,p_picks,hx',l_log,l_picks⟩,f⟩)
  have hd' := congrArg Prod.fst hx
  simp only at hd'
  rw [hd'] at hd
  have hin : ∀ i,i < n → ∀ d_log d_picks,D i = datum H (R i) d_log d_picks → ∀ k,k ∈ (datum H (R i) d_log d_picks).weights Tryz.prog 48 → decide (k ≤ reachBytes) = true := by
   intro i hi d_log d_picks hDi k hk
   refine List.all_eq_true.1 hsz k (DataW.weights_mem_each ht hd k ?_)
   rw [DataW.weights,Tryz.underlying40]
   refine List.mem_cons_of_mem _ (List.mem_append.2 (.inl (weights_all hk _ ?_)))
   rw [← hDi]
   exact List.mem_map.2 ⟨i,List.mem_range.2 hi,rfl⟩
  have hall : ∀ r ∈ (List.range n).map R,Short r ∧ Sub W r := by
   intro r hr
   obtain ⟨i,hi,rfl⟩ := List.mem_map.1 hr
   rw [List.mem_range] at hi
   obtain ⟨_,⟨d_log,p_log,d_picks,p_picks,hDi,l_log,l_picks⟩,f_kind,f_n,f_term,f_vote,f_base,f_bt,f_mem⟩ := hR i (by omega)
   have hs_snap : (R i).snap.size ≤ 140737488355328 := by
    have hw := hin i hi d_log d_picks hDi _ (weights_snap (R i) d_log d_picks)
    rw [decide_eq_true_eq,txt_len] at hw
    unfold reachBytes at hw
    omega
   have hz_log : (DataW.weightsEach Tryz.prog [28] [d_log]).all (· ≤ reachBytes) = true := by
    refine List.all_eq_true.2 fun k hk => ?_
    refine hin i hi d_log d_picks hDi k (weights_dlog (R i) d_log d_picks k ?_)
    simpa [DataW.weightsEach] using hk
   have hz_picks : (DataW.weightsEach Tryz.prog [46] [d_picks]).all (· ≤ reachBytes) = true := by
    refine List.all_eq_true.2 fun k hk => ?_
    refine hin i hi d_log d_picks hDi k (weights_dpicks (R i) d_log d_picks k ?_)
    simpa [DataW.weightsEach] using hk
   exact ⟨⟨f_kind,f_n,f_term,f_vote,f_base,f_bt,f_mem,hs_snap⟩,Et.list_sized 0 l_log hz_log rfl rfl,ints_in 0 l_picks hz_picks rfl rfl⟩
  refine ⟨(List.range n).map R,⟨by simp,hl,hm,(fun h => by cases h),?_,fun r hr => (hall r hr).1⟩,fun r hr => (hall r hr).2⟩
  ·
   by_cases h0 : 0 < n
   ·
    obtain ⟨b,off,spot⟩ := a
    have h1 := (hR 0 (by omega)).1 0 (by omega)
    have hspot : spot = none := by
     have h2 : W.cell? ((Addr.mk b off spot).add 0) = some (.int .i64 (R 0).kind) := by
      rw [show (Addr.mk b off spot).add 0 = ((Addr.mk b off spot).add (0 * 10)).add 0 by simp [Addr.add]]
      exact h1
     simpa [Addr.add] using World.cell?_spot h2
    subst hspot
    refine .inr ⟨b,off,rfl,fun k hk => ?_⟩
    simp only [List.length_map,List.length_range] at hk
    have hcell : ∀ p,p < 10 → W.cell? ⟨b,off + k * 10 + p,none⟩ = (rv (R k))[p]? := by
     intro p hp
     rw [← (hR k (by omega)).1 p hp,Go.WideShapes.add_plain,Go.WideShapes.add_plain]
    simp only [List.getElem_map,List.getElem_range]
    exact ⟨hcell 0 (by omega),hcell 1 (by omega),hcell 2 (by omega),hcell 3 (by omega),hcell 4 (by omega),hcell 5 (by omega),hcell 6 (by omega),hcell 7 (by omega),hcell 8 (by omega),hcell 9 (by omega)⟩
   · exact .inl (by rw [show n = 0 by omega]; rfl)
end Go.Proofs.YtlmjeackfepllaaGreatDoor.Wa
namespace Go.Proofs.YtlmjeackfepllaaGreatDoor.Wl
open Go.RowKit
theorem lastTerm_with (h : H) (p : List Et.T) (e : Et.T) : lastTerm (h.with (p ++ [e])) = e.term := by
 unfold lastTerm H.with
 simp
theorem more_of (h : H) : ∀ (l p : List Et.T),rAll h.term (lastTerm (h.with p)) l = true → p.length + l.length ≤ 200 → h.base + ((p.length + l.length : Nat) : Int) ≤ 1099511627776 → more (h.with p) l = true
 | [],_,_,_,_ => rfl
 | e :: l,p,k,k1,k2 => by
  unfold rAll at k
  rw [Bool.and_eq_true] at k
  obtain ⟨ke,kl⟩ := k
  unfold rEntry at ke
  simp only [Bool.and_eq_true,Bool.or_eq_true,decide_eq_true_eq,beq_iff_eq] at ke
  obtain ⟨e1,e2,e3,e4,e5,e6,e7⟩ := ke
  rw [List.length_cons] at k1 k2
  unfold more
  rw [Bool.and_eq_true]
  constructor
  ·
   unfold fits within last top
   simp only [Bool.and_eq_true,Bool.or_eq_true,decide_eq_true_eq,beq_iff_eq]
   have hl : (h.with p).log.length = p.length := rfl
   have hb : (h.with p).base = h.base := rfl
   have ht : (h.with p).term = h.term := rfl
   rw [hl,hb,ht]
   refine ⟨by omega,by omega,⟨by omega,e3⟩,⟨e4,by omega⟩,by omega,?_⟩
   rcases e7 with z | z
   · exact .inl z
   ·
    refine .inr ?_
    have := txt_len e.data
    rw [← tl] at this
    rw [z] at this
    simpa using this.symm
  ·
   show more ((h.with p).with (p ++ [e])) l = true
   refine more_of h l (p ++ [e]) (by rw [lastTerm_with]; exact kl) (by simp; omega) ?_
   rw [List.length_append,List.length_singleton]
   omega
theorem right_of {h : H} (k : rRight h = true) : right h = true := by
 unfold rRight at k
 rw [Bool.and_eq_true] at k
 obtain ⟨kh,ka⟩ := k
 unfold rHead at kh
 simp only [Bool.and_eq_true,Bool.not_eq_true',decide_eq_false_iff_not,beq_iff_eq] at kh
 obtain ⟨k0,k1,k2,k3,k4,k5,k6,k7,k8,k9,k10,k11,k12,k13,k14⟩ := kh
 unfold right headed snapOk within top
 simp only [Bool.and_eq_true,decide_eq_true_eq,beq_iff_eq]
 refine ⟨⟨⟨by omega,by omega⟩,⟨by omega,by omega⟩,⟨by omega,by omega⟩,⟨by omega,by omega⟩,k8.symm,⟨by omega,by omega⟩⟩,⟨?_,by omega⟩,?_⟩
 ·
  rw [k11]
  have := txt_len h.snap
  rw [tl,Bool.eq_iff_iff,decide_eq_true_iff,beq_iff_eq,← List.length_eq_zero_iff,this]
 ·
  have e : lastTerm (h.with []) = h.bt := rfl
  exact more_of h h.log [] (by rw [e]; exact ka) (by simp; omega) (by simp; omega)
end Go.Proofs.YtlmjeackfepllaaGreatDoor.Wl
namespace Go.Proofs.YtlmjeackfepllaaGreatDoor.Wl
open Go.RowKit
open Mem Dk
structure Dn (R : Nat → Prop) (w0 w : World) (p n : Nat) (s : Sg) (d : D) : Prop where
 dsk : S R w0 w p d
 lt : ∀ b,R b → b < w.heap.size
 tells : Tells d.fs n s
 neat : Neat d.fs
 wf : Wf s
 off : d.off = false
 left : d.left = -1
 lens : ∀ m,(flOf d.fs m).length ≤ 500000
section
variable {R T : Nat → Prop} {w0 w u v : World} {g p n i b : Nat} {s : Sg} {d : D} {r : Hd.T} {l : List Et.T}
theorem Ws.dn (h : Ws R w0 w g p n s d) : Dn R w0 w p n s d := ⟨h.bo.dsk h.sub,h.lt,h.rest.tells,h.rest.neat,h.rest.wf,h.rest.off,h.left,h.rest.lens⟩
theorem Dn.later (h : Dn R w0 w p n s d) (k : Below w.heap.size w u) : Dn R w0 u p n s d := ⟨h.dsk.later k,fun b z => Nat.lt_of_lt_of_le (h.lt b z) k.size,h.tells,h.neat,h.wf,h.off,h.left,h.lens⟩
theorem Dn.reopen (h : Dn R w0 w p n s d) : Calls Tryz.prog 10 #[.pointer (some ⟨p,0,none⟩)] w fun e w' => ∃ g d',e = .returned (.tuple #[.pointer (some ⟨g,0,none⟩),.int .i64 0]) ∧ Ws (tg R w w') w0 w' g p n s d' ∧ UpdQ R w w' :=
 k_open h.dsk h.tells h.neat h.wf h.off h.left h.lens
theorem Dn.crash (h : Dn R w0 w p n s d) {ao : Option Addr} {m cap : Nat} {zs : List Int} (hI : Ints w0 ao m cap zs) :
  Calls Tryz.prog 24 #[.pointer (some ⟨p,0,none⟩),.slice ao m cap] w fun e w' => e = .returned (.tuple #[]) ∧ ∃ d',Dn (tg R w w') w0 w' p n s d' ∧ UpdQ R w w' := by
 refine (s_crash_old h.dsk hI).mono ?_
 rintro e w' ⟨rfl,hs,hu⟩
 have e : (crashD d zs).fs = d.fs := crash_neat h.neat zs
 have hb : ∀ b,tg R w w' b → w0.heap.size ≤ b := fun b z => z.1.elim (h.dsk.sub b) fun z => Nat.le_trans h.dsk.bel.size z
 exact ⟨rfl,crashD d zs,⟨S.wide hs (fun b z => ⟨.inl z,Nat.lt_of_lt_of_le (h.lt b z) hu.size⟩) hb,fun b z => z.2,by rw [e]; exact h.tells,by rw [e]; exact h.neat,h.wf,rfl,rfl,by rw [e]; exact h.lens⟩,hu⟩
structure Kn (R : Nat → Prop) (w0 w : World) (b : Nat) (r : Hd.T) (l : List Et.T) : Prop where
 hv : Hv R w b r
 hl : Hl R w r l
 nb : ∀ ad,r.log.ao = some ad → ad.block ≠ b
 ge : w0.heap.size ≤ b
 right : right (Hd.h r l) = true
 l40 : l.length ≤ 40
 z9 : r.snap.size ≤ 9000
theorem Kn.upd (h : Kn R w0 w b r l) (k : UpdQ R w u) : Kn (tg R w u) w0 u b r l := ⟨h.hv.upd k,h.hl.upd k,h.nb,h.ge,h.right,h.l40,h.z9⟩
theorem Kn.later (h : Kn R w0 w b r l) (k : Below w.heap.size w u) : Kn R w0 u b r l := ⟨h.hv.later k,h.hl.later k,h.nb,h.ge,h.right,h.l40,h.z9⟩
theorem smallL_le : ∀ (l : List Et.T) (n : Int),smallL n l = true → n ≤ 9000
 | [],n,h => by
  unfold smallL at h
  exact of_decide_eq_true h
 | e :: l,n,h => by
  unfold smallL at h
  by_cases c : n + (e.data.size : Int) > 9000
  ·
   rw [if_pos c] at h
   cases h
  · omega
theorem small_le {h : H} (k : small h = true) : h.log.length ≤ 40 ∧ h.snap.size ≤ 9000 := by
 unfold small at k
 by_cases c : (h.log.length : Int) > 40
 ·
  rw [if_pos c] at k
  cases k
 ·
  rw [if_neg c] at k
  have := smallL_le _ _ k
  omega
theorem hl_fresh {B : Nat} {x : Sl} (ho : Et.Own u B (sv x) l) (hs : ∀ e ∈ l,Et.Short e) : Et.Ls u x.ao x.n x.cap l ∧ ∀ ad,x.ao = some ad → B ≤ ad.block ∧ ad.block < u.heap.size := by
 obtain ⟨vo,vn,vc⟩ := x
 obtain ⟨ao,cap,e2,hl,-⟩ := Et.own_ls ho hs
 have e3 : (Value.slice vo vn vc) = .slice ao l.length cap := e2
 injection e3 with i1 i2 i3
 subst i1 i2 i3
 refine ⟨hl,fun ad e4 => ?_⟩
 have e5 : vo = some ad := e4
 have hob : (sv ⟨vo,l.length,vc⟩).ownBlock = some ad.block := by rw [e5]; rfl
 exact ⟨Et.own_ge ho _ hob,(World.ownsRow.lt ho _ hob).2⟩
theorem Kn.next (hw : Ws R w0 w g p n s d) (h : Kn R w0 w b r l) {e : Ending} (hE : NxE w r l e u) :
  ∃ r' l',e = .returned (Hd.val r') ∧ Below w.heap.size w u ∧ Hd.Block u b [r] ∧ ∀ v,(v = lay u b 0 r' ∨ v = (lay u b 0 r').drew) → Ws R w0 v g p n s d ∧ Kn R w0 v b r' l' := by
 obtain ⟨r',l',rfl,hb,ho⟩ := hE
 have hw1 := hw.later hb
 have h1 := h.later hb
 have hu := lay_upd u b 0 r'
 have hw2 := hw1.off hu fun x z => by rw [z]; exact ⟨h.ge,h.hv.out⟩
 have hblk : Hd.Block (lay u b 0 r') b [r'] := hd_lay h1.hv.blk r'
 refine ⟨r',l',rfl,hb,h1.hv.blk,?_⟩
 have hk : Kn R w0 (lay u b 0 r') b r' l' := by
  rcases ho with ⟨rfl,rfl⟩ | ⟨ho,hs,hr,hm⟩
  · exact ⟨⟨hblk,h.hv.out⟩,⟨ls_keep h1.hl.ls hu fun ad e z => h.nb ad e z,fun ad e => ⟨Nat.lt_of_lt_of_le (h1.hl.out ad e).1 hu.size,(h1.hl.out ad e).2⟩⟩,h.nb,h.ge,h.right,h.l40,h.z9⟩
  ·
   obtain ⟨z1,z2⟩ := small_le hm
   obtain ⟨hl,hge⟩ := hl_fresh ho hs
   have hbl := h.hv.lt
   have k1 : Et.Ls (lay u b 0 r') r'.log.ao r'.log.n r'.log.cap l' := ls_keep hl hu fun ad e z => by
    have h1 := (hge ad e).1
    have h2 : ad.block = b := z
    omega
   have k2 : Hl R (lay u b 0 r') r' l' := ⟨k1,fun ad e => ⟨Nat.lt_of_lt_of_le (hge ad e).2 hu.size,fun z => by
    have h1 := hw.lt _ z
    have h2 := (hge ad e).1
    omega⟩⟩
   have k3 : ∀ ad,r'.log.ao = some ad → ad.block ≠ b := fun ad e z => by
    have h1 := (hge ad e).1
    omega
   exact ⟨⟨hblk,h.hv.out⟩,k2,k3,h.ge,right_of hr,z1,z2⟩
 rintro v (rfl | rfl)
 · exact ⟨hw2,hk⟩
 · exact ⟨hw2.later (Below.refl _ _).drew,hk.later (Below.refl _ _).drew⟩
def Ki (w0 w : World) (g p b i : Nat) : Prop := ∃ (R : Nat → Prop) (n : Nat) (s : Sg) (d : D) (r : Hd.T) (l : List Et.T),Ws R w0 w g p n s d ∧ Kn R w0 w b r l ∧ s.h = (Hd.h r l).bare ∧ n ≤ i + 1
theorem Ki.more (h : Ki w0 w g p b i) : Ki w0 w g p b (i + 1) := by
 obtain ⟨R,n,s,d,r,l,h1,h2,h3,h4⟩ := h
 exact ⟨R,n,s,d,r,l,h1,h2,h3,by omega⟩
theorem Ki.bel (h : Ki w0 w g p b i) : Below w0.heap.size w0 w := by
 obtain ⟨R,n,s,d,r,l,h1,-⟩ := h
 exact h1.bo.bel
end
end Go.Proofs.YtlmjeackfepllaaGreatDoor.Wl
namespace Go.Proofs.YtlmjeackfepllaaGreatDoor.Wl
open Go.RowKit
open Mem Dk
def w1n : ByteArray := ⟨#[119,97,108,46,49]⟩
def w2n : ByteArray := ⟨#[119,97,108,46,50]⟩
theorem w1n_eq : wname 1 = w1n := by
 unfold wname
 rw [dec_form (by omega)]
 rfl
theorem w2n_eq : wname 2 = w2n := by
 unfold wname
 rw [dec_form (by omega)]
 rfl
def rr1 : Hd.T := ⟨1,0,0,0,7,⟨#[]⟩,⟨none,0,0⟩⟩
def rr2 (b : Nat) : Hd.T := ⟨1,0,0,0,7,⟨#[]⟩,⟨some ⟨b,0,none⟩,1,1⟩⟩
def rr3 : Hd.T := ⟨1,0,1,1,7,⟨#[115]⟩,⟨none,0,0⟩⟩
def rr4 : Hd.T := ⟨0,9,0,0,7,⟨#[]⟩,⟨none,0,0⟩⟩
def ll2 : List Et.T := [⟨1,0,⟨#[120]⟩⟩]
theorem rr1_ok : right (Hd.h rr1 []) = true := by decide
theorem rr2_ok (b : Nat) : right (Hd.h (rr2 b) ll2) = true := by
 show right ⟨1,0,0,0,7,⟨#[]⟩,ll2⟩ = true
 decide
theorem rr3_ok : right (Hd.h rr3 []) = true := by decide
theorem rr4_no : right (Hd.h rr4 []) = false := by decide
theorem rr1_small : (frames (pays (whole (Hd.h rr1 [])))).length ≤ 8192 := by
 obtain ⟨a,b,c⟩ := right_ok rr1_ok
 have h1 := (fine_whole b a).2
 have h2 := frames_size _ fun p hp => (h1 p hp).2
 have h3 := whole_len (Hd.h rr1 [])
 have h4 : (Hd.h rr1 []).log.length = 0 := rfl
 omega
theorem ll2_new (w : World) : Et.Ls (w.alloc (.cells #[.int .i64 1,.int .i64 0,.string ⟨#[120]⟩] 36)) (some ⟨w.heap.size,0,none⟩) 1 1 ll2 := by
 refine ⟨rfl,Nat.le_refl _,by omega,fun z => (by cases z),.inr ⟨w.heap.size,0,rfl,fun k hk => ?_⟩,fun r hr => ?_⟩
 ·
  have : k = 0 := by
   have : k < 1 := hk
   omega
  subst this
  exact ⟨by simp [go_sem,ll2],by simp [go_sem,ll2],by simp [go_sem,ll2]⟩
 ·
  rw [List.mem_singleton.1 hr]
  exact ⟨⟨by decide,by decide⟩,⟨by decide,by decide⟩,by decide⟩
theorem bare_self {h : H} (k : h.snap = .empty) : h.bare = h := by
 obtain ⟨a,b,c,d,e,f,g⟩ := h
 dsimp only at k
 subst k
 rfl
theorem k_refuse {R : Nat → Prop} {w0 w : World} {g p n : Nat} {s : Sg} {d : D} {r : Hd.T} {l : List Et.T} (h : Ws R w0 w g p n s d) (hn : n + 1 < 100) (hl : Et.Ls w r.log.ao r.log.n r.log.cap l) (hz : r.snap.size ≤ 140737488355328) (hg : right (Hd.h r l) = false) :
  Calls Tryz.prog 11 #[.pointer (some ⟨g,0,none⟩),Hd.val r] w fun e w' => e = .returned (.int .i64 1) ∧ UpdQ R w w' := by
 refine (wl_save h.bo hn h.few r l hl hz).mono ?_
 rintro x w' ⟨rfl,hb,hu⟩
 refine ⟨?_,hu⟩
 unfold saveS
 rw [if_pos hg]
theorem below_upd {R : Nat → Prop} {w0 w u : World} (h : Below w0.heap.size w0 w) (k : UpdQ R w u) (hs : ∀ b,R b → w0.heap.size ≤ b) : Below w0.heap.size w0 u := k.below w0 h hs
set_option maxHeartbeats 8000000 in
theorem walRuns_any (w : World) : Calls Tryz.prog 3 #[] w fun e w' => e = .returned (.bool true) ∧ Below w.heap.size w w' := by
 go_enter Tryz.func3,Tryz.ntmps3
 go_wp2_with (go_at_call 9; refine (s_new w).mono ?_; rintro e W0 ⟨p,rfl,h0⟩; have C0 := Lib.hid (k_new h0.tight); clear h0)
 refine C0.out.mono ?_
 rintro e W1 ⟨g,rfl,h1,-⟩
 obtain ⟨R1,h1⟩ : ∃ R,Wn R w W1 g p := ⟨_,h1⟩
 have H1 := Lib.hid h1
 have HG1 : Hid (w.heap.size ≤ W1.heap.size) := Lib.hid h1.bo.bel.size
 clear C0
 go_wp2_with fail
 obtain ⟨W2,hW2,hb2,hc2⟩ := Hd.boxed1 W1 rr1
 have hv2 : Hv R1 W2 W1.heap.size rr1 := hW2 ▸ Hv.new W1 rr1 h1.lt
 unfold rr1 at hW2
 dsimp only at hW2
 rw [hW2]
 have h2 := h1.later hb2
 have C2 := Lib.hid (k_first h2 (Hl.nil W2 rfl) rr1_ok)
 have HV2 := Lib.hid hv2
 clear h1 h2 hb2 hc2 hv2 H1 hW2
 refine C2.out.mono ?_
 rintro e W3 ⟨rfl,d3,h3,f3,q3⟩
 obtain ⟨R3,h3,v3⟩ : ∃ R,Ws R w W3 g p 1 ⟨(Hd.h rr1 []).bare,true,true⟩ d3 ∧ Hv R W3 W1.heap.size rr1 := ⟨_,h3,HV2.out.upd q3⟩
 have hn3 : anewB ⟨(Hd.h rr1 []).bare,true,true⟩ d3 1 (Hd.h (rr2 0) ll2) = false := by
  have h8 := rr1_small
  have e8 : flen d3 1 = (frames (pays (whole (Hd.h rr1 [])))).length := congrArg List.length f3
  unfold anewB
  rw [decide_eq_false (show ¬ 8192 < flen d3 1 by omega)]
  decide
 have HN3 := Lib.hid hn3
 have C3 := Lib.hid (k_names h3)
 rw [w1n_eq] at C3
 unfold w1n at C3
 have HV3 := Lib.hid v3
 clear h3 v3 q3 f3 hn3 C2 HV2
 go_wp2_with fail
 refine C3.out.mono ?_
 rintro e W4 ⟨ao4,cap4,rfl,h4,b4,c4⟩
 have C4 := Lib.hid c4
 have H4 := Lib.hid h4
 have HV4 := Lib.hid (HV3.out.later b4)
 clear c4 h4 b4 C3
 go_wp2_with fail
 refine C4.out.mono ?_
 rintro e W5 ⟨rfl,b5⟩
 have H5 := Lib.hid (H4.out.later b5)
 have v5 := HV4.out.later b5
 have HV5 := Lib.hid v5
 clear b5 C4 H4 HV4
 obtain ⟨W6,hW6⟩ : ∃ W6,W5.alloc (.cells #[.int .i64 1,.int .i64 0,.string ⟨#[120]⟩] 36) = W6 := ⟨_,rfl⟩
 have hb6 : Below W5.heap.size W5 W6 := hW6 ▸ (Below.refl _ _).alloc (Nat.le_refl _) _
 have hl6 : Et.Ls W6 (some ⟨W5.heap.size,0,none⟩) 1 1 ll2 := hW6 ▸ ll2_new W5
 have v6 := v5.later hb6
 obtain ⟨W7,hW7⟩ : ∃ W7,W6.setCell ⟨W1.heap.size,6,none⟩ (.slice (some ⟨W5.heap.size,0,none⟩) 1 1) = W7 := ⟨_,rfl⟩
 have hu7 : UpdQ (fun b => b = W1.heap.size) W6 W7 := hW7 ▸ upd_set W6 W1.heap.size 6 _
 have v7 : Hv R3 W7 W1.heap.size (rr2 W5.heap.size) := ⟨hW7 ▸ Hd.Block.log v6.blk ⟨some ⟨W5.heap.size,0,none⟩,1,1⟩,v6.out⟩
 obtain ⟨a0,a1,a2,a3,a4,a5,a6⟩ := v6.blk.cells
 unfold rr1 at a0 a1 a2 a3 a4 a5 a6
 dsimp only at a0 a1 a2 a3 a4 a5 a6
 have fz := v6.frozen
 have HT7 := Lib.hid (And.intro hb6 (And.intro hl6 (And.intro hu7 v7)))
 have hlt7 := v6.lt
 obtain ⟨d0,d1,d2,d3',d4,d5,d6⟩ := v7.blk.cells
 unfold rr2 at d0 d1 d2 d3' d4 d5 d6
 dsimp only at d0 d1 d2 d3' d4 d5 d6
 have hnb : ¬ R3 W5.heap.size := fun z => Nat.lt_irrefl _ (H5.out.lt _ z)
 have h7 : Ws R3 w W7 g p 1 ⟨(Hd.h rr1 []).bare,true,true⟩ d3 := (H5.out.later hb6).off hu7 fun b z => by rw [z]; exact ⟨HG1.out,v6.out⟩
 have l7 : Hl R3 W7 (rr2 W5.heap.size) ll2 := ⟨ls_keep hl6 hu7 fun ad e z => by
  cases e
  have := v5.lt
  have z' : W5.heap.size = W1.heap.size := z
  omega,fun ad e => by
  cases e
  exact ⟨(by have := hu7.size; have : W6.heap.size = W5.heap.size + 1 := (by rw [← hW6]; simp); show W5.heap.size < W7.heap.size; omega),hnb⟩⟩
 have C7 := Lib.hid (k_save h7 (by omega) l7 (rr2_ok _))
 have HL7 := Lib.hid l7
 have HV7 := Lib.hid v7
 unfold Hd.val rr2 at C7
 dsimp only at C7
 clear hb6 hl6 hu7 v7 v6 v5 h7 l7 hnb
 go_wp2_with fail
 refine C7.out.mono ?_
 rintro e W8 ⟨rfl,n8,s8,d8,h8,e8,-,-,n8',-,q8⟩
 obtain rfl : n8 = 1 := n8' HN3.out
 obtain ⟨R8,h8,v8,l8⟩ : ∃ R,Ws R w W8 g p 1 s8 d8 ∧ Hv R W8 W1.heap.size (rr2 W5.heap.size) ∧ Hl R W8 (rr2 W5.heap.size) ll2 := ⟨_,h8,HV7.out.upd q8,HL7.out.upd q8⟩
 have C8 := Lib.hid h8.reopen
 have HV8 := Lib.hid (And.intro v8 l8)
 have HE8 := Lib.hid e8
 clear h8 v8 l8 q8 e8 C7 HV7 HL7 n8' HN3 hW6 hW7 a0 a1 a2 a3 a4 a5 a6 d0 d1 d2 d3' d4 d5 d6 fz hlt7 HT7 H5 HV5
 go_wp2_with fail
 refine C8.out.mono ?_
 rintro e W9 ⟨g9,d9,rfl,h9,q9⟩
 obtain ⟨R9,h9,v9,l9⟩ : ∃ R,Ws R w W9 g9 p 1 s8 d9 ∧ Hv R W9 W1.heap.size (rr2 W5.heap.size) ∧ Hl R W9 (rr2 W5.heap.size) ll2 := ⟨_,h9,HV8.out.1.upd q9,HV8.out.2.upd q9⟩
 have H9 := Lib.hid (And.intro h9 (And.intro v9 l9))
 have CH : Hid (∀ u,Below W9.heap.size W9 u → Calls Tryz.prog 15 #[.pointer (some ⟨g9,0,none⟩)] u fun e w' => ∃ v,e = .returned (Hd.val (row s8.h v)) ∧ Hl R9 w' (row s8.h v) s8.h.log ∧ Below W9.heap.size W9 w') := Lib.hid fun u k => (k_hard (h9.later k)).mono fun e w' z => by
  obtain ⟨v,z1,z2,z3⟩ := z
  exact ⟨v,z1,z2,bchain k z3⟩
 have CS : Hid (∀ u v,Below W9.heap.size W9 u → Hl R9 u (row s8.h v) s8.h.log → Calls Tryz.prog 14 #[Hd.val (row s8.h v),Hd.val (rr2 W5.heap.size)] u fun e w' => e = .returned (.bool true) ∧ Below W9.heap.size W9 w') := Lib.hid fun u v k hl => (rf_same (row s8.h v) (rr2 W5.heap.size) s8.h.log ll2 u hl.ls (l9.later k).ls).mono fun e w' z => by
  obtain ⟨z1,z2⟩ := z
  have e9 : sameA (Hd.h (row s8.h v) s8.h.log) (Hd.h (rr2 W5.heap.size) ll2) = true := sameA_iff.2 (by rw [h_row,HE8.out]; exact bare_self rfl)
  rw [e9] at z1
  exact ⟨z1,bchain k z2⟩
 obtain ⟨d0,d1,d2,d3',d4,d5,d6⟩ := v9.blk.cells
 unfold rr2 at d0 d1 d2 d3' d4 d5 d6
 unfold Hd.val rr2 at CS
 dsimp only at d0 d1 d2 d3' d4 d5 d6 CS
 have lz : ∀ y,Below W9.heap.size W9 y → y.cell? ⟨W1.heap.size,0,none⟩ = some (.int .i64 1) ∧ y.cell? ⟨W1.heap.size,1,none⟩ = some (.int .i64 0) ∧ y.cell? ⟨W1.heap.size,2,none⟩ = some (.int .i64 0) ∧ y.cell? ⟨W1.heap.size,3,none⟩ = some (.int .i64 0) ∧ y.cell? ⟨W1.heap.size,4,none⟩ = some (.int .i64 7) ∧ y.cell? ⟨W1.heap.size,5,none⟩ = some (.string ⟨#[]⟩) ∧ y.cell? ⟨W1.heap.size,6,none⟩ = some (.slice (some ⟨W5.heap.size,0,none⟩) 1 1) := fun y k => ⟨((bcell k).1 _ _ (cell_lt d0)).trans d0,((bcell k).1 _ _ (cell_lt d1)).trans d1,((bcell k).1 _ _ (cell_lt d2)).trans d2,((bcell k).1 _ _ (cell_lt d3')).trans d3',((bcell k).1 _ _ (cell_lt d4)).trans d4,((bcell k).1 _ _ (cell_lt d5)).trans d5,((bcell k).1 _ _ (cell_lt d6)).trans d6⟩
 clear C8 HV8 h9 v9 l9 q9
 go_wp2_with fail
 go_region_held3 (fun y => y.cell? ⟨W1.heap.size,0,none⟩ = some (.int .i64 1) ∧ y.cell? ⟨W1.heap.size,1,none⟩ = some (.int .i64 0) ∧ y.cell? ⟨W1.heap.size,2,none⟩ = some (.int .i64 0) ∧ y.cell? ⟨W1.heap.size,3,none⟩ = some (.int .i64 0) ∧ y.cell? ⟨W1.heap.size,4,none⟩ = some (.int .i64 7) ∧ y.cell? ⟨W1.heap.size,5,none⟩ = some (.string ⟨#[]⟩) ∧ y.cell? ⟨W1.heap.size,6,none⟩ = some (.slice (some ⟨W5.heap.size,0,none⟩) 1 1)) (first | with_reducible assumption | (apply lz; repeat (first | with_reducible assumption | with_reducible apply Below.drew | with_reducible exact Below.refl _ _)) | fail) (first | (go_at_call 15; refine (CH.out _ (by first | exact Below.refl _ _ | exact (Below.refl _ _).drew)).mono ?_; rintro e u1 ⟨⟨vo,vn,vc⟩,rfl,l1,b1⟩; have t1 := lz _ b1; have CS1 := Lib.hid (CS.out u1 ⟨vo,vn,vc⟩ b1 l1); clear l1 CH) | (go_at_call 14; refine CS1.out.mono ?_; rintro e u2 ⟨rfl,b2⟩; have t2 := lz _ b2; have HB2 := Lib.hid b2; clear CS1) | fail)
 all_goals
  have hH := H9.out.1.later HB2.out
  have hanew : anewB s8 d9 1 (Hd.h rr3 []) = true := by
   unfold anewB basedB
   rw [HE8.out]
   simp [Hd.h,rr3,H.bare]
  have hsame : sameH s8.h (Hd.h rr3 []) = false := by
   unfold sameH basedB
   rw [HE8.out]
   simp [Hd.h,rr3,H.bare]
  have C3b := Lib.hid (k_save hH (by omega) (Hl.nil u2 rfl) rr3_ok)
  have HX3 := Lib.hid (And.intro hanew hsame)
  unfold Hd.val rr3 at C3b
  dsimp only at C3b
  clear hH hanew hsame CS lz d0 d1 d2 d3' d4 d5 d6 t1 t2 b1 b2
  go_wp2_with fail
  refine C3b.out.mono ?_
  rintro e Wa ⟨rfl,na,sa,da,ha,-,-,-,-,na',qa⟩
  obtain rfl : na = 2 := na' HX3.out.2 HX3.out.1
  obtain ⟨Ra,ha⟩ : ∃ R,Ws R w Wa g9 p 2 sa da := ⟨_,ha⟩
  have HA := Lib.hid ha
  have CN := Lib.hid (k_names ha)
  rw [w2n_eq] at CN
  unfold w2n at CN
  clear ha qa C3b na' HX3 H9
  go_wp2_with (first | (go_at_call 10; refine (wl_open_nil _).mono ?_; rintro e u ⟨rfl,hu⟩; rw [hu]; clear hu u) | fail)
  refine CN.out.mono ?_
  rintro e Wb ⟨aob,capb,rfl,hb,bb,cb⟩
  have CB := Lib.hid cb
  have HBb := Lib.hid hb
  clear cb hb bb CN
  go_wp2_with fail
  refine CB.out.mono ?_
  rintro e Wc ⟨rfl,bc⟩
  have hc := HBb.out.later bc
  have CC := Lib.hid (k_refuse hc (by omega) (Et.ls_nil Wc) (by decide) rr4_no)
  unfold Hd.val rr4 at CC
  dsimp only at CC
  have HC := Lib.hid hc
  clear hc bc CB HBb
  go_wp2_with fail
  refine CC.out.mono ?_
  rintro e Wd ⟨rfl,qd⟩
  have HD := Lib.hid (below_upd HC.out.bo.bel qd HC.out.sub)
  clear qd CC
  go_wp2_with fail
  go_ret
  exact ⟨rfl,HD.out⟩
end Go.Proofs.YtlmjeackfepllaaGreatDoor.Wl
namespace Go.Proofs.YtlmjeackfepllaaGreatDoor
open Go.RowKit
theorem walRuns_walk (w : World) : Calls Tryz.prog 3 #[] w fun e w' => e = .returned (.bool true) ∧ Below w.heap.size w w' := Wl.walRuns_any w
end Go.Proofs.YtlmjeackfepllaaGreatDoor
