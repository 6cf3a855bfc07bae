import Derived.Lib.QuietBelow
import Derived.Test.YtlmjeackfepllaaGreatDoorShelf
import Derived.Sort.OwnSortedInts
import Derived.Test.YtlmjeackfepllaaGreatDoorZWk1
import Derived.Test.YtlmjeackfepllaaGreatDoorZWk2
import Derived.Test.YtlmjeackfepllaaGreatDoorZWk3
import Derived.Test.YtlmjeackfepllaaGreatDoorZWk5
import Derived.Test.YtlmjeackfepllaaGreatDoorZWk7
namespace Go.Proofs.YtlmjeackfepllaaGreatDoor.Et
open Go.RowKit
open Mem
open Go.Sort (grow)
def eqB (a b : T) : Bool := decide (a.term = b.term ∧ a.mem = b.mem ∧ a.data = b.data)
theorem eqB_iff (a b : T) : eqB a b = true ↔ a = b := by
 unfold eqB
 rw [decide_eq_true_iff]
 cases a
 cases b
 simp
def sameB : List T → List T → Bool
 | [],[] => true
 | a :: l,b :: m => eqB a b && sameB l m
 | _,_ => false
theorem sameB_iff : ∀ l m : List T,sameB l m = true ↔ l = m
 | [],[] => by simp [sameB]
 | [],_ :: _ => by simp [sameB]
 | _ :: _,[] => by simp [sameB]
 | a :: l,b :: m => by
  rw [sameB,Bool.and_eq_true,eqB_iff,sameB_iff l m,List.cons.injEq]
theorem sameB_self (l : List T) : sameB l l = true := (sameB_iff l l).2 rfl
theorem sameB_len {l m : List T} (h : l.length ≠ m.length) : sameB l m = false := by
 rw [Bool.eq_false_iff]
 intro k
 exact h (congrArg List.length ((sameB_iff l m).1 k))
theorem same_at (l m : List T) (k : Nat) (h : k < l.length) (h' : k < m.length) : sameB (l.drop k) (m.drop k) = (eqB l[k] m[k] && sameB (l.drop (k + 1)) (m.drop (k + 1))) := by
 rw [List.drop_eq_getElem_cons h,List.drop_eq_getElem_cons h',sameB]
set_option maxHeartbeats 4000000 in
theorem same_any (xs ys : List T) (ao bo : Option Addr) (n m ca cb : Nat) (w0 w : World) (hw : Below w0.heap.size w0 w) (hA : Ls w ao n ca xs) (hB : Ls w bo m cb ys) :
  Calls Tryz.prog 76 #[.slice ao n ca,.slice bo m cb] w fun e w' => e = .returned (.bool (sameB xs ys)) ∧ Below w0.heap.size w0 w' := by
 have HW := Lib.hid hw
 have HA := Lib.hid hA
 have HB := Lib.hid hB
 have HN := Lib.hid hA.len
 have HM := Lib.hid hB.len
 have hca := hA.reach
 have hfa := hA.fits
 have hcb := hB.reach
 have hfb := hB.fits
 clear hw hA hB
 by_cases hnm : n = m
 ·
  subst hnm
  have hne : ((n : Int) != (n : Int)) = false := bne_self_eq_false _
  go_enter Tryz.func76,Tryz.ntmps76
  go_wp2
  go_loopw [5] (fun i wr => ∃ k : Nat,k ≤ n ∧ i = .int .i64 k ∧ Hid (sameB (xs.drop k) (ys.drop k) = sameB xs ys) ∧ Hid (Below w.heap.size w wr)) (fun i _ => n - (intOf i).toNat)
  case atStart => exact ⟨0,Nat.zero_le _,rfl,Lib.hid rfl,Lib.hid (Below.refl _ _)⟩
  case round =>
   obtain ⟨k,hk,rfl,HK,HBz⟩ := hrel
   by_cases hlt : k < n
   ·
    obtain ⟨a,oa,rfl⟩ := HA.out.at (by omega)
    obtain ⟨b,ob,rfl⟩ := HB.out.at (by omega)
    have hkr : k < xs.length := HN.out ▸ hlt
    have hks : k < ys.length := HM.out ▸ hlt
    have HSt := Lib.hid (same_at xs ys k hkr hks)
    obtain ⟨r,hr⟩ : ∃ r,xs[k] = r := ⟨_,rfl⟩
    obtain ⟨s,hs⟩ : ∃ s,ys[k] = s := ⟨_,rfl⟩
    have h1 := (HA.out.row k hkr).below HBz.out
    have h2 := (HB.out.row k hks).below HBz.out
    rw [hr] at h1 HSt
    rw [hs] at h2 HSt
    clear hr hs
    obtain ⟨g0,g1,g2⟩ := h1
    obtain ⟨f0,f1,f2⟩ := h2
    have g0' := cell_regrown g0
    have g1' := cell_regrown g1
    have g2' := cell_regrown g2
    have f0' := cell_regrown f0
    have f1' := cell_regrown f1
    have f2' := cell_regrown f2
    clear g0 g1 g2 f0 f1 f2
    by_cases e0 : r.term = s.term
    ·
     have q0 : (r.term == s.term) = true := beq_iff_eq.2 e0
     by_cases e1 : r.mem = s.mem
     ·
      have q1 : (r.mem == s.mem) = true := beq_iff_eq.2 e1
      by_cases e2 : r.data = s.data
      ·
       have q2 : (r.data.toList == s.data.toList) = true := beq_iff_eq.2 (by rw [e2])
       have HE : Hid (eqB r s = true) := Lib.hid (decide_eq_true ⟨e0,e1,e2⟩)
       clear e0 e1 e2
       go_wp2
       refine wp_region_quiet_below (by kernel_rfl) (by kernel_rfl) ?_
       repeat (first | go_big_quiet_step (fail) | quiet_step (fail))
       refine wpQuiet_nil ?_
       intro _ hw'
       obtain ⟨⟨dq,osq⟩,hw''⟩ := hw'
       subst hw''
       have HBv := Lib.hid (bchain HBz.out (below_regrown wr dq osq))
       go_wp2
       go_roundw
       case rel => exact ⟨k + 1,by omega,by go_num,Lib.hid (by rw [← HK.out,HSt.out,HE.out,Bool.true_and]),HBv⟩
       case measure => simp [intOf]; omega
      ·
       have q2 : (r.data.toList == s.data.toList) = false := beq_eq_false_iff_ne.2 fun h => e2 (txt_ext (by rw [← tl,← tl]; exact h))
       have HE : Hid (eqB r s = false) := Lib.hid (decide_eq_false fun h => e2 h.2.2)
       clear e0 e1 e2
       go_wp2
       refine wp_region_quiet_below (by kernel_rfl) (by kernel_rfl) ?_
       repeat (first | go_big_quiet_step (fail) | quiet_step (fail))
       refine wpQuiet_nil ?_
       intro _ hw'
       obtain ⟨⟨dq,osq⟩,hw''⟩ := hw'
       subst hw''
       have HBv := Lib.hid (bchain HBz.out (below_regrown wr dq osq))
       go_wp2
       go_ret
       exact ⟨ret_bool (by rw [← HK.out,HSt.out,HE.out,Bool.false_and]),bchain HW.out HBv.out⟩
     ·
      have q1 : (r.mem == s.mem) = false := beq_eq_false_iff_ne.2 e1
      have HE : Hid (eqB r s = false) := Lib.hid (decide_eq_false fun h => e1 h.2.1)
      clear e0 e1
      go_wp2
      refine wp_region_quiet_below (by kernel_rfl) (by kernel_rfl) ?_
      repeat (first | go_big_quiet_step (fail) | quiet_step (fail))
      refine wpQuiet_nil ?_
      intro _ hw'
      obtain ⟨⟨dq,osq⟩,hw''⟩ := hw'
      subst hw''
      have HBv := Lib.hid (bchain HBz.out (below_regrown wr dq osq))
      go_wp2
      go_ret
      exact ⟨ret_bool (by rw [← HK.out,HSt.out,HE.out,Bool.false_and]),bchain HW.out HBv.out⟩
    ·
     have q0 : (r.term == s.term) = false := beq_eq_false_iff_ne.2 e0
     have HE : Hid (eqB r s = false) := Lib.hid (decide_eq_false fun h => e0 h.1)
     clear e0
     go_wp2
     refine wp_region_quiet_below (by kernel_rfl) (by kernel_rfl) ?_
     repeat (first | go_big_quiet_step (fail) | quiet_step (fail))
     refine wpQuiet_nil ?_
     intro _ hw'
     obtain ⟨⟨dq,osq⟩,hw''⟩ := hw'
     subst hw''
     have HBv := Lib.hid (bchain HBz.out (below_regrown wr dq osq))
     go_wp2
     go_ret
     exact ⟨ret_bool (by rw [← HK.out,HSt.out,HE.out,Bool.false_and]),bchain HW.out HBv.out⟩
   ·
    obtain rfl : k = n := by omega
    go_wp2
    go_ret
    refine ⟨ret_bool ?_,HW.out.trans (HBz.out.mono HW.out.size)⟩
    rw [← HK.out,List.drop_eq_nil_of_le (Nat.le_of_eq HN.out.symm),List.drop_eq_nil_of_le (Nat.le_of_eq HM.out.symm)]
    rfl
 ·
  have HE := Lib.hid (sameB_len (l := xs) (m := ys) (by rw [← HN.out,← HM.out]; exact hnm))
  have hne : ((n : Int) != (m : Int)) = true := bne_iff_ne.2 (by omega)
  go_enter Tryz.func76,Tryz.ntmps76
  go_wp2
  go_ret
  exact ⟨ret_bool HE.out.symm,HW.out⟩
theorem same_rows (xs : List T) (ao bo : Option Addr) (n ca cb : Nat) (w0 w : World) (hw : Below w0.heap.size w0 w) (hA : Ls w ao n ca xs) (hB : Ls w bo n cb xs) :
  Calls Tryz.prog 76 #[.slice ao n ca,.slice bo n cb] w fun e w' => e = .returned (.bool true) ∧ Below w0.heap.size w0 w' := by
 have h := same_any xs xs ao bo n n ca cb w0 w hw hA hB
 rw [sameB_self] at h
 exact h
end Go.Proofs.YtlmjeackfepllaaGreatDoor.Et
set_option linter.unusedVariables false
namespace Go.Proofs.YtlmjeackfepllaaGreatDoor.Et
open Go.RowKit
open Mem
open Go.Sort (grow)
set_option maxHeartbeats 4000000 in
theorem equal_any (xs ys : List T) (ao bo : Option Addr) (n m ca cb : Nat) (w0 w : World) (hw : Below w0.heap.size w0 w) (hA : Ls w ao n ca xs) (hB : Ls w bo m cb ys) :
  Calls Tryz.prog 93 #[.slice ao n ca,.slice bo m cb] w fun e w' => e = .returned (.bool (sameB xs ys)) ∧ Below w0.heap.size w0 w' := by
 have HW := Lib.hid hw
 have HA := Lib.hid hA
 have HB := Lib.hid hB
 have HN := Lib.hid hA.len
 have HM := Lib.hid hB.len
 have hca := hA.reach
 have hfa := hA.fits
 have hcb := hB.reach
 have hfb := hB.fits
 clear hw hA hB
 by_cases hnm : n = m
 ·
  subst hnm
  have hne : ((n : Int) != (n : Int)) = false := bne_self_eq_false _
  go_enter Tryz.func93,Tryz.ntmps93
  go_wp2
  go_loopw [5,13] (fun _ i wr => ∃ k : Nat,k ≤ n ∧ i = .int .i64 k ∧ Hid (sameB (xs.drop k) (ys.drop k) = sameB xs ys) ∧ Hid (Below w.heap.size w wr)) (fun _ i _ => n - (intOf i).toNat)
  case atStart => exact ⟨0,Nat.zero_le _,rfl,Lib.hid rfl,Lib.hid (Below.refl _ _)⟩
  case round =>
   obtain ⟨k,hk,rfl,HK,HBz⟩ := hrel
   by_cases hlt : k < n
   ·
    obtain ⟨a,oa,rfl⟩ := HA.out.at (by omega)
    obtain ⟨b,ob,rfl⟩ := HB.out.at (by omega)
    have hkr : k < xs.length := HN.out ▸ hlt
    have hks : k < ys.length := HM.out ▸ hlt
    have HSt := Lib.hid (same_at xs ys k hkr hks)
    obtain ⟨r,hr⟩ : ∃ r,xs[k] = r := ⟨_,rfl⟩
    obtain ⟨s,hs⟩ : ∃ s,ys[k] = s := ⟨_,rfl⟩
    have h1 := (HA.out.row k hkr).below HBz.out
    have h2 := (HB.out.row k hks).below HBz.out
    rw [hr] at h1 HSt
    rw [hs] at h2 HSt
    clear hr hs
    obtain ⟨g0,g1,g2⟩ := h1
    obtain ⟨f0,f1,f2⟩ := h2
    have g0' := cell_regrown g0
    have g1' := cell_regrown g1
    have g2' := cell_regrown g2
    have f0' := cell_regrown f0
    have f1' := cell_regrown f1
    have f2' := cell_regrown f2
    clear g0 g1 g2 f0 f1 f2
    by_cases e0 : r.term = s.term
    ·
     have q0 : (r.term == s.term) = true := beq_iff_eq.2 e0
     by_cases e1 : r.mem = s.mem
     ·
      have q1 : (r.mem == s.mem) = true := beq_iff_eq.2 e1
      by_cases e2 : r.data = s.data
      ·
       have q2 : (r.data.toList == s.data.toList) = true := beq_iff_eq.2 (by rw [e2])
       have HE : Hid (eqB r s = true) := Lib.hid (decide_eq_true ⟨e0,e1,e2⟩)
       clear e0 e1 e2
       go_wp2
       refine wp_region_quiet_below (by kernel_rfl) (by kernel_rfl) ?_
       repeat (first | go_big_quiet_step (fail) | quiet_step (fail))
       refine wpQuiet_nil ?_
       intro _ hw'
       obtain ⟨⟨dq,osq⟩,hw''⟩ := hw'
       subst hw''
       have HBv := Lib.hid (bchain HBz.out (below_regrown wr dq osq))
       go_wp2
       go_roundw
       case rel => exact ⟨k + 1,by omega,by go_num,Lib.hid (by rw [← HK.out,HSt.out,HE.out,Bool.true_and]),HBv⟩
       case measure => simp [intOf]; omega
      ·
       have q2 : (r.data.toList == s.data.toList) = false := beq_eq_false_iff_ne.2 fun h => e2 (txt_ext (by rw [← tl,← tl]; exact h))
       have HE : Hid (eqB r s = false) := Lib.hid (decide_eq_false fun h => e2 h.2.2)
       clear e0 e1 e2
       go_wp2
       refine wp_region_quiet_below (by kernel_rfl) (by kernel_rfl) ?_
       repeat (first | go_big_quiet_step (fail) | quiet_step (fail))
       refine wpQuiet_nil ?_
       intro _ hw'
       obtain ⟨⟨dq,osq⟩,hw''⟩ := hw'
       subst hw''
       have HBv := Lib.hid (bchain HBz.out (below_regrown wr dq osq))
       go_wp2
       go_ret
       exact ⟨ret_bool (by rw [← HK.out,HSt.out,HE.out,Bool.false_and]),bchain HW.out HBv.out⟩
     ·
      have q1 : (r.mem == s.mem) = false := beq_eq_false_iff_ne.2 e1
      have HE : Hid (eqB r s = false) := Lib.hid (decide_eq_false fun h => e1 h.2.1)
      clear e0 e1
      go_wp2
      refine wp_region_quiet_below (by kernel_rfl) (by kernel_rfl) ?_
      repeat (first | go_big_quiet_step (fail) | quiet_step (fail))
      refine wpQuiet_nil ?_
      intro _ hw'
      obtain ⟨⟨dq,osq⟩,hw''⟩ := hw'
      subst hw''
      have HBv := Lib.hid (bchain HBz.out (below_regrown wr dq osq))
      go_wp2
      go_ret
      exact ⟨ret_bool (by rw [← HK.out,HSt.out,HE.out,Bool.false_and]),bchain HW.out HBv.out⟩
    ·
     have q0 : (r.term == s.term) = false := beq_eq_false_iff_ne.2 e0
     have HE : Hid (eqB r s = false) := Lib.hid (decide_eq_false fun h => e0 h.1)
     clear e0
     go_wp2
     refine wp_region_quiet_below (by kernel_rfl) (by kernel_rfl) ?_
     repeat (first | go_big_quiet_step (fail) | quiet_step (fail))
     refine wpQuiet_nil ?_
     intro _ hw'
     obtain ⟨⟨dq,osq⟩,hw''⟩ := hw'
     subst hw''
     have HBv := Lib.hid (bchain HBz.out (below_regrown wr dq osq))
     go_wp2
     go_ret
     exact ⟨ret_bool (by rw [← HK.out,HSt.out,HE.out,Bool.false_and]),bchain HW.out HBv.out⟩
   ·
    obtain rfl : k = n := by omega
    go_wp2
    go_ret
    refine ⟨ret_bool ?_,HW.out.trans (HBz.out.mono HW.out.size)⟩
    rw [← HK.out,List.drop_eq_nil_of_le (Nat.le_of_eq HN.out.symm),List.drop_eq_nil_of_le (Nat.le_of_eq HM.out.symm)]
    rfl
 ·
  have HE := Lib.hid (sameB_len (l := xs) (m := ys) (by rw [← HN.out,← HM.out]; exact hnm))
  have hne : ((n : Int) != (m : Int)) = true := bne_iff_ne.2 (by omega)
  go_enter Tryz.func93,Tryz.ntmps93
  go_wp2
  go_ret
  exact ⟨ret_bool HE.out.symm,HW.out⟩
end Go.Proofs.YtlmjeackfepllaaGreatDoor.Et
set_option maxRecDepth 100000
namespace Go.Proofs.YtlmjeackfepllaaGreatDoor.Wl
open Go.RowKit
open Mem
def basedB (a b : H) : Bool := (a.base == b.base) && ((a.bt == b.bt) && (a.mem == b.mem))
def sameH (a b : H) : Bool := (a.term == b.term) && ((a.vote == b.vote) && (basedB a b && Et.sameB a.log b.log))
theorem sameH_iff {a b : H} (ha : a.snap = .empty) : sameH a b = true ↔ a = b.bare := by
 unfold sameH basedB H.bare
 simp only [Bool.and_eq_true,beq_iff_eq,Et.sameB_iff]
 obtain ⟨t,v,x,c,m,s,l⟩ := a
 obtain ⟨t',v',x',c',m',s',l'⟩ := b
 dsimp only at ha
 subst ha
 simp only [H.mk.injEq]
 constructor
 ·
  rintro ⟨h1,h2,⟨h3,h4,h5⟩,h6⟩
  exact ⟨h1,h2,h3,h4,h5,trivial,h6⟩
 ·
  rintro ⟨h1,h2,h3,h4,h5,_,h6⟩
  exact ⟨h1,h2,⟨h3,h4,h5⟩,h6⟩
set_option maxHeartbeats 2000000 in
theorem wl_based (r r' : Hd.T) (l l' : List Et.T) (w : World) : Calls Tryz.prog 92 #[Hd.val r,Hd.val r'] w fun e w' => e = .returned (.bool (basedB (Hd.h r l) (Hd.h r' l'))) ∧ Below w.heap.size w w' := by
 obtain ⟨W0,hW0,hbW0,hC0⟩ := Hd.boxed1 w r
 obtain ⟨W,hW,hbW,hC'⟩ := Hd.boxed1 W0 r'
 have hC := hC0.below hbW
 have HB := Lib.hid (bchain hbW0 hbW)
 unfold Hd.C at hC hC'
 obtain ⟨a0,a1,a2,a3,a4,a5,a6⟩ := hC
 obtain ⟨b0,b1,b2,b3,b4,b5,b6⟩ := hC'
 have HE : Hid (basedB (Hd.h r l) (Hd.h r' l') = ((r.base == r'.base) && ((r.bt == r'.bt) && (r.mem == r'.mem)))) := Lib.hid rfl
 unfold Hd.val
 clear hbW hbW0 hC0
 cases q1 : (r.base == r'.base)
 ·
  rw [q1,Bool.false_and] at HE
  go_enter Tryz.func92,Tryz.ntmps92
  go_wp2
  go_ret
  exact ⟨ret_bool HE.out.symm,HB.out⟩
 rw [q1,Bool.true_and] at HE
 cases q2 : (r.bt == r'.bt)
 ·
  rw [q2,Bool.false_and] at HE
  go_enter Tryz.func92,Tryz.ntmps92
  go_wp2
  go_ret
  exact ⟨ret_bool HE.out.symm,HB.out⟩
 rw [q2,Bool.true_and] at HE
 cases q3 : (r.mem == r'.mem)
 ·
  rw [q3] at HE
  go_enter Tryz.func92,Tryz.ntmps92
  go_wp2
  go_ret
  exact ⟨ret_bool HE.out.symm,HB.out⟩
 ·
  rw [q3] at HE
  go_enter Tryz.func92,Tryz.ntmps92
  go_wp2
  go_ret
  exact ⟨ret_bool HE.out.symm,HB.out⟩
set_option maxHeartbeats 4000000 in
theorem wl_same (r r' : Hd.T) (l l' : List Et.T) (w : World) (hl : Et.Ls w r.log.ao r.log.n r.log.cap l) (hl' : Et.Ls w r'.log.ao r'.log.n r'.log.cap l') :
  Calls Tryz.prog 46 #[Hd.val r,Hd.val r'] w fun e w' => e = .returned (.bool (sameH (Hd.h r l) (Hd.h r' l'))) ∧ Below w.heap.size w w' := by
 obtain ⟨W0,hW0,hbW0,hC0⟩ := Hd.boxed1 w r
 obtain ⟨W,hW,hbW,hC'⟩ := Hd.boxed1 W0 r'
 have hC := hC0.below hbW
 have HB := Lib.hid (bchain hbW0 hbW)
 have HC := Lib.hid hC
 have HC' := Lib.hid hC'
 have CB := Lib.hid (wl_based r r' l l' W)
 have CS := Lib.hid (fun (u : World) (k : Below W.heap.size W u) => Et.equal_any l l' r.log.ao r'.log.ao r.log.n r'.log.n r.log.cap r'.log.cap u u (Below.refl _ _) ((hl.below HB.out).below k) ((hl'.below HB.out).below k))
 unfold Hd.val at CB ⊢
 unfold Hd.C at hC hC'
 obtain ⟨a0,a1,a2,a3,a4,a5,a6⟩ := hC
 obtain ⟨b0,b1,b2,b3,b4,b5,b6⟩ := hC'
 have HE : Hid (sameH (Hd.h r l) (Hd.h r' l') = ((r.term == r'.term) && ((r.vote == r'.vote) && (basedB (Hd.h r l) (Hd.h r' l') && Et.sameB l l')))) := Lib.hid rfl
 clear hbW hbW0 hC0 hl hl'
 cases q1 : (r.term == r'.term)
 ·
  rw [q1,Bool.false_and] at HE
  go_enter Tryz.func46,Tryz.ntmps46
  go_wp2_with fail
  go_ret
  exact ⟨ret_bool HE.out.symm,HB.out⟩
 rw [q1,Bool.true_and] at HE
 cases q2 : (r.vote == r'.vote)
 ·
  rw [q2,Bool.false_and] at HE
  go_enter Tryz.func46,Tryz.ntmps46
  go_wp2_with fail
  go_ret
  exact ⟨ret_bool HE.out.symm,HB.out⟩
 rw [q2,Bool.true_and] at HE
 cases q3 : basedB (Hd.h r l) (Hd.h r' l')
 ·
  rw [q3] at CB
  rw [q3,Bool.false_and] at HE
  go_enter Tryz.func46,Tryz.ntmps46
  go_wp2_with (go_at_call 92; refine CB.out.mono ?_; rintro e u ⟨rfl,bu⟩; have HB1 := Lib.hid (bchain HB.out bu); clear bu CB)
  go_ret
  exact ⟨ret_bool HE.out.symm,HB1.out⟩
 ·
  rw [q3] at CB
  rw [q3,Bool.true_and] at HE
  go_enter Tryz.func46,Tryz.ntmps46
  go_wp2_with (first | (go_at_call 92; refine CB.out.mono ?_; rintro e u ⟨rfl,bu⟩; have HB1 := Lib.hid (bchain HB.out bu); have CS1 := Lib.hid (CS.out u bu); have a6' := ((bcell bu).1 _ _ (cell_lt a6)).trans a6; have b6' := ((bcell bu).1 _ _ (cell_lt b6)).trans b6; clear bu CB CS a0 a1 a2 a3 a4 a5 a6 b0 b1 b2 b3 b4 b5 b6) | (go_at_call 93; refine CS1.out.mono ?_; rintro e u2 ⟨rfl,b2⟩; have HB2 := Lib.hid (bchain HB1.out b2); clear b2 CS1))
  go_ret
  exact ⟨ret_bool HE.out.symm,HB2.out⟩
def Wal (P : Nat → Prop) (w : World) (g p n : Nat) (f : Bool) (s : Sg) : Prop := In P w g 2 82 [.pointer (some ⟨p,0,none⟩),.int .i64 (n : Int)] [.bool f] s
theorem Wal.cells {P : Nat → Prop} {w : World} {g p n : Nat} {f : Bool} {s : Sg} (h : Wal P w g p n f s) : w.cell? ⟨g,0,none⟩ = some (.pointer (some ⟨p,0,none⟩)) ∧ w.cell? ⟨g,1,none⟩ = some (.int .i64 (n : Int)) ∧ w.cell? ⟨g,11,none⟩ = some (.bool f) ∧ (∀ k,w.frozen? ⟨g,k,none⟩ = false) ∧ g < w.heap.size := by
 obtain ⟨v,h⟩ := h
 refine ⟨?_,?_,?_,h.blk.frozen,h.blk.lt⟩
 all_goals rw [cell_of_row w g _ _ _ _ h.blk.2]
 all_goals rfl
theorem Wal.pg {P : Nat → Prop} {w : World} {g p n : Nat} {f : Bool} {s : Sg} (h : Wal P w g p n f s) : P g := h.elim fun v h => h.pg
theorem Wal.fail {P : Nat → Prop} {w : World} {g p n : Nat} {f : Bool} {s : Sg} (h : Wal P w g p n f s) (b : Bool) : Wal P (w.setCell ⟨g,11,none⟩ (.bool b)) g p n b s ∧ UpdQ P w (w.setCell ⟨g,11,none⟩ (.bool b)) := by
 have hg := h.pg
 obtain ⟨v,h⟩ := h
 have hu := upd_set w g 11 (.bool b)
 exact ⟨⟨v,⟨rfl,(heap_setCell_same w g 11 _ _ (.bool b) h.blk.2).trans rfl⟩,hu.rows h.own fun q e => (h.pv q e).2,h.pg,h.pv,h.short,h.few,h.base,h.fit,h.snap⟩,hu.mono fun q z => z ▸ hg⟩
set_option maxHeartbeats 1000000 in
theorem wl_tell {P : Nat → Prop} {w : World} {g p n : Nat} {f : Bool} {s : Sg} (h : Wal P w g p n f s) (e : Int) :
  Calls Tryz.prog 48 #[.pointer (some ⟨g,0,none⟩),.int .i64 e] w fun x w' => x = .returned (.int .i64 e) ∧ Wal P w' g p n (e != 0) s ∧ UpdQ P w w' := by
 have HF := Lib.hid (h.fail (e != 0))
 obtain ⟨c0,c1,c2,fz,hlt⟩ := h.cells
 clear h c0 c1
 go_enter Tryz.func48,Tryz.ntmps48
 go_wp2
 go_ret
 exact ⟨rfl,HF.out⟩
end Go.Proofs.YtlmjeackfepllaaGreatDoor.Wl
namespace Go.Proofs.YtlmjeackfepllaaGreatDoor.Wl
open Go.RowKit
open Mem Dk
def flen (d : D) (n : Nat) : Nat := (Dk.own (wname n) d.fs).bs.length
set_option maxHeartbeats 2000000 in
theorem wl_long {P Pd : Nat → Prop} {w0 w : World} {g p n : Nat} {f : Bool} {s : Sg} {d : D} (h : Wal P w g p n f s) (hd : S Pd w0 w p d) (hn : n < 100) :
  Calls Tryz.prog 94 #[.pointer (some ⟨g,0,none⟩)] w fun e w' => e = .returned (.bool (decide (8192 < flen d n))) ∧ Below w.heap.size w w' := by
 obtain ⟨c0,c1,c2,fz,hlt⟩ := h.cells
 have CR : Hid (∀ u,(u = w ∨ u = w.drew) → Calls Tryz.prog 64 #[.pointer (some ⟨p,0,none⟩),.string (wname n)] u fun e w' => ∃ (ao : Option Addr) (m : Nat) (b : Bool),e = .returned (.tuple #[.slice ao m m,.bool b]) ∧ m = flen d n ∧ m ≤ 1000000000000 ∧ Below w.heap.size w w') := Lib.hid fun u k => by
  have hb : Below w.heap.size w u := k.elim (fun e => e ▸ Below.refl _ _) fun e => e ▸ (Below.refl _ _).drew
  refine (s_read (hd.later hb) (wname n)).mono ?_
  rintro e w' ⟨b,⟨hh,rfl⟩ | ⟨hh,g',rfl,hb',_⟩⟩
  ·
   refine ⟨none,0,false,rfl,?_,by omega,bchain hb b⟩
   unfold flen
   rw [own_no hh]
   rfl
  ·
   refine ⟨some ⟨g',0,none⟩,_,true,rfl,rfl,?_,bchain hb b⟩
   have ho := hd.dsk.elim fun v h => h.elim fun L h => h.elim fun rs h => h.ok
   have h1 := Dk.total_mem (f := Dk.own (wname n) d.fs) (l := d.fs) (by rw [own_at ho.sorted hh]; exact List.getElem_mem _)
   have := ho.room
   omega
 have lz : ∀ u,Below w.heap.size w u → u.cell? ⟨g,0,none⟩ = some (.pointer (some ⟨p,0,none⟩)) ∧ u.cell? ⟨g,1,none⟩ = some (.int .i64 (n : Int)) := fun u k => ⟨((bcell k).1 _ _ hlt).trans c0,((bcell k).1 _ _ hlt).trans c1⟩
 clear h hd c2
 go_enter Tryz.func94,Tryz.ntmps94
 go_wp2_with fail
 go_region_held3 (fun y => y.cell? ⟨g,0,none⟩ = some (.pointer (some ⟨p,0,none⟩)) ∧ y.cell? ⟨g,1,none⟩ = some (.int .i64 (n : Int))) (first | with_reducible assumption | (apply lz; repeat (first | with_reducible assumption | with_reducible apply Below.drew | with_reducible exact Below.refl _ _)) | fail) (first | (go_at_call 43; refine (wl_name n hn _).mono ?_; rintro e u ⟨rfl,hu⟩; rw [hu]; clear hu u) | (go_at_call 64; refine (CR.out _ (by first | exact .inl rfl | exact .inr rfl)).mono ?_; rintro e u3 ⟨ao,m,b,rfl,hm,hmb,b3⟩; have t3 := lz _ b3; have HM := Lib.hid hm; have HB := Lib.hid b3; clear hm b3 CR) | fail)
 all_goals
  by_cases hq : (8192 : Int) < (m : Int)
  ·
   go_wp2_with fail
   go_ret
   exact ⟨ret_bool (decide_eq_true (by rw [← HM.out]; omega)).symm,HB.out⟩
  ·
   go_wp2_with fail
   go_ret
   exact ⟨ret_bool (decide_eq_false (by rw [← HM.out]; omega)).symm,HB.out⟩
end Go.Proofs.YtlmjeackfepllaaGreatDoor.Wl
namespace Go.Proofs.YtlmjeackfepllaaGreatDoor.Wl
open Go.RowKit
open Mem Dk
theorem nums_pos : ∀ (n : Int) (l : List Int),1 ≤ (nums (n :: l)).length := fun n l => by
 show 1 ≤ (nm n ++ nums l).length
 rw [List.length_append]
 have := nm_pos n
 omega
theorem pay_len (r : Rec) (h : ∀ e,r = .ent e → e.data.size ≤ 1100) : 1 ≤ (pay r).length ∧ (pay r).length ≤ 2000 := by
 have a1 := nm_pos
 have a2 := nm_len
 cases r with
 | beg t v b c m =>
  have := a1 1; have := a2 1; have := a2 t; have := a2 v; have := a2 b; have := a2 c; have := a2 m
  simp only [pay,List.length_append]; omega
 | ent e =>
  have := a1 2; have := a2 2; have := a2 e.term; have := a2 e.mem; have := a2 (e.data.size : Int); have := h e rfl
  simp only [pay,tx,List.length_append,txt_len]; omega
 | rdy => have := a1 3; have := a2 3; simp only [pay]; omega
 | vot t v =>
  have := a1 4; have := a2 4; have := a2 t; have := a2 v
  simp only [pay,List.length_append]; omega
 | cut n =>
  have := a1 5; have := a2 5; have := a2 n
  simp only [pay,List.length_append]; omega
theorem fine_pays {l : List Rec} (hl : l.length ≤ 1000) (h : ∀ e,Rec.ent e ∈ l → e.data.size ≤ 1100) : Fine (pays l) := by
 refine ⟨by unfold pays; rw [List.length_map]; exact hl,fun p hp => ?_⟩
 obtain ⟨r,hr,rfl⟩ := List.mem_map.1 hp
 exact pay_len r fun e he => h e (he ▸ hr)
theorem fine_change {a b : H} (hl : b.log.length ≤ 200) (hd : ∀ e ∈ b.log,e.data.size ≤ 1100) : Fine (pays (change a b)) := by
 refine fine_pays ?_ ?_
 ·
  unfold change ents
  have h1 : (if b.term ≠ a.term ∨ b.vote ≠ a.vote then [Rec.vot b.term b.vote] else []).length ≤ 1 := by split <;> simp
  have h2 : (if begun a.log b.log < a.log.length then [Rec.cut (b.base + (begun a.log b.log : Int))] else []).length ≤ 1 := by split <;> simp
  rw [List.length_append,List.length_append,List.length_map,List.length_drop]
  omega
 ·
  intro e he
  unfold change ents at he
  rcases List.mem_append.1 he with he | he
  · split at he <;> simp at he
  rcases List.mem_append.1 he with he | he
  · split at he <;> simp at he
  obtain ⟨x,hx,e2⟩ := List.mem_map.1 he
  cases e2
  exact hd _ (List.mem_of_mem_drop hx)
theorem fine_whole {b : H} (hl : b.log.length ≤ 200) (hd : ∀ e ∈ b.log,e.data.size ≤ 1100) : Fine (pays (whole b)) := by
 refine fine_pays ?_ ?_
 ·
  unfold whole ents
  simp only [List.length_cons,List.length_append,List.length_map,List.length_nil]
  omega
 ·
  intro e he
  unfold whole ents at he
  simp only [List.mem_cons,reduceCtorEq,false_or,List.mem_append,List.not_mem_nil,or_false] at he
  obtain ⟨x,hx,e2⟩ := List.mem_map.1 he
  cases e2
  exact hd _ hx
theorem Recs.keep {Q : Nat → Prop} {w0 w u : World} {v : Value} {ps : List (List UInt8)} (h : Recs w0 w v ps) (k : UpdQ Q w u) (hQ : ∀ b,w0.heap.size ≤ b → ¬ Q b) : Recs w0 u v ps := by
 obtain ⟨gs,a,b,c⟩ := h
 exact ⟨gs,k.rows a (fun g hg => hQ g (World.ownsRow.lt a g hg).1),b,fun q hq => ⟨(k.block q.1 (c q hq).1.lt (hQ q.1 (c q hq).2.1)).trans (c q hq).1,(c q hq).2⟩⟩
structure Pair (P Q R : Nat → Prop) (w0 w : World) (g p n : Nat) (f : Bool) (s : Sg) (d : D) : Prop where
 wal : Wal P w g p n f s
 dsk : S Q w0 w p d
 sub : ∀ b,P b → w0.heap.size ≤ b
 ap : ∀ b,P b → ¬ Q b
 pl : ∀ b,P b → b < w.heap.size
 ql : ∀ b,Q b → b < w.heap.size
 pr : ∀ b,P b → R b
 qr : ∀ b,Q b → R b
def Both (R : Nat → Prop) (w0 w : World) (g p n : Nat) (f : Bool) (s : Sg) (d : D) : Prop := ∃ P Q,Pair P Q R w0 w g p n f s d
section
variable {P Q R T : Nat → Prop} {w0 w u v : World} {g p n : Nat} {f : Bool} {s s' : Sg} {d d' : D}
theorem Pair.later (h : Pair P Q R w0 w g p n f s d) (k : Below w.heap.size w u) : Pair P Q R w0 u g p n f s d :=
 ⟨h.wal.below k,h.dsk.later k,h.sub,h.ap,fun b z => Nat.lt_of_lt_of_le (h.pl b z) k.size,fun b z => Nat.lt_of_lt_of_le (h.ql b z) k.size,h.pr,h.qr⟩
theorem Both.later (h : Both R w0 w g p n f s d) (k : Below w.heap.size w u) : Both R w0 u g p n f s d := h.elim fun P h => h.elim fun Q h => ⟨P,Q,h.later k⟩
theorem Both.mono (h : Both R w0 w g p n f s d) (k : ∀ b,R b → T b) : Both T w0 w g p n f s d := h.elim fun P h => h.elim fun Q h => ⟨P,Q,h.wal,h.dsk,h.sub,h.ap,h.pl,h.ql,fun b z => k b (h.pr b z),fun b z => k b (h.qr b z)⟩
theorem Pair.rsub (h : Pair P Q R w0 w g p n f s d) : ∀ b,P b ∨ Q b → w0.heap.size ≤ b := fun b z => z.elim (h.sub b) (h.dsk.sub b)
theorem Pair.disk (h : Pair P Q R w0 w g p n f s d) {x : Int × D} {e : Ending} (k : ChgE Q w0 w p x e u) : Pair P (fun b => nw Q w b ∧ b < u.heap.size) (nw R w) w0 u g p n f s x.2 ∧ UpdQ Q w u := by
 obtain ⟨_,k2,k3⟩ := k
 refine ⟨⟨h.wal.keep k3 h.ap,k2.tight,h.sub,fun b z z2 => z2.1.elim (h.ap b z) fun z3 => by have := h.pl b z; omega,fun b z => Nat.lt_of_lt_of_le (h.pl b z) k3.size,fun b z => z.2,fun b z => .inl (h.pr b z),fun b z => z.1.elim (fun z => .inl (h.qr b z)) .inr⟩,k3⟩
theorem Pair.turn (h : Pair P Q R w0 w g p n f s d) {n' : Nat} {f' : Bool} (k : Wal (nw P w) u g p n' f' s') (k3 : UpdQ P w u) : Pair (fun b => nw P w b ∧ b < u.heap.size) Q (nw R w) w0 u g p n' f' s' d :=
 ⟨In.lt k,⟨h.dsk.dsk.keep k3 (fun b z z2 => h.ap b z2 z),h.dsk.sub,k3.below w0 h.dsk.bel h.sub⟩,fun b z => z.1.elim (h.sub b) fun z => Nat.le_trans h.dsk.bel.size z,fun b z z2 => z.1.elim (fun z => h.ap b z z2) fun z => by have := h.ql b z2; omega,fun b z => z.2,fun b z => Nat.lt_of_lt_of_le (h.ql b z) k3.size,fun b z => z.1.elim (fun z => .inl (h.pr b z)) .inr,fun b z => .inl (h.qr b z)⟩
end
def extS (s : Sg) (d : D) (n : Nat) (h : H) : Int × Sg × D :=
 ((writeD d n (frames (pays (change s.h h)))).1,if (writeD d n (frames (pays (change s.h h)))).1 ≠ 0 then s else runAll s (pays (change s.h h)),(writeD d n (frames (pays (change s.h h)))).2)
def TwoE (R : Nat → Prop) (w0 w : World) (g p n : Nat) (f : Bool) (x : Int × Sg × D) (e : Ending) (w' : World) : Prop := e = .returned (.int .i64 x.1) ∧ Both (nw R w) w0 w' g p n f x.2.1 x.2.2 ∧ UpdQ R w w'
set_option maxHeartbeats 4000000 in
theorem wl_extend {R : Nat → Prop} {w0 w : World} {g p n : Nat} {f : Bool} {s : Sg} {d : D} (h : Both R w0 w g p n f s d) (hn : n < 100) (few : d.fs.length < 1000) (r' : Hd.T) (l' : List Et.T) (hl' : Et.Ls w r'.log.ao r'.log.n r'.log.cap l') (hd : ∀ e ∈ l',e.data.size ≤ 1100) (hn' : l'.length ≤ 200) (hf : HFit r') (hb : 0 ≤ r'.base ∧ r'.base ≤ 1099511627776) :
  Calls Tryz.prog 49 #[.pointer (some ⟨g,0,none⟩),Hd.val r'] w (TwoE R w0 w g p n f (extS s d n (Hd.h r' l'))) := by
 obtain ⟨P,Q,h⟩ := h
 obtain ⟨v,hseg⟩ := h.wal
 obtain ⟨⟨vo,vn,vc⟩,hv⟩ : ∃ x,x = v := ⟨_,rfl⟩
 subst hv
 obtain ⟨W,hW,hbW,hC⟩ := Hd.boxed1 w r'
 have HBW := Lib.hid hbW
 have hS := hseg.below hbW
 obtain ⟨k0,k1,k2,fz,hlt⟩ := (Wal.cells ⟨_,hS⟩)
 obtain ⟨c0,c1,c2,c3,c4,c5,c6,c7,c8⟩ := hS.blk.cells
 unfold row at c0 c1 c2 c3 c4 c5 c6
 unfold sv at c6
 dsimp only at c0 c1 c2 c3 c4 c5 c6
 obtain ⟨ps,hps⟩ : ∃ ps,pays (change s.h (Hd.h r' l')) = ps := ⟨_,rfl⟩
 have HPs := Lib.hid hps
 have hF : Fine ps := hps ▸ fine_change hn' hd
 have HF := Lib.hid hF
 have CC : Hid (∀ u,Below W.heap.size W u → Calls Tryz.prog 95 #[Hd.val (row s.h ⟨vo,vn,vc⟩),Hd.val r'] u (fun e u' => ∃ v,e = .returned v ∧ Recs W u' v ps ∧ Below u.heap.size u u')) := Lib.hid fun u k => by
  have hw := bchain hbW k
  refine (wl_change (row s.h ⟨vo,vn,vc⟩) r' s.h.log l' u (hseg.ls.below hw) (hl'.below hw) hd (by have := hseg.few; omega) (by omega) hf hb).mono ?_
  rintro e u' ⟨x,rfl,rx,bx⟩
  refine ⟨x,rfl,?_,bx⟩
  rw [h_row,hps] at rx
  exact Recs.since rx k.size
 unfold Hd.val row at CC
 dsimp only at CC
 unfold Hd.C at hC
 obtain ⟨a0,a1,a2,a3,a4,a5,a6⟩ := hC
 have HP := Lib.hid (h.later hbW)
 have HX : Hid (extS s d n (Hd.h r' l') = ((writeD d n (frames ps)).1,if (writeD d n (frames ps)).1 ≠ 0 then s else runAll s ps,(writeD d n (frames ps)).2)) := Lib.hid (by unfold extS; rw [hps])
 obtain ⟨a,d1,hx⟩ : ∃ a d1,writeD d n (frames ps) = (a,d1) := ⟨_,_,rfl⟩
 have CW : Hid (∀ (u : World) (v : Value),Below W.heap.size W u → Recs W u v ps → Calls Tryz.prog 96 #[.pointer (some ⟨g,0,none⟩),.int .i64 (n : Int),v] u (fun e u' => e = .returned (.int .i64 a) ∧ Pair P (fun b => nw Q u b ∧ b < u'.heap.size) (nw R u) w0 u' g p n f s d1 ∧ UpdQ Q u u')) := Lib.hid fun u x k hx' => by
  have hP := HP.out.later k
  refine (wl_write hP.dsk hP.wal.cells.1 (hP.ap g hP.wal.pg) n hn W x ps hx' hF few).mono ?_
  intro e u' z
  rw [hx] at z
  exact ⟨z.1,hP.disk z⟩
 rw [hx] at HX
 dsimp only at HX
 have HLw : Hid (w.heap.size ≤ W.heap.size) := Lib.hid hbW.size
 unfold Hd.val
 clear h hl' hd hn' hf hb hseg hS hps hF hx hbW few hn c7 c8 k2 fz
 have lz : ∀ y,Below W.heap.size W y → y.cell? ⟨g,2,none⟩ = some (.int .i64 s.h.term) ∧ y.cell? ⟨g,3,none⟩ = some (.int .i64 s.h.vote) ∧ y.cell? ⟨g,4,none⟩ = some (.int .i64 s.h.base) ∧ y.cell? ⟨g,5,none⟩ = some (.int .i64 s.h.bt) ∧ y.cell? ⟨g,6,none⟩ = some (.int .i64 s.h.mem) ∧ y.cell? ⟨g,7,none⟩ = some (.string s.h.snap) ∧ y.cell? ⟨g,8,none⟩ = some (.slice vo vn vc) ∧ y.cell? ⟨w.heap.size,0,none⟩ = some (.int .i64 r'.term) ∧ y.cell? ⟨w.heap.size,1,none⟩ = some (.int .i64 r'.vote) ∧ y.cell? ⟨w.heap.size,2,none⟩ = some (.int .i64 r'.base) ∧ y.cell? ⟨w.heap.size,3,none⟩ = some (.int .i64 r'.bt) ∧ y.cell? ⟨w.heap.size,4,none⟩ = some (.int .i64 r'.mem) ∧ y.cell? ⟨w.heap.size,5,none⟩ = some (.string r'.snap) ∧ y.cell? ⟨w.heap.size,6,none⟩ = some (.slice r'.log.ao r'.log.n r'.log.cap) := fun y k => ⟨((bcell k).1 _ _ (cell_lt c0)).trans c0,((bcell k).1 _ _ (cell_lt c1)).trans c1,((bcell k).1 _ _ (cell_lt c2)).trans c2,((bcell k).1 _ _ (cell_lt c3)).trans c3,((bcell k).1 _ _ (cell_lt c4)).trans c4,((bcell k).1 _ _ (cell_lt c5)).trans c5,((bcell k).1 _ _ (cell_lt c6)).trans c6,((bcell k).1 _ _ (cell_lt a0)).trans a0,((bcell k).1 _ _ (cell_lt a1)).trans a1,((bcell k).1 _ _ (cell_lt a2)).trans a2,((bcell k).1 _ _ (cell_lt a3)).trans a3,((bcell k).1 _ _ (cell_lt a4)).trans a4,((bcell k).1 _ _ (cell_lt a5)).trans a5,((bcell k).1 _ _ (cell_lt a6)).trans a6⟩
 go_enter Tryz.func49,Tryz.ntmps49
 go_wp2_with fail
 go_region_held3 (fun y => y.cell? ⟨g,2,none⟩ = some (.int .i64 s.h.term) ∧ y.cell? ⟨g,3,none⟩ = some (.int .i64 s.h.vote) ∧ y.cell? ⟨g,4,none⟩ = some (.int .i64 s.h.base) ∧ y.cell? ⟨g,5,none⟩ = some (.int .i64 s.h.bt) ∧ y.cell? ⟨g,6,none⟩ = some (.int .i64 s.h.mem) ∧ y.cell? ⟨g,7,none⟩ = some (.string s.h.snap) ∧ y.cell? ⟨g,8,none⟩ = some (.slice vo vn vc) ∧ y.cell? ⟨w.heap.size,0,none⟩ = some (.int .i64 r'.term) ∧ y.cell? ⟨w.heap.size,1,none⟩ = some (.int .i64 r'.vote) ∧ y.cell? ⟨w.heap.size,2,none⟩ = some (.int .i64 r'.base) ∧ y.cell? ⟨w.heap.size,3,none⟩ = some (.int .i64 r'.bt) ∧ y.cell? ⟨w.heap.size,4,none⟩ = some (.int .i64 r'.mem) ∧ y.cell? ⟨w.heap.size,5,none⟩ = some (.string r'.snap) ∧ y.cell? ⟨w.heap.size,6,none⟩ = some (.slice r'.log.ao r'.log.n r'.log.cap)) (first | with_reducible assumption | (apply lz; repeat (first | with_reducible assumption | with_reducible apply Below.drew | with_reducible exact Below.refl _ _)) | fail) (first | (go_at_call 95; refine (CC.out _ (by first | exact Below.refl _ _ | exact (Below.refl _ _).drew)).mono ?_; rintro e u1 ⟨v1,rfl,r1,b1⟩; have t1 := lz _ (by first | exact b1 | exact bchain (Below.refl _ _).drew b1); have HR1 := Lib.hid r1; have HB1 : Hid (Below W.heap.size W u1) := Lib.hid (by first | exact b1 | exact bchain (Below.refl _ _).drew b1); clear r1 b1 CC) | fail)
 all_goals
  have k1' := ((bcell HB1.out).1 _ _ (cell_lt k1)).trans k1
  have CW1 := Lib.hid (CW.out u1 v1 HB1.out HR1.out)
  have HBW1 := Lib.hid (bchain HBW.out HB1.out)
  clear hW k0 k1 c0 c1 c2 c3 c4 c5 c6 a0 a1 a2 a3 a4 a5 a6 lz t1 CW hlt
  go_wp2_with fail
  refine CW1.out.mono ?_
  rintro e u2 ⟨rfl,hp2,q2⟩
  have HP2 := Lib.hid hp2
  have HQ2 := Lib.hid q2
  clear hp2 q2 CW1 k1'
  by_cases ha : a = 0
  ·
   subst ha
   have CT := Lib.hid (wl_takeAll HP2.out.wal v1 ps (Recs.keep HR1.out HQ2.out fun b z z2 => by have := HP.out.ql b z2; omega) HP.out.pl HF.out)
   go_wp2_with fail
   refine CT.out.mono ?_
   rintro e u3 ⟨rfl,h3,q3⟩
   have H3 := Lib.hid h3
   have HQ3 := Lib.hid q3
   clear h3 q3 CT
   go_wp2_with fail
   go_ret
   refine ⟨by rw [HX.out]; rfl,?_,((UpdQ.of HBW1.out).trans (HQ2.out.mono HP.out.qr)).trans (HQ3.out.mono HP.out.pr)⟩
   rw [HX.out]
   have hs1 := HBW1.out.size
   have hs2 := HQ2.out.size
   have hT := HP2.out.turn (s' := runAll s ps) H3.out HQ3.out
   exact Both.mono ⟨_,_,hT⟩ fun b z => z.elim (fun z => z.elim .inl fun z => .inr (by omega)) fun z => .inr (by omega)
  ·
   have qa : (a != 0) = true := bne_iff_ne.2 ha
   go_wp2_with fail
   go_ret
   refine ⟨by rw [HX.out]; rfl,?_,(UpdQ.of HBW1.out).trans (HQ2.out.mono HP.out.qr)⟩
   rw [HX.out]
   dsimp only
   rw [if_pos ha]
   have hs1 := HBW1.out.size
   exact Both.mono ⟨_,_,HP2.out⟩ fun b z => z.elim .inl fun z => .inr (by omega)
end Go.Proofs.YtlmjeackfepllaaGreatDoor.Wl
namespace Go.Proofs.YtlmjeackfepllaaGreatDoor.Wl
open Go.RowKit
open Mem Dk
def anewB (s : Sg) (d : D) (n : Nat) (h : H) : Bool :=
 !s.ready || (decide (8192 < flen d n) || (!basedB s.h h || (decide (h.term < s.h.term) || ((h.term == s.h.term) && (decide (s.h.vote ≠ -1) && decide (h.vote ≠ s.h.vote))))))
set_option maxHeartbeats 4000000 in
theorem wl_anew {R : Nat → Prop} {w0 w : World} {g p n : Nat} {f : Bool} {s : Sg} {d : D} (h : Both R w0 w g p n f s d) (hn : n < 100) (r' : Hd.T) (l' : List Et.T) :
  Calls Tryz.prog 47 #[.pointer (some ⟨g,0,none⟩),Hd.val r'] w fun e w' => e = .returned (.bool (anewB s d n (Hd.h r' l'))) ∧ Below w.heap.size w w' := by
 obtain ⟨P,Q,h⟩ := h
 obtain ⟨v,hseg⟩ := h.wal
 obtain ⟨⟨vo,vn,vc⟩,hv⟩ : ∃ x,x = v := ⟨_,rfl⟩
 subst hv
 obtain ⟨W,hW,hbW,hC⟩ := Hd.boxed1 w r'
 have HBW := Lib.hid hbW
 have hS := hseg.below hbW
 obtain ⟨k0,k1,k2,fz,hlt⟩ := (Wal.cells ⟨_,hS⟩)
 obtain ⟨c0,c1,c2,c3,c4,c5,c6,c7,c8⟩ := hS.blk.cells
 unfold row at c0 c1 c2 c3 c4 c5 c6
 unfold sv at c6
 dsimp only at c0 c1 c2 c3 c4 c5 c6
 have CB := Lib.hid (fun u => wl_based (row s.h ⟨vo,vn,vc⟩) r' s.h.log l' u)
 rw [h_row] at CB
 unfold Hd.val row at CB
 dsimp only at CB
 unfold Hd.C at hC
 obtain ⟨a0,a1,a2,a3,a4,a5,a6⟩ := hC
 have HP := Lib.hid (h.later hbW)
 have CL : Hid (∀ u,Below W.heap.size W u → Calls Tryz.prog 94 #[.pointer (some ⟨g,0,none⟩)] u fun e w' => e = .returned (.bool (decide (8192 < flen d n))) ∧ Below u.heap.size u w') := Lib.hid fun u k => wl_long (HP.out.later k).wal (HP.out.later k).dsk hn
 obtain ⟨lg,hlg⟩ : ∃ b,decide (8192 < flen d n) = b := ⟨_,rfl⟩
 obtain ⟨bs,hbs⟩ : ∃ b,basedB s.h (Hd.h r' l') = b := ⟨_,rfl⟩
 rw [hlg] at CL
 rw [hbs] at CB
 have HX : Hid (anewB s d n (Hd.h r' l') = (!s.ready || (lg || (!bs || (decide (r'.term < s.h.term) || ((r'.term == s.h.term) && (decide (s.h.vote ≠ -1) && decide (r'.vote ≠ s.h.vote)))))))) := Lib.hid (by unfold anewB; rw [hlg,hbs]; rfl)
 unfold Hd.val
 clear h hseg hS hbW hn c7 k2 fz hlg hbs
 cases hr : s.ready
 ·
  rw [hr] at c8 HX
  go_enter Tryz.func47,Tryz.ntmps47
  go_wp2_with fail
  go_ret
  exact ⟨ret_bool (by rw [HX.out]; rfl),bchain HBW.out ((Below.refl _ _).alloc (Nat.le_refl _) _)⟩
 ·
  rw [hr] at c8 HX
  go_enter Tryz.func47,Tryz.ntmps47
  go_wp2_with fail
  obtain ⟨W2,hW2,hbW2,hC2⟩ := Hd.boxed1 W (row s.h ⟨vo,vn,vc⟩)
  unfold row at hW2 hC2
  unfold Hd.C at hC2
  dsimp only at hW2 hC2
  rw [hW2]
  have CL2 := Lib.hid (CL.out W2 hbW2)
  refine CL2.out.mono ?_
  rintro e u ⟨rfl,bu⟩
  have HU := Lib.hid (bchain HBW.out (bchain hbW2 bu))
  obtain ⟨e0,e1,e2,e3,e4,e5,e6⟩ := hC2
  have la : ∀ y,Below W2.heap.size W2 y → y.cell? ⟨w.heap.size,0,none⟩ = some (.int .i64 r'.term) ∧ y.cell? ⟨w.heap.size,1,none⟩ = some (.int .i64 r'.vote) ∧ y.cell? ⟨w.heap.size,2,none⟩ = some (.int .i64 r'.base) ∧ y.cell? ⟨w.heap.size,3,none⟩ = some (.int .i64 r'.bt) ∧ y.cell? ⟨w.heap.size,4,none⟩ = some (.int .i64 r'.mem) ∧ y.cell? ⟨w.heap.size,5,none⟩ = some (.string r'.snap) ∧ y.cell? ⟨w.heap.size,6,none⟩ = some (.slice r'.log.ao r'.log.n r'.log.cap) ∧ y.cell? ⟨W.heap.size,0,none⟩ = some (.int .i64 s.h.term) ∧ y.cell? ⟨W.heap.size,1,none⟩ = some (.int .i64 s.h.vote) ∧ y.cell? ⟨W.heap.size,2,none⟩ = some (.int .i64 s.h.base) ∧ y.cell? ⟨W.heap.size,3,none⟩ = some (.int .i64 s.h.bt) ∧ y.cell? ⟨W.heap.size,4,none⟩ = some (.int .i64 s.h.mem) ∧ y.cell? ⟨W.heap.size,5,none⟩ = some (.string s.h.snap) ∧ y.cell? ⟨W.heap.size,6,none⟩ = some (.slice vo vn vc) := fun y k => ⟨((bcell (bchain hbW2 k)).1 _ _ (cell_lt a0)).trans a0,((bcell (bchain hbW2 k)).1 _ _ (cell_lt a1)).trans a1,((bcell (bchain hbW2 k)).1 _ _ (cell_lt a2)).trans a2,((bcell (bchain hbW2 k)).1 _ _ (cell_lt a3)).trans a3,((bcell (bchain hbW2 k)).1 _ _ (cell_lt a4)).trans a4,((bcell (bchain hbW2 k)).1 _ _ (cell_lt a5)).trans a5,((bcell (bchain hbW2 k)).1 _ _ (cell_lt a6)).trans a6,((bcell k).1 _ _ (cell_lt e0)).trans e0,((bcell k).1 _ _ (cell_lt e1)).trans e1,((bcell k).1 _ _ (cell_lt e2)).trans e2,((bcell k).1 _ _ (cell_lt e3)).trans e3,((bcell k).1 _ _ (cell_lt e4)).trans e4,((bcell k).1 _ _ (cell_lt e5)).trans e5,((bcell k).1 _ _ (cell_lt e6)).trans e6⟩
  obtain ⟨x0,x1,x2,x3,x4,x5,x6,y0,y1,y2,y3,y4,y5,y6⟩ := la u bu
  clear hW hW2 CL CL2 k0 k1 c0 c1 c2 c3 c4 c5 c6 c8 a0 a1 a2 a3 a4 a5 a6 e0 e1 e2 e3 e4 e5 e6 hlt HP
  cases lg
  ·
   have CB2 := Lib.hid (CB.out u)
   go_wp2_with fail
   refine CB2.out.mono ?_
   rintro e u2 ⟨rfl,b2⟩
   have HU2 := Lib.hid (bchain HU.out b2)
   obtain ⟨z0,z1,z2,z3,z4,z5,z6,v0,v1,v2,v3,v4,v5,v6⟩ := la u2 (bchain bu b2)
   clear CB CB2 la bu b2 x0 x1 x2 x3 x4 x5 x6 y0 y1 y2 y3 y4 y5 y6
   cases bs
   ·
    go_wp2_with fail
    go_ret
    exact ⟨ret_bool (by rw [HX.out]; rfl),HU2.out⟩
   have HX2 : Hid (anewB s d n (Hd.h r' l') = (decide (r'.term < s.h.term) || ((r'.term == s.h.term) && (decide (s.h.vote ≠ -1) && decide (r'.vote ≠ s.h.vote))))) := Lib.hid (by rw [HX.out]; rfl)
   clear HX
   cases t1 : decide (r'.term < s.h.term)
   ·
    rw [t1,Bool.false_or] at HX2
    cases t2 : (r'.term == s.h.term)
    ·
     rw [t2,Bool.false_and] at HX2
     go_wp2_with fail
     go_ret
     exact ⟨ret_bool HX2.out.symm,HU2.out⟩
    ·
     rw [t2,Bool.true_and] at HX2
     cases t3 : (s.h.vote != -1)
     ·
      rw [show decide (s.h.vote ≠ -1) = (s.h.vote != -1) from by by_cases q : s.h.vote = -1 <;> simp [q],t3,Bool.false_and] at HX2
      go_wp2_with fail
      go_ret
      exact ⟨ret_bool HX2.out.symm,HU2.out⟩
     ·
      rw [show decide (s.h.vote ≠ -1) = (s.h.vote != -1) from by by_cases q : s.h.vote = -1 <;> simp [q],t3,Bool.true_and] at HX2
      rw [show decide (r'.vote ≠ s.h.vote) = (r'.vote != s.h.vote) from by by_cases q : r'.vote = s.h.vote <;> simp [q]] at HX2
      go_wp2_with fail
      go_ret
      exact ⟨ret_bool HX2.out.symm,HU2.out⟩
   ·
    rw [t1,Bool.true_or] at HX2
    go_wp2_with fail
    go_ret
    exact ⟨ret_bool HX2.out.symm,HU2.out⟩
  ·
   clear la bu CB
   go_wp2_with fail
   go_ret
   exact ⟨ret_bool (by rw [HX.out]; rfl),HU.out⟩
end Go.Proofs.YtlmjeackfepllaaGreatDoor.Wl
namespace Go.Proofs.YtlmjeackfepllaaGreatDoor.Wl
open Go.RowKit
open Mem Dk
section
variable {P Q R R2 T : Nat → Prop} {w0 w W u v : World} {g p n : Nat} {f : Bool} {s s' : Sg} {d d' d2 : D}
theorem Wal.count (h : Wal P w g p n f s) (m : Nat) : Wal P (w.setCell ⟨g,1,none⟩ (.int .i64 (m : Int))) g p m f s ∧ UpdQ P w (w.setCell ⟨g,1,none⟩ (.int .i64 (m : Int))) := by
 have hg := h.pg
 obtain ⟨v,h⟩ := h
 have hu := upd_set w g 1 (.int .i64 (m : Int))
 exact ⟨⟨v,⟨rfl,(heap_setCell_same w g 1 _ _ (.int .i64 (m : Int)) h.blk.2).trans rfl⟩,hu.rows h.own fun q e => (h.pv q e).2,h.pg,h.pv,h.short,h.few,h.base,h.fit,h.snap⟩,hu.mono fun q z => z ▸ hg⟩
theorem Wal.clear (h : Wal P w g p n f s) : Wal P (lay9 w g 2 ⟨0,-1,0,0,0,⟨#[]⟩,⟨none,0,0⟩⟩ false false) g p n f empty ∧ UpdQ P w (lay9 w g 2 ⟨0,-1,0,0,0,⟨#[]⟩,⟨none,0,0⟩⟩ false false) := by
 have hg := h.pg
 obtain ⟨v,h⟩ := h
 exact ⟨⟨⟨none,0,0⟩,(vl_empty P _).seg (h.blk.lay9 _ _ _) hg fun b e => by cases e⟩,(lay9_upd w g 2 _ _ _).mono fun q z => z ▸ hg⟩
theorem Wal.nine (h : Wal P w g p n f s) : ∃ (i0 i1 i2 i3 i4 : Int) (t : ByteArray) (vo : Option Addr) (vn vc : Nat) (b c : Bool),w.cell? ⟨g,2,none⟩ = some (.int .i64 i0) ∧ w.cell? ⟨g,3,none⟩ = some (.int .i64 i1) ∧ w.cell? ⟨g,4,none⟩ = some (.int .i64 i2) ∧ w.cell? ⟨g,5,none⟩ = some (.int .i64 i3) ∧ w.cell? ⟨g,6,none⟩ = some (.int .i64 i4) ∧ w.cell? ⟨g,7,none⟩ = some (.string t) ∧ w.cell? ⟨g,8,none⟩ = some (.slice vo vn vc) ∧ w.cell? ⟨g,9,none⟩ = some (.bool b) ∧ w.cell? ⟨g,10,none⟩ = some (.bool c) := by
 obtain ⟨v,h⟩ := h
 obtain ⟨c0,c1,c2,c3,c4,c5,c6,c7,c8⟩ := h.blk.cells
 exact ⟨_,_,_,_,_,_,_,_,_,_,_,c0,c1,c2,c3,c4,c5,c6,c7,c8⟩
theorem Wal.isReady (h : Wal P w g p n f s) : w.cell? ⟨g,10,none⟩ = some (.bool s.ready) := by
 obtain ⟨v,h⟩ := h
 exact h.blk.cells.2.2.2.2.2.2.2.2
theorem Recs.keep2 {x y : World} {v1 : Value} {ps : List (List UInt8)} (h : Recs w0 x v1 ps) (k : UpdQ Q x y) (hQ : ∀ b,w0.heap.size ≤ b → b < x.heap.size → ¬ Q b) : Recs w0 y v1 ps := by
 obtain ⟨gs,a,b,c⟩ := h
 exact ⟨gs,k.rows a (fun g hg => hQ g (World.ownsRow.lt a g hg).1 (World.ownsRow.lt a g hg).2),b,fun q hq => ⟨(k.block q.1 (c q hq).1.lt (hQ q.1 (c q hq).2.1 (c q hq).1.lt)).trans (c q hq).1,(c q hq).2⟩⟩
theorem Pair.fresh (h : Pair P Q R2 w0 u g p n f s d2) (hu : UpdQ R w u) (hR2 : ∀ b,R2 b → nw R w b) (hP : ∀ b,P b → b < W.heap.size) (hPR : ∀ b,P b → R b) (v1 : Value) (ps : List (List UInt8)) (hR : Recs W u v1 ps) (hF : Fine ps) (m : Nat) :
  ∀ y,Below (u.setCell ⟨g,1,none⟩ (.int .i64 (m : Int))).heap.size (u.setCell ⟨g,1,none⟩ (.int .i64 (m : Int))) y → Calls Tryz.prog 97 #[.pointer (some ⟨g,2,none⟩),v1] (lay9 y g 2 ⟨0,-1,0,0,0,⟨#[]⟩,⟨none,0,0⟩⟩ false false) (fun e z => e = .returned (.tuple #[]) ∧ Both (nw R w) w0 z g p m f (runAll empty ps) d2 ∧ UpdQ R w z) := by
 intro y k
 obtain ⟨a1,a2⟩ := h.wal.count m
 have b1 : Wal P y g p m f s := In.below a1 k
 have b2 : UpdQ P u y := a2.trans (UpdQ.of k)
 obtain ⟨c1,c2⟩ := b1.clear
 have c3 := b2.trans c2
 refine (wl_takeAll c1 v1 ps (hR.keep c3 fun b z z2 => by have := hP b z2; omega) hP hF).mono ?_
 rintro e z ⟨rfl,d1,d3⟩
 have hs := c3.size
 have e1 : Wal (nw P u) z g p m f (runAll empty ps) := In.mono d1 fun b t => t.elim .inl fun t => .inr (by omega)
 have e2 := c3.trans d3
 have hsz := hu.size
 refine ⟨rfl,Both.mono ⟨_,_,h.turn e1 e2⟩ fun b t => t.elim (hR2 b) fun t => .inr (by omega),hu.trans (e2.mono hPR)⟩
theorem chg_rem {x : World} (h : S Q w0 w p d) (hu : Below w.heap.size w x) (t : ByteArray) : Calls Tryz.prog 38 #[.pointer (some ⟨p,0,none⟩),.string t] x (ChgE Q w0 w p (remD d t)) :=
 (s_remove (h.tight.later hu) t).mono fun e w' z => ChgE.since h (UpdQ.of hu) (fun b z => .inl z.1) z
end
def layS (s : Sg) (d : D) (n : Nat) (h : H) : Int × Nat × Sg × D :=
 if (writeD d (n + 1) (frames (pays (whole h)))).1 ≠ 0 then ((writeD d (n + 1) (frames (pays (whole h)))).1,n,s,(writeD d (n + 1) (frames (pays (whole h)))).2)
 else if s.ready = false then (0,n + 1,runAll empty (pays (whole h)),(writeD d (n + 1) (frames (pays (whole h)))).2)
 else if (remD (writeD d (n + 1) (frames (pays (whole h)))).2 (wname n)).1 ≠ 0 then ((remD (writeD d (n + 1) (frames (pays (whole h)))).2 (wname n)).1,n,s,(remD (writeD d (n + 1) (frames (pays (whole h)))).2 (wname n)).2)
 else (0,n + 1,runAll empty (pays (whole h)),(remD (writeD d (n + 1) (frames (pays (whole h)))).2 (wname n)).2)
def AllE (R : Nat → Prop) (w0 w : World) (g p : Nat) (f : Bool) (x : Int × Nat × Sg × D) (e : Ending) (w' : World) : Prop := e = .returned (.int .i64 x.1) ∧ Both (nw R w) w0 w' g p x.2.1 f x.2.2.1 x.2.2.2 ∧ UpdQ R w w'
set_option maxHeartbeats 4000000 in
theorem wl_lay {R : Nat → Prop} {w0 w : World} {g p n : Nat} {f : Bool} {s : Sg} {d : D} (h : Both R w0 w g p n f s d) (hn : n + 1 < 100) (few : d.fs.length < 1000) (r' : Hd.T) (l' : List Et.T) (hl' : Et.Ls w r'.log.ao r'.log.n r'.log.cap l') (hd : ∀ e ∈ l',e.data.size ≤ 1100) (hn' : l'.length ≤ 200) (hf : HFit r') :
  Calls Tryz.prog 50 #[.pointer (some ⟨g,0,none⟩),Hd.val r'] w (AllE R w0 w g p f (layS s d n (Hd.h r' l'))) := by
 obtain ⟨P,Q,h⟩ := h
 obtain ⟨W,hW,hbW,hC⟩ := Hd.boxed1 w r'
 have HBW := Lib.hid hbW
 obtain ⟨ps,hps⟩ : ∃ ps,pays (whole (Hd.h r' l')) = ps := ⟨_,rfl⟩
 have hF : Fine ps := hps ▸ fine_whole hn' hd
 have HF := Lib.hid hF
 have HN := Lib.hid hn
 have CC : Hid (Calls Tryz.prog 98 #[Hd.val r'] W (fun e u' => ∃ v,e = .returned v ∧ Recs W u' v ps ∧ Below W.heap.size W u')) := Lib.hid (hps ▸ wl_whole r' l' W (hl'.below hbW) hd (by omega) hf)
 have HP := Lib.hid (h.later hbW)
 obtain ⟨k0,k1,k2,fz,hlt⟩ := HP.out.wal.cells
 obtain ⟨a,d1,hx⟩ : ∃ a d1,writeD d (n + 1) (frames ps) = (a,d1) := ⟨_,_,rfl⟩
 obtain ⟨b,d2,hy⟩ : ∃ b d2,remD d1 (wname n) = (b,d2) := ⟨_,_,rfl⟩
 have HX : Hid (layS s d n (Hd.h r' l') = (if a ≠ 0 then (a,n,s,d1) else if s.ready = false then (0,n + 1,runAll empty ps,d1) else if b ≠ 0 then (b,n,s,d2) else (0,n + 1,runAll empty ps,d2))) := Lib.hid (by unfold layS; rw [hps,hx]; dsimp only; rw [hy])
 have CW : Hid (∀ (u : World) (v : Value),Below W.heap.size W u → Recs W u v ps → Calls Tryz.prog 96 #[.pointer (some ⟨g,0,none⟩),.int .i64 ((n + 1 : Nat) : Int),v] u (fun e u' => e = .returned (.int .i64 a) ∧ Pair P (fun b => nw Q u b ∧ b < u'.heap.size) (nw R u) w0 u' g p n f s d1 ∧ UpdQ Q u u')) := Lib.hid fun u x k hx' => by
  have hP := HP.out.later k
  refine (wl_write hP.dsk hP.wal.cells.1 (hP.ap g hP.wal.pg) (n + 1) hn W x ps hx' hF few).mono ?_
  intro e u' z
  rw [hx] at z
  exact ⟨z.1,hP.disk z⟩
 have CR : Hid (∀ (u x : World) (Q2 R2 : Nat → Prop),Pair P Q2 R2 w0 u g p n f s d1 → Below u.heap.size u x → Calls Tryz.prog 38 #[.pointer (some ⟨p,0,none⟩),.string (wname n)] x (fun e u' => e = .returned (.int .i64 b) ∧ Pair P (fun b => nw Q2 u b ∧ b < u'.heap.size) (nw R2 u) w0 u' g p n f s d2 ∧ UpdQ Q2 u u')) := Lib.hid fun u x Q2 R2 hP k => by
  refine (chg_rem hP.dsk k (wname n)).mono ?_
  intro e u' z
  rw [hy] at z
  exact ⟨z.1,hP.disk z⟩
 have hsum : IntKind.i64.wrap ((n : Int) + 1) = ((n + 1 : Nat) : Int) := by rw [IntKind.wrap_i64]; omega
 unfold Hd.C at hC
 obtain ⟨a0,a1,a2,a3,a4,a5,a6⟩ := hC
 unfold Hd.val at CC ⊢
 clear h hl' hd hn' hf hps hF hx hy hbW few hn k0 k2 fz
 go_enter Tryz.func50,Tryz.ntmps50
 go_wp2_with fail
 refine CC.out.mono ?_
 rintro e u1 ⟨v1,rfl,r1,b1⟩
 have HR1 := Lib.hid r1
 have HB1 := Lib.hid b1
 have HBW1 := Lib.hid (bchain HBW.out b1)
 have k1' := ((bcell b1).1 _ _ (cell_lt k1)).trans k1
 have CW1 := Lib.hid (CW.out u1 v1 b1 r1)
 clear hW k1 a0 a1 a2 a3 a4 a5 a6 CW hlt r1 b1 CC
 go_wp2_with fail
 refine CW1.out.mono ?_
 rintro e u2 ⟨rfl,hp2,q2⟩
 have HP2 := Lib.hid hp2
 have HQ2 := Lib.hid q2
 have HU2 := Lib.hid ((UpdQ.of HBW1.out).trans (q2.mono HP.out.qr))
 have HR2 := Lib.hid (HR1.out.keep q2 fun b z z2 => by have := HP.out.ql b z2; omega)
 have HN2 : Hid (∀ b,nw R u1 b → nw R w b) := Lib.hid fun b z => z.imp id fun z => by have := HBW1.out.size; omega
 have rd := hp2.wal.isReady
 clear hp2 q2 CW1 k1'
 by_cases ha : a = 0
 ·
  subst ha
  cases hr : s.ready
  ·
   rw [hr] at rd
   have HX2 : Hid (layS s d n (Hd.h r' l') = (0,n + 1,runAll empty ps,d1)) := Lib.hid (by rw [HX.out,if_neg (fun z => z rfl),if_pos hr])
   obtain ⟨k0,k1,k2,fz,hlt⟩ := HP2.out.wal.cells
   have CT := Lib.hid (Pair.fresh HP2.out HU2.out HN2.out HP.out.pl HP.out.pr v1 ps HR2.out HF.out (n + 1))
   have CN := Lib.hid fun y (k : Below (u2.setCell ⟨g,1,none⟩ (.int .i64 ((n + 1 : Nat) : Int))).heap.size (u2.setCell ⟨g,1,none⟩ (.int .i64 ((n + 1 : Nat) : Int))) y) => (show Wal P y g p (n + 1) f s from In.below (HP2.out.wal.count (n + 1)).1 k)
   have f1 := fz 1
   clear HX k0 k2 fz
   go_wp2_with fail
   refine (wl_empty _).mono ?_
   rintro e uE ⟨rfl,bE⟩
   have hE := CN.out uE bE
   have CT2 := Lib.hid (CT.out uE bE)
   obtain ⟨_,_,_,fz,hlt2⟩ := hE.cells
   obtain ⟨i0,i1,i2,i3,i4,t,vo,vn,vc,b',c',e0,e1,e2,e3,e4,e5,e6,e7,e8⟩ := hE.nine
   clear hE CN CT bE
   go_wp2_with fail
   refine CT2.out.mono ?_
   rintro e u5 ⟨rfl,h5,q5⟩
   have H5 := Lib.hid h5
   have HQ5 := Lib.hid q5
   clear h5 q5 CT2
   go_wp2_with fail
   go_ret
   refine ⟨by rw [HX2.out]; rfl,?_,HQ5.out⟩
   rw [HX2.out]
   exact H5.out
  ·
   rw [hr] at rd
   obtain ⟨k0,k1,k2,fz,hlt⟩ := HP2.out.wal.cells
   have CR2 := Lib.hid (fun x k => CR.out u2 x _ _ HP2.out k)
   have lz : ∀ y,Below u2.heap.size u2 y → y.cell? ⟨g,0,none⟩ = some (.pointer (some ⟨p,0,none⟩)) ∧ y.cell? ⟨g,1,none⟩ = some (.int .i64 (n : Int)) := fun y k => ⟨((bcell k).1 _ _ hlt).trans k0,((bcell k).1 _ _ hlt).trans k1⟩
   clear CR k2
   go_wp2_with fail
   go_region_held3 (fun y => y.cell? ⟨g,0,none⟩ = some (.pointer (some ⟨p,0,none⟩)) ∧ y.cell? ⟨g,1,none⟩ = some (.int .i64 (n : Int))) (first | with_reducible assumption | (apply lz; repeat (first | with_reducible assumption | with_reducible apply Below.drew | with_reducible exact Below.refl _ _)) | fail) (first | (go_at_call 43; refine (wl_name n (by have := HN.out; omega) _).mono ?_; rintro e u ⟨rfl,hu⟩; rw [hu]; clear hu u) | (go_at_call 38; refine (CR2.out _ (by first | exact Below.refl _ _ | exact (Below.refl _ _).drew)).mono ?_; rintro e u3 ⟨rfl,hp3,q3⟩; have t3 : u3.cell? ⟨g,0,none⟩ = some (.pointer (some ⟨p,0,none⟩)) ∧ u3.cell? ⟨g,1,none⟩ = some (.int .i64 (n : Int)) := ⟨hp3.wal.cells.1,hp3.wal.cells.2.1⟩; have HP3 := Lib.hid hp3; have HQ3 := Lib.hid q3; clear hp3 q3 CR2) | fail)
   all_goals
    have HU3 := Lib.hid (upd_nw ((HU2.out.mono fun b z => .inl z).trans (HQ3.out.mono fun b z => HN2.out b (HP2.out.qr b z))))
    have HR3 := Lib.hid (HR1.out.keep2 (Q := nw Q u1) ((HQ2.out.mono fun b z => .inl z).trans (HQ3.out.mono fun b z => z.1)) fun b z z1 z2 => z2.elim (fun z2 => by have := HP.out.ql b z2; omega) fun z2 => by omega)
    have HN3 : Hid (∀ b,nw (nw R u1) u2 b → nw R w b) := Lib.hid fun b z => z.elim (HN2.out b) fun z => .inr (by have := HU2.out.size; omega)
    clear t3 HR1 HR2 k0 k1 fz hlt lz
    by_cases hb : b = 0
    ·
     subst hb
     have HX2 : Hid (layS s d n (Hd.h r' l') = (0,n + 1,runAll empty ps,d2)) := Lib.hid (by rw [HX.out,if_neg (fun z => z rfl),if_neg (by rw [hr]; simp),if_neg (fun z => z rfl)])
     obtain ⟨k0,k1,k2,fz,hlt⟩ := HP3.out.wal.cells
     have CT := Lib.hid (Pair.fresh HP3.out HU3.out HN3.out HP.out.pl HP.out.pr v1 ps HR3.out HF.out (n + 1))
     have CN := Lib.hid fun y (k : Below (u3.setCell ⟨g,1,none⟩ (.int .i64 ((n + 1 : Nat) : Int))).heap.size (u3.setCell ⟨g,1,none⟩ (.int .i64 ((n + 1 : Nat) : Int))) y) => (show Wal P y g p (n + 1) f s from In.below (HP3.out.wal.count (n + 1)).1 k)
     have f1 := fz 1
     clear HX k0 k2 fz
     go_wp2_with fail
     refine (wl_empty _).mono ?_
     rintro e uE ⟨rfl,bE⟩
     have hE := CN.out uE bE
     have CT2 := Lib.hid (CT.out uE bE)
     obtain ⟨_,_,_,fz,hlt2⟩ := hE.cells
     obtain ⟨i0,i1,i2,i3,i4,t,vo,vn,vc,b',c',e0,e1,e2,e3,e4,e5,e6,e7,e8⟩ := hE.nine
     clear hE CN CT bE
     go_wp2_with fail
     refine CT2.out.mono ?_
     rintro e u5 ⟨rfl,h5,q5⟩
     have H5 := Lib.hid h5
     have HQ5 := Lib.hid q5
     clear h5 q5 CT2
     go_wp2_with fail
     go_ret
     refine ⟨by rw [HX2.out]; rfl,?_,HQ5.out⟩
     rw [HX2.out]
     exact H5.out
    ·
     have qb : (b != 0) = true := bne_iff_ne.2 hb
     have HX2 : Hid (layS s d n (Hd.h r' l') = (b,n,s,d2)) := Lib.hid (by rw [HX.out,if_neg (fun z => z rfl),if_neg (by rw [hr]; simp),if_pos hb])
     clear HX
     go_wp2_with fail
     go_ret
     refine ⟨by rw [HX2.out]; rfl,?_,HU3.out⟩
     rw [HX2.out]
     exact Both.mono ⟨_,_,HP3.out⟩ HN3.out
 ·
  have qa : (a != 0) = true := bne_iff_ne.2 ha
  have HX2 : Hid (layS s d n (Hd.h r' l') = (a,n,s,d1)) := Lib.hid (by rw [HX.out,if_pos ha])
  clear HX CR
  go_wp2_with fail
  go_ret
  refine ⟨by rw [HX2.out]; rfl,?_,HU2.out⟩
  rw [HX2.out]
  exact Both.mono ⟨_,_,HP2.out⟩ HN2.out
end Go.Proofs.YtlmjeackfepllaaGreatDoor.Wl
namespace Go.Proofs.YtlmjeackfepllaaGreatDoor.Wl
open Go.RowKit
open Mem Dk
open Go.Sort (grow)
theorem more_ok : ∀ (l : List Et.T) (h : H),more h l = true → h.log.length ≤ 200 → (∀ e ∈ l,e.data.size ≤ 1100) ∧ h.log.length + l.length ≤ 200
 | [],h,_,k => ⟨fun e he => (by cases he),k⟩
 | e :: l,h,hm,k => by
  unfold more at hm
  rw [Bool.and_eq_true] at hm
  obtain ⟨h1,h2⟩ := hm
  have hf := fits_few h1
  obtain ⟨a,b⟩ := more_ok l (h.with (h.log ++ [e])) h2 (by show (h.log ++ [e]).length ≤ 200; rw [List.length_append]; show h.log.length + 1 ≤ 200; omega)
  have b' : (h.log ++ [e]).length + l.length ≤ 200 := b
  rw [List.length_append,List.length_singleton] at b'
  refine ⟨fun x hx => ?_,by rw [List.length_cons]; omega⟩
  rcases List.mem_cons.1 hx with rfl | hx
  ·
   unfold fits at h1
   simp only [Bool.and_eq_true,decide_eq_true_eq] at h1
   exact h1.2.2.2.2.1
  · exact a x hx
theorem right_ok {h : H} (k : right h = true) : (∀ e ∈ h.log,e.data.size ≤ 1100) ∧ h.log.length ≤ 200 ∧ headed h = true := by
 unfold right at k
 simp only [Bool.and_eq_true] at k
 obtain ⟨a,b,c⟩ := k
 obtain ⟨d,e⟩ := more_ok _ _ c (Nat.zero_le _)
 refine ⟨d,?_,a⟩
 have e' : 0 + h.log.length ≤ 200 := e
 omega
def saveS (n : Nat) (f : Bool) (s : Sg) (d : D) (h : H) : Int × Bool × Nat × Sg × D :=
 if right h = false then (1,f,n,s,d)
 else if f = true then (18,f,n,s,d)
 else if (s.ready && sameH s.h h) = true then (0,f,n,s,d)
 else if anewB s d n h = false then ((extS s d n h).1,((extS s d n h).1 != 0),n,(extS s d n h).2.1,(extS s d n h).2.2)
 else ((layS s d n h).1,((layS s d n h).1 != 0),(layS s d n h).2.1,(layS s d n h).2.2.1,(layS s d n h).2.2.2)
def SaveE (R : Nat → Prop) (w0 w : World) (g p : Nat) (x : Int × Bool × Nat × Sg × D) (e : Ending) (w' : World) : Prop := e = .returned (.int .i64 x.1) ∧ Both (nw R w) w0 w' g p x.2.2.1 x.2.1 x.2.2.2.1 x.2.2.2.2 ∧ UpdQ R w w'
section
variable {P Q R R2 T : Nat → Prop} {w0 w W u v : World} {g p n : Nat} {f : Bool} {s s' : Sg} {d d' d2 : D}
theorem tell_both (h : Both R w0 w g p n f s d) (e : Int) : Calls Tryz.prog 48 #[.pointer (some ⟨g,0,none⟩),.int .i64 e] w fun x w' => x = .returned (.int .i64 e) ∧ Both (nw R w) w0 w' g p n (e != 0) s d ∧ UpdQ R w w' := by
 obtain ⟨P,Q,h⟩ := h
 refine (wl_tell h.wal e).mono ?_
 rintro x w' ⟨rfl,a,b⟩
 have a' : Wal (nw P w) w' g p n (e != 0) s := In.mono a fun b z => .inl z
 exact ⟨rfl,⟨_,_,h.turn a' b⟩,b.mono h.pr⟩
theorem Both.nw (h : Both R w0 w g p n f s d) : Both (nw R w) w0 w g p n f s d := h.mono fun b z => .inl z
end
set_option maxHeartbeats 4000000 in
theorem wl_save {R : Nat → Prop} {w0 w : World} {g p n : Nat} {f : Bool} {s : Sg} {d : D} (h : Both R w0 w g p n f s d) (hn : n + 1 < 100) (few : d.fs.length < 1000) (r' : Hd.T) (l' : List Et.T) (hl' : Et.Ls w r'.log.ao r'.log.n r'.log.cap l') (hz : r'.snap.size ≤ 140737488355328) :
  Calls Tryz.prog 11 #[.pointer (some ⟨g,0,none⟩),Hd.val r'] w (SaveE R w0 w g p (saveS n f s d (Hd.h r' l'))) := by
 obtain ⟨W,hW,hbW,hC⟩ := Hd.boxed1 w r'
 have HBW := Lib.hid hbW
 have HB := Lib.hid (h.later hbW)
 have HL := Lib.hid (hl'.below hbW)
 have CR := Lib.hid (wl_right r' l' W HL.out hz)
 have HC := Lib.hid hC
 have HN := Lib.hid hn
 have HFw := Lib.hid few
 obtain ⟨rt,hrt⟩ : ∃ b,right (Hd.h r' l') = b := ⟨_,rfl⟩
 rw [hrt] at CR
 unfold Hd.C at hC
 obtain ⟨a0,a1,a2,a3,a4,a5,a6⟩ := hC
 unfold Hd.val at CR ⊢
 clear h hl' hz hbW few hn
 cases rt
 ·
  have HX : Hid (saveS n f s d (Hd.h r' l') = (1,f,n,s,d)) := Lib.hid (by unfold saveS; rw [if_pos hrt])
  go_enter Tryz.func11,Tryz.ntmps11
  go_wp2_with fail
  refine CR.out.mono ?_
  rintro e u ⟨rfl,bu⟩
  have HU := Lib.hid bu
  clear bu CR hW
  go_wp2_with fail
  go_ret
  refine ⟨by rw [HX.out]; rfl,?_,UpdQ.of (bchain HBW.out HU.out)⟩
  rw [HX.out]
  exact (HB.out.later HU.out).mono fun b z => .inl z
 obtain ⟨hd,hln,hhd⟩ := right_ok hrt
 obtain ⟨hbase,hft⟩ := headed_fit hhd
 obtain ⟨P,Q,hPr⟩ := HB.out
 obtain ⟨k0,k1,k11,_,hlt⟩ := hPr.wal.cells
 have rd := hPr.wal.isReady
 obtain ⟨v,hseg⟩ := hPr.wal
 obtain ⟨⟨vo,vn,vc⟩,hv⟩ : ∃ x,x = v := ⟨_,rfl⟩
 subst hv
 obtain ⟨c0,c1,c2,c3,c4,c5,c6,_,_⟩ := hseg.blk.cells
 unfold row at c0 c1 c2 c3 c4 c5 c6
 unfold sv at c6
 dsimp only at c0 c1 c2 c3 c4 c5 c6
 have lz : ∀ y,Below W.heap.size W y → (y.cell? ⟨g,10,none⟩ = some (.bool s.ready) ∧ y.cell? ⟨g,2,none⟩ = some (.int .i64 s.h.term) ∧ y.cell? ⟨g,3,none⟩ = some (.int .i64 s.h.vote) ∧ y.cell? ⟨g,4,none⟩ = some (.int .i64 s.h.base) ∧ y.cell? ⟨g,5,none⟩ = some (.int .i64 s.h.bt) ∧ y.cell? ⟨g,6,none⟩ = some (.int .i64 s.h.mem) ∧ y.cell? ⟨g,7,none⟩ = some (.string s.h.snap) ∧ y.cell? ⟨g,8,none⟩ = some (.slice vo vn vc) ∧ y.cell? ⟨w.heap.size,0,none⟩ = some (.int .i64 r'.term) ∧ y.cell? ⟨w.heap.size,1,none⟩ = some (.int .i64 r'.vote) ∧ y.cell? ⟨w.heap.size,2,none⟩ = some (.int .i64 r'.base) ∧ y.cell? ⟨w.heap.size,3,none⟩ = some (.int .i64 r'.bt) ∧ y.cell? ⟨w.heap.size,4,none⟩ = some (.int .i64 r'.mem) ∧ y.cell? ⟨w.heap.size,5,none⟩ = some (.string r'.snap) ∧ y.cell? ⟨w.heap.size,6,none⟩ = some (.slice r'.log.ao r'.log.n r'.log.cap)) ∧ y.cell? ⟨g,1,none⟩ = some (.int .i64 (n : Int)) ∧ y.cell? ⟨g,11,none⟩ = some (.bool f) := fun y k => ⟨⟨((bcell k).1 _ _ (cell_lt rd)).trans rd,((bcell k).1 _ _ (cell_lt c0)).trans c0,((bcell k).1 _ _ (cell_lt c1)).trans c1,((bcell k).1 _ _ (cell_lt c2)).trans c2,((bcell k).1 _ _ (cell_lt c3)).trans c3,((bcell k).1 _ _ (cell_lt c4)).trans c4,((bcell k).1 _ _ (cell_lt c5)).trans c5,((bcell k).1 _ _ (cell_lt c6)).trans c6,((bcell k).1 _ _ (cell_lt a0)).trans a0,((bcell k).1 _ _ (cell_lt a1)).trans a1,((bcell k).1 _ _ (cell_lt a2)).trans a2,((bcell k).1 _ _ (cell_lt a3)).trans a3,((bcell k).1 _ _ (cell_lt a4)).trans a4,((bcell k).1 _ _ (cell_lt a5)).trans a5,((bcell k).1 _ _ (cell_lt a6)).trans a6⟩,((bcell k).1 _ _ (cell_lt k1)).trans k1,((bcell k).1 _ _ (cell_lt k11)).trans k11⟩
 obtain ⟨sm,hsm⟩ : ∃ b,sameH s.h (Hd.h r' l') = b := ⟨_,rfl⟩
 obtain ⟨an,han⟩ : ∃ b,anewB s d n (Hd.h r' l') = b := ⟨_,rfl⟩
 obtain ⟨ea,es,ed,hex⟩ : ∃ a b c,extS s d n (Hd.h r' l') = (a,b,c) := ⟨_,_,_,rfl⟩
 obtain ⟨la,ln,ls,ld,hla⟩ : ∃ a b c e,layS s d n (Hd.h r' l') = (a,b,c,e) := ⟨_,_,_,_,rfl⟩
 have CS : Hid (∀ y,Below W.heap.size W y → Calls Tryz.prog 46 #[Hd.val (row s.h ⟨vo,vn,vc⟩),Hd.val r'] y (fun e w' => e = .returned (.bool sm) ∧ Below y.heap.size y w')) := Lib.hid fun y k => by
  have := wl_same (row s.h ⟨vo,vn,vc⟩) r' s.h.log l' y (hseg.ls.below k) (HL.out.below k)
  rw [h_row,hsm] at this
  exact this
 have CA : Hid (∀ y,Below W.heap.size W y → Calls Tryz.prog 47 #[.pointer (some ⟨g,0,none⟩),Hd.val r'] y (fun e w' => e = .returned (.bool an) ∧ Below W.heap.size W w')) := Lib.hid fun y k => by
  have := wl_anew (HB.out.later k) (by have := HN.out; omega) r' l'
  rw [han] at this
  exact this.mono fun e w' z => ⟨z.1,bchain k z.2⟩
 have hf : HFit r' := ⟨hft.1,hft.2.1,⟨by have : 0 ≤ r'.base := hbase.1; omega,by have : r'.base ≤ 1099511627776 := hbase.2; omega⟩,hft.2.2.1,hft.2.2.2⟩
 have CE : Hid (∀ y,Below W.heap.size W y → Calls Tryz.prog 49 #[.pointer (some ⟨g,0,none⟩),Hd.val r'] y (TwoE R w0 y g p n f (ea,es,ed))) := Lib.hid fun y k => by
  have := wl_extend (HB.out.later k) (by have := HN.out; omega) HFw.out r' l' (HL.out.below k) hd hln hf hbase
  rw [hex] at this
  exact this
 have CL : Hid (∀ y,Below W.heap.size W y → Calls Tryz.prog 50 #[.pointer (some ⟨g,0,none⟩),Hd.val r'] y (AllE R w0 y g p f (la,ln,ls,ld))) := Lib.hid fun y k => by
  have := wl_lay (HB.out.later k) HN.out HFw.out r' l' (HL.out.below k) hd hln hf
  rw [hla] at this
  exact this
 have HX : Hid (saveS n f s d (Hd.h r' l') = (if f = true then (18,f,n,s,d) else if (s.ready && sm) = true then (0,f,n,s,d) else if an = false then (ea,(ea != 0),n,es,ed) else (la,(la != 0),ln,ls,ld))) := Lib.hid (by unfold saveS; rw [if_neg (by rw [hrt]; simp),hsm,han,hex,hla])
 have hnn : ((n : Int) == 99999999999999) = false := beq_eq_false_iff_ne.2 (by have := HN.out; omega)
 unfold Hd.val row at CS
 unfold Hd.val at CA CE CL
 dsimp only at CS
 clear hPr hseg hd hln hhd hbase hft hf hex hla hsm han k0 hlt hrt HC
 go_enter Tryz.func11,Tryz.ntmps11
 go_wp2_with fail
 refine CR.out.mono ?_
 rintro e u ⟨rfl,bu⟩
 have HU := Lib.hid bu
 obtain ⟨SU,n1,f1⟩ := lz u bu
 have lu : ∀ y,Below u.heap.size u y → (y.cell? ⟨g,10,none⟩ = some (.bool s.ready) ∧ y.cell? ⟨g,2,none⟩ = some (.int .i64 s.h.term) ∧ y.cell? ⟨g,3,none⟩ = some (.int .i64 s.h.vote) ∧ y.cell? ⟨g,4,none⟩ = some (.int .i64 s.h.base) ∧ y.cell? ⟨g,5,none⟩ = some (.int .i64 s.h.bt) ∧ y.cell? ⟨g,6,none⟩ = some (.int .i64 s.h.mem) ∧ y.cell? ⟨g,7,none⟩ = some (.string s.h.snap) ∧ y.cell? ⟨g,8,none⟩ = some (.slice vo vn vc) ∧ y.cell? ⟨w.heap.size,0,none⟩ = some (.int .i64 r'.term) ∧ y.cell? ⟨w.heap.size,1,none⟩ = some (.int .i64 r'.vote) ∧ y.cell? ⟨w.heap.size,2,none⟩ = some (.int .i64 r'.base) ∧ y.cell? ⟨w.heap.size,3,none⟩ = some (.int .i64 r'.bt) ∧ y.cell? ⟨w.heap.size,4,none⟩ = some (.int .i64 r'.mem) ∧ y.cell? ⟨w.heap.size,5,none⟩ = some (.string r'.snap) ∧ y.cell? ⟨w.heap.size,6,none⟩ = some (.slice r'.log.ao r'.log.n r'.log.cap)) := fun y k => (lz y (bchain HU.out k)).1
 clear hW CR rd c0 c1 c2 c3 c4 c5 c6 a0 a1 a2 a3 a4 a5 a6 k1 k11 bu
 cases f
 ·
  cases hr : s.ready
  ·
   rw [hr] at SU lu lz
   have HX2 : Hid (saveS n false s d (Hd.h r' l') = (if an = false then (ea,(ea != 0),n,es,ed) else (la,(la != 0),ln,ls,ld))) := Lib.hid (by rw [HX.out,if_neg (by simp),if_neg (by rw [hr]; simp)])
   clear HX CS
   obtain ⟨d0,d1,d2,d3,d4,d5,d6,d7,e0,e1,e2,e3,e4,e5,e6⟩ := SU
   have d0' := cell_regrown d0
   have d1' := cell_regrown d1
   have d2' := cell_regrown d2
   have d3' := cell_regrown d3
   have d4' := cell_regrown d4
   have d5' := cell_regrown d5
   have d6' := cell_regrown d6
   have d7' := cell_regrown d7
   have e0' := cell_regrown e0
   have e1' := cell_regrown e1
   have e2' := cell_regrown e2
   have e3' := cell_regrown e3
   have e4' := cell_regrown e4
   have e5' := cell_regrown e5
   have e6' := cell_regrown e6
   go_wp2_with fail
   refine wp_region_quiet_below (by kernel_rfl) (by kernel_rfl) ?_
   repeat (first | go_big_quiet_step (fail) | quiet_step (fail))
   refine wpQuiet_nil ?_
   intro _ hw'
   obtain ⟨⟨dq,osq⟩,hw''⟩ := hw'
   subst hw''
   have b2 := bchain HU.out (below_regrown u dq osq)
   clear d0 d1 d2 d3 d4 d5 d6 d7 e0 e1 e2 e3 e4 e5 e6 d0' d1' d2' d3' d4' d5' d6' d7' e0' e1' e2' e3' e4' e5' e6'
   generalize grow (redrawn u dq) osq = u2 at *
   have H2 := Lib.hid b2
   obtain ⟨⟨d0,d1,d2,d3,d4,d5,d6,d7,e0,e1,e2,e3,e4,e5,e6⟩,n2,f2⟩ := lz u2 b2
   clear d0 d1 d2 d3 d4 d5 d6 d7 n2 f2 b2 n1 f1
   go_wp2_with fail
   refine (CA.out _ H2.out).mono ?_
   rintro e u3 ⟨rfl,b3⟩
   have H3 := Lib.hid b3
   have CE3 := Lib.hid (CE.out u3 b3)
   have CL3 := Lib.hid (CL.out u3 b3)
   obtain ⟨⟨d0,d1,d2,d3,d4,d5,d6,d7,e0,e1,e2,e3,e4,e5,e6⟩,n3,f3⟩ := lz u3 b3
   clear lz CA CE CL b3 d0 d1 d2 d3 d4 d5 d6 d7 f3
   cases an
   ·
    have HX3 : Hid (saveS n false s d (Hd.h r' l') = (ea,(ea != 0),n,es,ed)) := Lib.hid (by rw [HX2.out,if_pos rfl])
    clear HX2 CL3 n3
    go_wp2_with fail
    refine CE3.out.mono ?_
    rintro e u4 ⟨rfl,h4,q4⟩
    have CT := Lib.hid (tell_both h4 ea)
    have HQ4 := Lib.hid q4
    clear h4 q4 CE3 e0 e1 e2 e3 e4 e5 e6
    go_wp2_with fail
    refine CT.out.mono ?_
    rintro e u5 ⟨rfl,h5,q5⟩
    have H5 := Lib.hid h5
    have HQ5 := Lib.hid q5
    clear h5 q5 CT
    go_wp2_with fail
    go_ret
    have hw3 := (bchain HBW.out H3.out)
    have hs3 := hw3.size
    have hs4 := HQ4.out.size
    have kk : ∀ b,nw R u3 b → nw R w b := fun b z => z.imp id fun z => by omega
    have kk2 : ∀ b,nw (nw R u3) u4 b → nw R w b := fun b z => z.elim (kk b) fun z => .inr (by omega)
    refine ⟨by rw [HX3.out]; rfl,?_,upd_nw (((UpdQ.of hw3).trans (HQ4.out.mono fun b z => .inl z)).trans (HQ5.out.mono kk))⟩
    rw [HX3.out]
    exact H5.out.mono kk2
   ·
    have HX3 : Hid (saveS n false s d (Hd.h r' l') = (la,(la != 0),ln,ls,ld)) := Lib.hid (by rw [HX2.out,if_neg (by simp)])
    clear HX2 CE3
    go_wp2_with fail
    refine CL3.out.mono ?_
    rintro e u4 ⟨rfl,h4,q4⟩
    have CT := Lib.hid (tell_both h4 la)
    have HQ4 := Lib.hid q4
    clear h4 q4 CL3 e0 e1 e2 e3 e4 e5 e6 n3
    go_wp2_with fail
    refine CT.out.mono ?_
    rintro e u5 ⟨rfl,h5,q5⟩
    have H5 := Lib.hid h5
    have HQ5 := Lib.hid q5
    clear h5 q5 CT
    go_wp2_with fail
    go_ret
    have hw3 := (bchain HBW.out H3.out)
    have hs3 := hw3.size
    have hs4 := HQ4.out.size
    have kk : ∀ b,nw R u3 b → nw R w b := fun b z => z.imp id fun z => by omega
    have kk2 : ∀ b,nw (nw R u3) u4 b → nw R w b := fun b z => z.elim (kk b) fun z => .inr (by omega)
    refine ⟨by rw [HX3.out]; rfl,?_,upd_nw (((UpdQ.of hw3).trans (HQ4.out.mono fun b z => .inl z)).trans (HQ5.out.mono kk))⟩
    rw [HX3.out]
    exact H5.out.mono kk2
  ·
   rw [hr] at SU lu lz
   cases sm
   ·
    have HX2 : Hid (saveS n false s d (Hd.h r' l') = (if an = false then (ea,(ea != 0),n,es,ed) else (la,(la != 0),ln,ls,ld))) := Lib.hid (by rw [HX.out,if_neg (by simp),if_neg (by rw [hr]; simp)])
    clear HX
    have cS := fun i os => Calls.regrown_of (CS.out _ (bchain HU.out (below_regrown u i os)))
    obtain ⟨d0,d1,d2,d3,d4,d5,d6,d7,e0,e1,e2,e3,e4,e5,e6⟩ := SU
    have d0' := cell_regrown d0
    have d1' := cell_regrown d1
    have d2' := cell_regrown d2
    have d3' := cell_regrown d3
    have d4' := cell_regrown d4
    have d5' := cell_regrown d5
    have d6' := cell_regrown d6
    have d7' := cell_regrown d7
    have e0' := cell_regrown e0
    have e1' := cell_regrown e1
    have e2' := cell_regrown e2
    have e3' := cell_regrown e3
    have e4' := cell_regrown e4
    have e5' := cell_regrown e5
    have e6' := cell_regrown e6
    go_wp2_with fail
    refine wp_region_quiet_below (by kernel_rfl) (by kernel_rfl) ?_
    repeat (first | go_big_quiet_step (first | (go_at_call 46; exact cS _ _)) | quiet_step (first | (go_at_call 46; exact cS _ _)))
    refine wpQuiet_nil ?_
    intro _ hw'
    obtain ⟨⟨dq,osq⟩,hw''⟩ := hw'
    subst hw''
    have b2 := bchain HU.out (below_regrown u dq osq)
    clear d0 d1 d2 d3 d4 d5 d6 d7 e0 e1 e2 e3 e4 e5 e6 d0' d1' d2' d3' d4' d5' d6' d7' e0' e1' e2' e3' e4' e5' e6'
    generalize grow (redrawn u dq) osq = u2 at *
    have H2 := Lib.hid b2
    obtain ⟨⟨d0,d1,d2,d3,d4,d5,d6,d7,e0,e1,e2,e3,e4,e5,e6⟩,n2,f2⟩ := lz u2 b2
    clear d0 d1 d2 d3 d4 d5 d6 d7 n2 f2 b2 n1 f1
    clear cS CS
    go_wp2_with fail
    refine (CA.out _ H2.out).mono ?_
    rintro e u3 ⟨rfl,b3⟩
    have H3 := Lib.hid b3
    have CE3 := Lib.hid (CE.out u3 b3)
    have CL3 := Lib.hid (CL.out u3 b3)
    obtain ⟨⟨d0,d1,d2,d3,d4,d5,d6,d7,e0,e1,e2,e3,e4,e5,e6⟩,n3,f3⟩ := lz u3 b3
    clear lz CA CE CL b3 d0 d1 d2 d3 d4 d5 d6 d7 f3
    cases an
    ·
     have HX3 : Hid (saveS n false s d (Hd.h r' l') = (ea,(ea != 0),n,es,ed)) := Lib.hid (by rw [HX2.out,if_pos rfl])
     clear HX2 CL3 n3
     go_wp2_with fail
     refine CE3.out.mono ?_
     rintro e u4 ⟨rfl,h4,q4⟩
     have CT := Lib.hid (tell_both h4 ea)
     have HQ4 := Lib.hid q4
     clear h4 q4 CE3 e0 e1 e2 e3 e4 e5 e6
     go_wp2_with fail
     refine CT.out.mono ?_
     rintro e u5 ⟨rfl,h5,q5⟩
     have H5 := Lib.hid h5
     have HQ5 := Lib.hid q5
     clear h5 q5 CT
     go_wp2_with fail
     go_ret
     have hw3 := (bchain HBW.out H3.out)
     have hs3 := hw3.size
     have hs4 := HQ4.out.size
     have kk : ∀ b,nw R u3 b → nw R w b := fun b z => z.imp id fun z => by omega
     have kk2 : ∀ b,nw (nw R u3) u4 b → nw R w b := fun b z => z.elim (kk b) fun z => .inr (by omega)
     refine ⟨by rw [HX3.out]; rfl,?_,upd_nw (((UpdQ.of hw3).trans (HQ4.out.mono fun b z => .inl z)).trans (HQ5.out.mono kk))⟩
     rw [HX3.out]
     exact H5.out.mono kk2
    ·
     have HX3 : Hid (saveS n false s d (Hd.h r' l') = (la,(la != 0),ln,ls,ld)) := Lib.hid (by rw [HX2.out,if_neg (by simp)])
     clear HX2 CE3
     go_wp2_with fail
     refine CL3.out.mono ?_
     rintro e u4 ⟨rfl,h4,q4⟩
     have CT := Lib.hid (tell_both h4 la)
     have HQ4 := Lib.hid q4
     clear h4 q4 CL3 e0 e1 e2 e3 e4 e5 e6 n3
     go_wp2_with fail
     refine CT.out.mono ?_
     rintro e u5 ⟨rfl,h5,q5⟩
     have H5 := Lib.hid h5
     have HQ5 := Lib.hid q5
     clear h5 q5 CT
     go_wp2_with fail
     go_ret
     have hw3 := (bchain HBW.out H3.out)
     have hs3 := hw3.size
     have hs4 := HQ4.out.size
     have kk : ∀ b,nw R u3 b → nw R w b := fun b z => z.imp id fun z => by omega
     have kk2 : ∀ b,nw (nw R u3) u4 b → nw R w b := fun b z => z.elim (kk b) fun z => .inr (by omega)
     refine ⟨by rw [HX3.out]; rfl,?_,upd_nw (((UpdQ.of hw3).trans (HQ4.out.mono fun b z => .inl z)).trans (HQ5.out.mono kk))⟩
     rw [HX3.out]
     exact H5.out.mono kk2
   ·
    have HX2 : Hid (saveS n false s d (Hd.h r' l') = (0,false,n,s,d)) := Lib.hid (by rw [HX.out,if_neg (by simp),if_pos (by rw [hr]; rfl)])
    clear HX CA CE CL
    have cS := fun i os => Calls.regrown_of (CS.out _ (bchain HU.out (below_regrown u i os)))
    obtain ⟨d0,d1,d2,d3,d4,d5,d6,d7,e0,e1,e2,e3,e4,e5,e6⟩ := SU
    have d0' := cell_regrown d0
    have d1' := cell_regrown d1
    have d2' := cell_regrown d2
    have d3' := cell_regrown d3
    have d4' := cell_regrown d4
    have d5' := cell_regrown d5
    have d6' := cell_regrown d6
    have d7' := cell_regrown d7
    have e0' := cell_regrown e0
    have e1' := cell_regrown e1
    have e2' := cell_regrown e2
    have e3' := cell_regrown e3
    have e4' := cell_regrown e4
    have e5' := cell_regrown e5
    have e6' := cell_regrown e6
    go_wp2_with fail
    refine wp_region_quiet_below (by kernel_rfl) (by kernel_rfl) ?_
    repeat (first | go_big_quiet_step (first | (go_at_call 46; exact cS _ _)) | quiet_step (first | (go_at_call 46; exact cS _ _)))
    refine wpQuiet_nil ?_
    intro _ hw'
    obtain ⟨⟨dq,osq⟩,hw''⟩ := hw'
    subst hw''
    have b2 := bchain HU.out (below_regrown u dq osq)
    clear d0 d1 d2 d3 d4 d5 d6 d7 e0 e1 e2 e3 e4 e5 e6 d0' d1' d2' d3' d4' d5' d6' d7' e0' e1' e2' e3' e4' e5' e6'
    generalize grow (redrawn u dq) osq = u2 at *
    have H2 := Lib.hid b2
    obtain ⟨⟨d0,d1,d2,d3,d4,d5,d6,d7,e0,e1,e2,e3,e4,e5,e6⟩,n2,f2⟩ := lz u2 b2
    clear d0 d1 d2 d3 d4 d5 d6 d7 n2 f2 b2 n1 f1
    clear cS CS
    go_wp2_with fail
    go_ret
    refine ⟨by rw [HX2.out]; rfl,?_,UpdQ.of (bchain HBW.out H2.out)⟩
    rw [HX2.out]
    exact (HB.out.later H2.out).mono fun b z => .inl z
 ·
  have HX2 : Hid (saveS n true s d (Hd.h r' l') = (18,true,n,s,d)) := Lib.hid (by rw [HX.out,if_pos rfl])
  clear HX CS CA CE CL lz lu
  go_wp2_with fail
  go_ret
  refine ⟨by rw [HX2.out]; rfl,?_,UpdQ.of (bchain HBW.out HU.out)⟩
  rw [HX2.out]
  exact (HB.out.later HU.out).mono fun b z => .inl z
end Go.Proofs.YtlmjeackfepllaaGreatDoor.Wl
namespace Go.Proofs.YtlmjeackfepllaaGreatDoor.Wl
open Pk
def sound (h : H) : Bool := headed h && more (h.with []) h.log
theorem right_sound {h : H} (k : right h = true) : sound h = true := by
 unfold right at k
 unfold sound
 simp only [Bool.and_eq_true] at k ⊢
 exact ⟨k.1,k.2.2⟩
theorem fits_eq {a b : H} (h1 : a.term = b.term) (h2 : a.base = b.base) (h3 : a.bt = b.bt) (h4 : a.log = b.log) (e : Et.T) : fits a e = fits b e := by
 unfold fits last lastTerm
 rw [h1,h2,h3,h4]
theorem more_eq : ∀ (l : List Et.T) {a b : H},a.term = b.term → a.base = b.base → a.bt = b.bt → a.log = b.log → more a l = more b l
 | [],_,_,_,_,_,_ => rfl
 | e :: l,a,b,h1,h2,h3,h4 => by
  rw [more,more,fits_eq h1 h2 h3 h4,more_eq l (a := a.with (a.log ++ [e])) (b := b.with (b.log ++ [e])) h1 h2 h3 (by show a.log ++ [e] = b.log ++ [e]; rw [h4])]
theorem more_app : ∀ (l m : List Et.T) (h : H),more h (l ++ m) = (more h l && more (h.with (h.log ++ l)) m)
 | [],m,h => by
  rw [List.nil_append,more,Bool.true_and,List.append_nil]
  rfl
 | e :: l,m,h => by
  rw [List.cons_append,more,more,more_app l m,Bool.and_assoc]
  congr 2
  show more (h.with ((h.log ++ [e]) ++ l)) m = _
  rw [List.append_assoc]
  rfl
theorem fits_term {h : H} {e : Et.T} (k : fits h e = true) {t : Int} (ht : h.term ≤ t) (v : Int) : fits (h.vote' t v) e = true := by
 unfold fits last lastTerm within H.vote' at *
 simp only [Bool.and_eq_true,decide_eq_true_eq] at k ⊢
 obtain ⟨k1,k2,⟨k3,k4⟩,k5⟩ := k
 exact ⟨k1,k2,⟨k3,Int.le_trans k4 ht⟩,k5⟩
theorem more_term {t : Int} (v : Int) : ∀ (l : List Et.T) {h : H},h.term ≤ t → more h l = true → more (h.vote' t v) l = true
 | [],_,_,_ => rfl
 | e :: l,h,ht,k => by
  rw [more,Bool.and_eq_true] at k ⊢
  exact ⟨fits_term k.1 ht v,more_term v l (h := h.with (h.log ++ [e])) ht k.2⟩
theorem more_take {h : H} {l : List Et.T} (k : more h l = true) (n : Nat) : more h (l.take n) = true := by
 rw [← List.take_append_drop n l,more_app,Bool.and_eq_true] at k
 exact k.1
theorem more_drop {h : H} {l : List Et.T} (k : more h l = true) (n : Nat) : more (h.with (h.log ++ l.take n)) (l.drop n) = true := by
 rw [← List.take_append_drop n l,more_app,Bool.and_eq_true] at k
 exact k.2
theorem with_self (h : H) : h.with h.log = h := rfl
theorem with_self' (s : Sg) : s.with s.h = s := rfl
theorem headed_top {h : H} (k : headed h = true) : (0 ≤ h.term ∧ h.term ≤ top) ∧ (-1 ≤ h.vote ∧ h.vote ≤ 6) ∧ (0 ≤ h.base ∧ h.base ≤ top) ∧ (0 ≤ h.bt ∧ h.bt ≤ h.term) ∧ (1 ≤ h.mem ∧ h.mem ≤ 127) := by
 unfold headed within at k
 simp only [Bool.and_eq_true,decide_eq_true_eq] at k
 exact ⟨k.1,k.2.1,k.2.2.1,k.2.2.2.1,k.2.2.2.2.2⟩
theorem fits_ok {h : H} {e : Et.T} (hd : h.term ≤ top) (k : fits h e = true) : (Rec.ent e).Ok := by
 unfold fits within at k
 unfold top at hd
 simp only [Bool.and_eq_true,decide_eq_true_eq] at k
 obtain ⟨_,_,⟨k1,k2⟩,⟨k3,k4⟩,k5,_⟩ := k
 have hm : (1 : Int) ≤ max 1 (lastTerm h) := Int.le_max_left _ _
 exact ⟨⟨by omega,by omega⟩,⟨by omega,by omega⟩,k5⟩
theorem take_pay {s : Sg} {r : Rec} (h : r.Ok) : take s (pay r) = step s r := by
 unfold take
 rw [parse_pay h]
 rfl
theorem ents_ok : ∀ (l : List Et.T) {h : H},h.term ≤ top → more h l = true → ∀ e ∈ l,(Rec.ent e).Ok
 | [],_,_,_,e,he => by cases he
 | x :: l,h,ht,k,e,he => by
  rw [more,Bool.and_eq_true] at k
  rcases List.mem_cons.1 he with rfl | he
  · exact fits_ok ht k.1
  · exact ents_ok l (h := h.with (h.log ++ [x])) ht k.2 e he
theorem takes_ents : ∀ (l : List Et.T) (s : Sg),s.begun = true → s.h.term ≤ top → more s.h l = true → takes s (pays (ents l)) = some (s.with (s.h.with (s.h.log ++ l)))
 | [],s,_,_,_ => by
  show some s = _
  rw [List.append_nil]
  rfl
 | e :: l,s,hb,ht,k => by
  rw [more,Bool.and_eq_true] at k
  show (take s (pay (.ent e))).bind (fun s' => takes s' (pays (ents l))) = _
  rw [take_pay (fits_ok ht k.1),show step s (.ent e) = addS s e from rfl]
  unfold addS
  rw [if_neg (by rw [hb]; simp),if_neg (by rw [k.1]; simp)]
  show takes (s.with (s.h.with (s.h.log ++ [e]))) (pays (ents l)) = _
  rw [takes_ents l (s.with (s.h.with (s.h.log ++ [e]))) hb ht k.2]
  show some (s.with (s.h.with ((s.h.log ++ [e]) ++ l))) = _
  rw [List.append_assoc]
  rfl
structure Wf (s : Sg) : Prop where
 snap : s.h.snap = .empty
 rb : s.ready = true → s.begun = true
 hd : s.begun = true → headed s.h = true
 mo : s.begun = true → more (s.h.with []) s.h.log = true
theorem wf_empty : Wf empty := ⟨rfl,fun h => (by cases h),fun h => (by cases h),fun h => (by cases h)⟩
theorem wf_step {s s' : Sg} (h : Wf s) {r : Rec} (k : step s r = some s') : Wf s' := by
 cases r with
 | beg t v b c m =>
  unfold step beginS at k
  dsimp only at k
  split at k
  · cases k
  split at k
  · cases k
  rename_i k1 k2
  cases k
  exact ⟨rfl,fun _ => rfl,fun _ => by (have := k2; simpa using this),fun _ => rfl⟩
 | ent e =>
  unfold step addS at k
  dsimp only at k
  split at k
  · cases k
  split at k
  · cases k
  rename_i k1 k2
  cases k
  have hb : s.begun = true := by simpa using k1
  refine ⟨h.snap,h.rb,fun z => h.hd z,fun z => ?_⟩
  show more (s.h.with []) (s.h.log ++ [e]) = true
  rw [more_app,Bool.and_eq_true]
  refine ⟨h.mo hb,?_⟩
  show (fits (s.h.with ([] ++ s.h.log)) e && true) = true
  rw [Bool.and_true,List.nil_append]
  have : fits s.h e = true := by simpa using k2
  exact this
 | rdy =>
  unfold step closeS at k
  dsimp only at k
  split at k
  · cases k
  split at k
  · cases k
  rename_i k1 k2
  cases k
  have hb : s.begun = true := by simpa using k1
  exact ⟨h.snap,fun _ => hb,h.hd,h.mo⟩
 | vot t v =>
  unfold step voteS at k
  dsimp only at k
  split at k
  · cases k
  split at k
  · cases k
  split at k
  · cases k
  split at k
  · cases k
  rename_i k1 k2 k3 k4
  cases k
  have hr : s.ready = true := by simpa using k1
  refine ⟨h.snap,h.rb,fun z => (Bool.not_eq_false (headed (s.h.vote' t v))).mp k4,fun z => ?_⟩
  exact more_term v _ (by show s.h.term ≤ t; omega) (h.mo (h.rb hr))
 | cut n =>
  unfold step cutS at k
  dsimp only at k
  split at k
  · cases k
  split at k
  · cases k
  rename_i k1 k2
  cases k
  have hr : s.ready = true := by simpa using k1
  refine ⟨h.snap,h.rb,fun z => h.hd z,fun z => ?_⟩
  exact more_take (h.mo (h.rb hr)) _
theorem wf_take {s s' : Sg} (h : Wf s) {p : List UInt8} (k : take s p = some s') : Wf s' := by
 unfold take at k
 cases e : parse p with
 | none => rw [e] at k; cases k
 | some r => rw [e] at k; exact wf_step h k
theorem wf_takes : ∀ (ps : List (List UInt8)) {s s' : Sg},Wf s → takes s ps = some s' → Wf s'
 | [],s,s',h,k => by cases k; exact h
 | p :: l,s,s',h,k => by
  obtain ⟨m,h1,h2⟩ := takes_cons k
  exact wf_takes l (wf_take h h1) h2
theorem wf_read (bs : List UInt8) : Wf (read bs).1 := by
 obtain ⟨ps,_,h,_⟩ := rd_split _ bs empty (Nat.le_refl _)
 exact wf_takes ps wf_empty h
theorem headed_with (h : H) (l : List Et.T) : headed (h.with l) = headed h := rfl
theorem headed_bare (h : H) : headed h.bare = headed h := rfl
theorem pays_cat (a b : List Rec) : pays (a ++ b) = pays a ++ pays b := List.map_append
theorem beg_ok {h : H} (k : headed h = true) : (Rec.beg h.term h.vote h.base h.bt h.mem).Ok := by
 obtain ⟨h1,h2,h3,h4,h5⟩ := headed_top k
 unfold top at h1 h3
 exact ⟨⟨by omega,by omega⟩,⟨by omega,by omega⟩,⟨by omega,by omega⟩,⟨by omega,by omega⟩,⟨by omega,by omega⟩⟩
theorem take_beg {g : H} (k : headed g = true) : take empty (pay (.beg g.term g.vote g.base g.bt g.mem)) = some ⟨g.bare.with [],true,false⟩ := by
 rw [take_pay (beg_ok k)]
 show beginS empty _ = _
 unfold beginS
 rw [if_neg (by show ¬ (false = true); simp),if_neg (by show ¬ (headed (g.bare.with []) = false); rw [show headed (g.bare.with []) = headed g from rfl,k]; simp)]
 rfl
theorem sound_parts {g : H} (hs : sound g = true) : headed g = true ∧ more (g.bare.with []) g.log = true := by
 unfold sound at hs
 rw [Bool.and_eq_true] at hs
 refine ⟨hs.1,?_⟩
 rw [← hs.2]
 exact more_eq _ rfl rfl rfl rfl
theorem takes_whole {g : H} (hs : sound g = true) : takes empty (pays (whole g)) = some ⟨g.bare,true,true⟩ := by
 obtain ⟨h1,h2⟩ := sound_parts hs
 have ht := (headed_top h1).1.2
 show (take empty (pay (.beg g.term g.vote g.base g.bt g.mem))).bind (fun s' => takes s' (pays (ents g.log ++ [.rdy]))) = _
 rw [take_beg h1,pays_cat]
 show takes ⟨g.bare.with [],true,false⟩ (pays (ents g.log) ++ pays [.rdy]) = _
 rw [takes_app,takes_ents g.log ⟨g.bare.with [],true,false⟩ rfl ht h2]
 show (take ⟨g.bare,true,false⟩ (pay .rdy)).bind (fun s' => some s') = _
 rw [take_pay (r := .rdy) trivial]
 rfl
theorem ready_part {s : Sg} : ∀ (rs : List Rec) {s s' : Sg},(∀ r ∈ rs,r.Ok ∧ r ≠ .rdy) → takes s (pays rs) = some s' → s'.ready = s.ready
 | [],s,s',_,k => by cases k; rfl
 | r :: l,s,s',h,k => by
  obtain ⟨m,h1,h2⟩ := takes_cons (l := pays l) k
  rw [ready_part (s := s) l (fun x hx => h x (List.mem_cons_of_mem _ hx)) h2]
  obtain ⟨a,b⟩ := h r (List.mem_cons_self ..)
  rw [take_pay a] at h1
  cases r with
  | beg t v b c m =>
   unfold step beginS at h1
   dsimp only at h1
   split at h1
   · cases h1
   split at h1
   · cases h1
   cases h1
   rfl
  | ent e =>
   unfold step addS at h1
   dsimp only at h1
   split at h1
   · cases h1
   split at h1
   · cases h1
   cases h1
   rfl
  | rdy => exact absurd rfl b
  | vot t v =>
   unfold step voteS at h1
   dsimp only at h1
   split at h1
   · cases h1
   split at h1
   · cases h1
   split at h1
   · cases h1
   split at h1
   · cases h1
   cases h1
   rfl
  | cut n =>
   unfold step cutS at h1
   dsimp only at h1
   split at h1
   · cases h1
   split at h1
   · cases h1
   cases h1
   rfl
theorem whole_len (g : H) : (pays (whole g)).length = g.log.length + 2 := by
 unfold pays whole ents
 simp
theorem whole_part {g : H} (hs : sound g = true) {j : Nat} (hj : j < (pays (whole g)).length) {sj : Sg} (h : takes empty ((pays (whole g)).take j) = some sj) : sj.ready = false := by
 obtain ⟨h1,h2⟩ := sound_parts hs
 have e : (pays (whole g)).take j = pays ((.beg g.term g.vote g.base g.bt g.mem :: ents g.log).take j) := by
  rw [whole_len] at hj
  unfold whole pays
  rw [← List.map_take,← List.cons_append,List.take_append_of_le_length (by unfold ents; simp; omega)]
 rw [e] at h
 refine ready_part (s := empty) _ (fun r hr => ?_) h
 have hr := List.mem_of_mem_take hr
 rcases List.mem_cons.1 hr with rfl | hr
 · exact ⟨beg_ok h1,fun z => by cases z⟩
 ·
  obtain ⟨x,hx,rfl⟩ := List.mem_map.1 hr
  exact ⟨ents_ok g.log (h := g.bare.with []) (headed_top h1).1.2 h2 x hx,fun z => by cases z⟩
theorem begun_take : ∀ a b : List Et.T,a.take (begun a b) = b.take (begun a b)
 | [],b => by
  have : begun [] b = 0 := by cases b <;> rfl
  rw [this]
  rfl
 | x :: a,[] => rfl
 | x :: a,y :: b => by
  rw [begun]
  split
  ·
   rename_i h
   rw [List.take_succ_cons,List.take_succ_cons,begun_take a b]
   congr 1
   cases x
   cases y
   simp only [Et.T.mk.injEq]
   exact h
  · rfl
structure Near (s : Sg) (g : H) : Prop where
 wf : Wf s
 rdy : s.ready = true
 snd : sound g = true
 base : s.h.base = g.base
 bt : s.h.bt = g.bt
 mem : s.h.mem = g.mem
 term : s.h.term ≤ g.term
 vote : g.term = s.h.term → s.h.vote = -1 ∨ g.vote = s.h.vote
def recA (was h : H) : List Rec := if h.term ≠ was.term ∨ h.vote ≠ was.vote then [.vot h.term h.vote] else []
def recB (was h : H) : List Rec := if begun was.log h.log < was.log.length then [.cut (h.base + (begun was.log h.log : Int))] else []
theorem change_eq (was h : H) : change was h = recA was h ++ (recB was h ++ ents (h.log.drop (begun was.log h.log))) := rfl
theorem recA_len (was h : H) : (recA was h).length ≤ 1 := by unfold recA; split <;> simp
theorem recB_len (was h : H) : (recB was h).length ≤ 1 := by unfold recB; split <;> simp
section
variable {s : Sg} {g : H}
theorem Near.headed (h : Near s g) : headed (s.h.vote' g.term g.vote) = true := by
 rw [← (sound_parts h.snd).1]
 unfold Wl.headed H.vote'
 simp only [h.base,h.bt,h.mem]
theorem Near.takesA (h : Near s g) : takes s (pays (recA s.h g)) = some (s.with (s.h.vote' g.term g.vote)) := by
 unfold recA
 split
 ·
  rename_i k
  obtain ⟨h1,h2,h3,h4,h5⟩ := headed_top (sound_parts h.snd).1
  unfold top at h1
  have ok : (Rec.vot g.term g.vote).Ok := ⟨⟨by omega,by omega⟩,⟨by omega,by omega⟩⟩
  show (take s (pay (.vot g.term g.vote))).bind (fun s' => some s') = _
  rw [take_pay ok]
  show (voteS s g.term g.vote).bind _ = _
  unfold voteS
  have ht := h.term
  rw [if_neg (by rw [h.rdy]; simp),if_neg (by omega),if_neg ?_,if_neg (by rw [h.headed]; simp)]
  · rfl
  ·
   rintro ⟨z1,z2⟩
   rcases h.vote z1 with z | z
   · exact z2 z
   · exact k.elim (fun y => y z1) fun y => y z
 ·
  rename_i k
  have e1 : g.term = s.h.term := Decidable.not_not.1 fun z => k (.inl z)
  have e2 : g.vote = s.h.vote := Decidable.not_not.1 fun z => k (.inr z)
  show some s = _
  rw [e1,e2]
  rfl
theorem Near.takesB (h : Near s g) : takes (s.with (s.h.vote' g.term g.vote)) (pays (recB s.h g)) = some (s.with (g.bare.with (g.log.take (begun s.h.log g.log)))) := by
 have hle := begun_le s.h.log g.log
 have ht := begun_take s.h.log g.log
 have hs : s.h.vote' g.term g.vote = g.bare.with s.h.log := by
  unfold H.vote' H.bare H.with
  simp only [h.base,h.bt,h.mem,h.wf.snap]
 rw [hs]
 unfold recB
 split
 ·
  rename_i k
  obtain ⟨h1,h2,h3,h4,h5⟩ := headed_top (sound_parts h.snd).1
  have hfew : s.h.log.length ≤ 200 := by
   have := (more_ok _ _ (h.wf.mo (h.wf.rb h.rdy)) (Nat.zero_le _)).2
   have e : (s.h.with []).log.length = 0 := rfl
   omega
  unfold top at h3
  have ok : (Rec.cut (g.base + (begun s.h.log g.log : Int))).Ok := ⟨by omega,by omega⟩
  show (take (s.with (g.bare.with s.h.log)) (pay (.cut (g.base + (begun s.h.log g.log : Int))))).bind (fun s' => some s') = _
  rw [take_pay ok]
  show (cutS _ _).bind _ = _
  unfold cutS
  rw [if_neg (by show ¬ s.ready = false; rw [h.rdy]; simp),if_neg ?_]
  ·
   show some (s.with (g.bare.with (s.h.log.take (g.base + (begun s.h.log g.log : Int) - g.base).toNat))) = _
   rw [show (g.base + (begun s.h.log g.log : Int) - g.base).toNat = begun s.h.log g.log by omega,ht]
  ·
   show ¬ within _ g.base (g.base + (s.h.log.length : Int)) = false
   unfold within
   rw [Bool.not_eq_false,Bool.and_eq_true,decide_eq_true_eq,decide_eq_true_eq]
   omega
 ·
  rename_i k
  rw [← ht,List.take_of_length_le (by omega)]
  rfl
theorem Near.takesC (h : Near s g) (m : Nat) : takes (s.with (g.bare.with (g.log.take (begun s.h.log g.log)))) (pays (ents ((g.log.drop (begun s.h.log g.log)).take m))) = some (s.with (g.bare.with (g.log.take (begun s.h.log g.log + m)))) := by
 obtain ⟨h1,h2⟩ := sound_parts h.snd
 rw [takes_ents _ (s.with (g.bare.with (g.log.take (begun s.h.log g.log)))) (h.wf.rb h.rdy) (headed_top h1).1.2 (more_take (more_drop h2 _) m)]
 show some (s.with (g.bare.with (g.log.take (begun s.h.log g.log) ++ (g.log.drop (begun s.h.log g.log)).take m))) = _
 rw [← List.take_add]
theorem Near.all (h : Near s g) : takes s (pays (change s.h g)) = some (s.with g.bare) := by
 rw [change_eq,pays_cat,pays_cat,takes_app,h.takesA]
 show takes _ _ = _
 rw [takes_app,h.takesB]
 show takes _ _ = _
 have := h.takesC (g.log.drop (begun s.h.log g.log)).length
 rw [List.take_length] at this
 rw [this,List.take_of_length_le (by rw [List.length_drop]; omega)]
 rfl
def Part (a g x : H) : Prop := x = a ∨ x = a.vote' g.term g.vote ∨ ∃ m,m ≤ g.log.length ∧ x = g.bare.with (g.log.take m)
theorem Part.same (a g : H) : Part a g a := .inl rfl
theorem Part.done (a g : H) : Part a g g.bare := .inr (.inr ⟨g.log.length,Nat.le_refl _,by rw [List.take_length]; rfl⟩)
theorem Near.part (h : Near s g) (j : Nat) {sj : Sg} (k : takes s ((pays (change s.h g)).take j) = some sj) : sj.ready = true ∧ Part s.h g sj.h := by
 rw [change_eq,pays_cat,pays_cat,List.take_append,List.take_append,takes_app] at k
 have la : (pays (recA s.h g)).length ≤ 1 := by unfold pays; rw [List.length_map]; exact recA_len _ _
 have lb : (pays (recB s.h g)).length ≤ 1 := by unfold pays; rw [List.length_map]; exact recB_len _ _
 by_cases ja : j < (pays (recA s.h g)).length
 ·
  rw [show j = 0 by omega] at k
  simp only [Nat.zero_sub,List.take_zero,List.append_nil,takes,Option.bind_some,Option.some.injEq] at k
  subst k
  exact ⟨h.rdy,.inl rfl⟩
 rw [List.take_of_length_le (by omega),h.takesA] at k
 change takes _ _ = _ at k
 rw [takes_app] at k
 by_cases jb : j - (pays (recA s.h g)).length < (pays (recB s.h g)).length
 ·
  rw [show j - (pays (recA s.h g)).length = 0 by omega] at k
  simp only [Nat.zero_sub,List.take_zero,takes,Option.bind_some,Option.some.injEq] at k
  subst k
  exact ⟨h.rdy,.inr (.inl rfl)⟩
 rw [List.take_of_length_le (by omega),h.takesB] at k
 change takes _ _ = _ at k
 have e : ∀ m,(pays (ents (g.log.drop (begun s.h.log g.log)))).take m = pays (ents ((g.log.drop (begun s.h.log g.log)).take m)) := fun m => by
  unfold pays ents
  rw [List.map_map,List.map_map,List.map_take]
 rw [e,h.takesC] at k
 cases k
 refine ⟨h.rdy,.inr (.inr ?_)⟩
 show ∃ m,m ≤ g.log.length ∧ g.bare.with _ = g.bare.with (g.log.take m)
 obtain ⟨m,hm⟩ : ∃ m,begun s.h.log g.log + (j - (pays (recA s.h g)).length - (pays (recB s.h g)).length) = m := ⟨_,rfl⟩
 rw [hm]
 by_cases hml : m ≤ g.log.length
 · exact ⟨m,hml,rfl⟩
 · exact ⟨g.log.length,Nat.le_refl _,by rw [List.take_of_length_le (by omega),List.take_length]⟩
end
theorem frames_size : ∀ (ps : List (List UInt8)),(∀ p ∈ ps,p.length ≤ 2000) → (frames ps).length ≤ ps.length * 2008
 | [],_ => Nat.zero_le _
 | p :: l,h => by
  rw [frames,List.length_append,frame_size,List.length_cons]
  have h1 := h p (List.mem_cons_self ..)
  have h2 := frames_size l fun q hq => h q (List.mem_cons_of_mem _ hq)
  omega
theorem Fine.payOk {ps : List (List UInt8)} (h : Fine ps) : ∀ p ∈ ps,PayOk p := fun p hp => by
 have := h.2 p hp
 exact ⟨this.1,by omega⟩
theorem change_len (a b : H) (hl : b.log.length ≤ 200) : (pays (change a b)).length ≤ 202 := by
 rw [change_eq]
 unfold pays ents
 rw [List.length_map,List.length_append,List.length_append,List.length_map,List.length_drop]
 have := recA_len a b
 have := recB_len a b
 omega
end Go.Proofs.YtlmjeackfepllaaGreatDoor.Wl
namespace Go.Proofs.YtlmjeackfepllaaGreatDoor.Ni
open Go.RowKit
open Mem
theorem info : (Tryz.prog.info? 3).map (fun i => (i.zero,i.size,i.bytes)) = some (some (.int .i64 0),1,8) := by kernel_rfl
def Own (w : World) (B : Nat) (v : Value) (xs : List Int) : Prop := w.ownsRow B 3 1 v xs.length (xs.map (Value.int .i64))
theorem own_nil (w : World) (B : Nat) : Own w B (.slice none 0 0) [] := ⟨rfl,.inl ⟨rfl,rfl⟩⟩
theorem cell_one (u : World) (v : Value) (t : TypeId) (j : Nat) (z : Value) (h : [v][j]? = some z) : (u.alloc (.cells #[v] t)).cell? ((⟨u.heap.size,0,none⟩ : Addr).add j) = some z := by
 rcases j with _ | j
 ·
  simp only [List.getElem?_cons_zero,Option.some.injEq] at h
  subst h
  simp [Addr.add,go_sem]
 · simp at h
theorem app {ops : Array Oper} {rest : List Oper} {o : Oper} {a : Act} {Q : Exit → Act → World → Prop} (u : World) (x : Int) (hgd : o.guard = none) (s t : Operand)
  (ho : o.op = .call { callee := .builtin .append,args := #[s,t],argTypes := #[46,46] }) (B : Nat) (v : Value) (xs : List Int) (hs : a.eval s = v) (hown : Own u B v xs)
  (hx : a.eval t = .slice (some ⟨u.heap.size,0,none⟩) 1 1) (hm : xs.length ≤ 100000) (hB : B ≤ u.heap.size)
  (h : ∀ v' w1,Own w1 B v' (xs ++ [x]) → (u.alloc (.cells #[.int .i64 x] 3)).grownBy w1 v.ownBlock → wpList Tryz.prog ops Q rest (a.put o.dst v') w1) :
  wpList Tryz.prog ops Q (o :: rest) a (u.alloc (.cells #[.int .i64 x] 3)) := by
 obtain ⟨i0,hi,hz0,hz1,hz2⟩ := info_parts info
 have hmx : maxLen = 9223372036854775807 := rfl
 refine wpList_append_own_at (w := u.alloc (.cells #[.int .i64 x] 3)) hgd s t 46 ho B 3 i0 (.int .i64 0) 1 8 Tryz.underlying46 hi hz0 hz1 hz2 rfl (by omega) v xs.length (xs.map (Value.int .i64)) hs (World.ownsRow.alloc hown _) ⟨u.heap.size,0,none⟩ 1 1 [.int .i64 x] hx rfl (cell_one u _ _) (fun z hz => by rw [List.mem_singleton.1 hz]; rfl) (by omega) (by omega) (by simp; omega) ?_
 intro v' w' h1 h2 _ h3
 refine h v' w' ?_ h2
 unfold Own
 rw [List.length_append,List.map_append]
 exact h1
variable {w u : World} {B : Nat} {v : Value} {xs : List Int}
theorem Own.below (h : Own w B v xs) (k : Below w.heap.size w u) : Own u B v xs := by
 obtain ⟨h1,h2⟩ := h
 refine ⟨h1,?_⟩
 rcases h2 with h2 | ⟨g,cap,cur,h',hb,hg,h3⟩
 · exact .inl h2
 ·
  have hl : g < w.heap.size := (Array.getElem?_eq_some_iff.1 hg).1
  exact .inr ⟨g,cap,cur,h',hb,(k.block g hl).trans hg,h3⟩
theorem own_ge (h : Own w B v xs) : ∀ k,v.ownBlock = some k → B ≤ k := by
 intro k hk
 rcases h.2 with ⟨h',_⟩ | ⟨g,cap,cur,h',hb,_⟩
 ·
  rw [h'] at hk
  cases hk
 ·
  rw [h'] at hk
  simp only [Value.ownBlock,Option.some.injEq] at hk
  omega
structure Zs (w : World) (ao : Option Addr) (n cap : Nat) (zs : List Int) : Prop where
 len : n = zs.length
 fits : n ≤ cap
 reach : cap ≤ 9223372036854775807
 seg : zs = [] ∨ ∃ b off,ao = some ⟨b,off,none⟩ ∧ ∀ k (hk : k < zs.length),w.cell? ⟨b,off + k,none⟩ = some (.int .i64 zs[k])
theorem Zs.below {ao : Option Addr} {n cap : Nat} (h : Zs w ao n cap xs) (k : Below w.heap.size w u) : Zs u ao n cap xs := by
 refine ⟨h.len,h.fits,h.reach,?_⟩
 rcases h.seg with e | ⟨b,off,e,hc⟩
 · exact .inl e
 · exact .inr ⟨b,off,e,fun i hi => by rw [(bcell k).1 _ _ (cell_lt (hc i hi))]; exact hc i hi⟩
theorem own_zs (h : Own w B v xs) : ∃ ao cap,v = .slice ao xs.length cap ∧ Zs w ao xs.length cap xs ∧ ∀ ad,ao = some ad → B ≤ ad.block ∧ ad.block < w.heap.size := by
 rcases h.2 with ⟨h',h2⟩ | ⟨g,cap,cur,h',hb,hg,hnc,hcm,hcs,htake⟩
 ·
  have e : xs = [] := List.length_eq_zero_iff.1 h2
  subst e
  exact ⟨none,0,h',⟨rfl,Nat.le_refl _,by omega,.inl rfl⟩,fun ad z => by cases z⟩
 ·
  refine ⟨_,cap,h',⟨rfl,hnc,hcm,?_⟩,fun ad z => by cases z; exact ⟨hb,(Array.getElem?_eq_some_iff.1 hg).1⟩⟩
  refine .inr ⟨g,0,rfl,fun k hk => ?_⟩
  rw [Nat.zero_add,cell_of_row w g k _ _ _ hg]
  have h5 : (cur.toList.take (xs.length * 1))[k]? = (xs.map (Value.int .i64))[k]? := by rw [htake]
  rw [List.getElem?_take_of_lt (by omega),List.getElem?_map,List.getElem?_eq_getElem hk] at h5
  simpa using h5
theorem sort (w0 : World) (h : Own w w0.heap.size v xs) (hm : xs.length ≤ 100000) (hB : Below w0.heap.size w0 w) : Calls Tryz.prog 86 #[v] w fun e w' => e = .returned (.tuple #[]) ∧ Own w' w0.heap.size v (xs.mergeSort fun a b => decide (a ≤ b)) ∧ Below w0.heap.size w0 w' := by
 rcases h.2 with ⟨h',h2⟩ | ⟨g,cap,cur,h',hb,hg,hnc,hcm,hcs,htake⟩
 ·
  have e : xs = [] := List.length_eq_zero_iff.1 h2
  subst e
  rw [h']
  refine (Tryz.slices_Sort_int_none none 0 w).mono ?_
  rintro e w' ⟨rfl,rfl⟩
  exact ⟨rfl,by rw [List.mergeSort_nil]; exact own_nil _ _,hB⟩
 ·
  rw [h']
  rw [Nat.mul_one] at htake hcs
  refine (Tryz.slices_Sort_int g 0 cap xs w (holds_of_blockI hg htake) (Array.getElem?_eq_some_iff.1 hg).1 (by omega)).mono ?_
  rintro e w' ⟨rfl,n,os,rfl⟩
  have hl : (xs.mergeSort fun a b => decide (a ≤ b)).length = xs.length := List.length_mergeSort _
  have := ownsRow_sortedI (n := n) (os := os) hl hb hg hnc hcm (by rw [Nat.mul_one]; exact hcs)
  refine ⟨rfl,?_,hB.grown (grownBy_sortedI _) hB.size fun k e => by cases e; exact hb⟩
  unfold Own
  rw [hl]
  exact this
end Go.Proofs.YtlmjeackfepllaaGreatDoor.Ni
namespace Go.Proofs.YtlmjeackfepllaaGreatDoor.Wl
open Go.RowKit
open Mem Dk
def rmO (rd : Bool) (n : Nat) : D → List Nat → Int × D
 | d,[] => (0,d)
 | d,k :: l => if (rd && (k == n)) = true then rmO rd n d l else if (remD d (wname k)).1 ≠ 0 then remD d (wname k) else rmO rd n (remD d (wname k)).2 l
set_option maxHeartbeats 4000000 in
theorem wl_removeOthers {R : Nat → Prop} {w0 w : World} {g p n : Nat} {f : Bool} {s : Sg} {d : D} (h : Both R w0 w g p n f s d) (ao : Option Addr) (m cap : Nat) (ks : List Nat) (hI : Ni.Zs w ao m cap (ks.map fun k : Nat => (k : Int))) (hao : ∀ ad,ao = some ad → ¬ R ad.block) (hk : ∀ k ∈ ks,k < 100) (hm : ks.length ≤ 1000) :
  Calls Tryz.prog 44 #[.pointer (some ⟨g,0,none⟩),.slice ao m cap] w fun e w' => e = .returned (.int .i64 (rmO s.ready n d ks).1) ∧ Both (nw R w) w0 w' g p n f s (rmO s.ready n d ks).2 ∧ UpdQ R w w' := by
 have HI := Lib.hid hI
 have HK := Lib.hid hk
 have HA := Lib.hid hao
 have H := Lib.hid h
 have hf := hI.fits
 have hr := hI.reach
 have HN : Hid (m = ks.length) := Lib.hid (by have := hI.len; rw [List.length_map] at this; exact this)
 have hmm : m ≤ 1000 := by have := HN.out; omega
 obtain ⟨rdy,hrd⟩ : ∃ b,s.ready = b := ⟨_,rfl⟩
 have HRd := Lib.hid hrd
 rw [hrd]
 clear hI hk hao h hm hrd
 go_enter Tryz.func44,Tryz.ntmps44
 go_wp2
 go_loopw [10] (fun i wr => ∃ k : Nat,k ≤ m ∧ i = .int .i64 k ∧ ∃ dk,Hid (Both (nw R w) w0 wr g p n f s dk) ∧ Hid (UpdQ R w wr) ∧ Hid (rmO rdy n d ks = rmO rdy n dk (ks.drop k))) (fun i _ => m - (intOf i).toNat)
 case atStart => exact ⟨0,by omega,rfl,d,Lib.hid H.out.nw,Lib.hid (UpdQ.refl _ _),Lib.hid rfl⟩
 case round =>
  rename World => wz
  obtain ⟨k,hk,rfl,dk,HB,HU,HE⟩ := hrel
  by_cases hlt : k < m
  ·
   have hkl : k < ks.length := HN.out ▸ hlt
   obtain ⟨x,hx⟩ : ∃ x,ks[k] = x := ⟨_,rfl⟩
   have hx100 : x < 100 := hx ▸ HK.out _ (List.getElem_mem hkl)
   have hxc : ∃ b off,ao = some ⟨b,off,none⟩ ∧ wz.cell? ⟨b,off + k,none⟩ = some (.int .i64 (x : Int)) := by
    rcases HI.out.seg with q | ⟨b,off,q,hc⟩
    ·
     rw [List.map_eq_nil_iff] at q
     rw [q] at hkl
     simp at hkl
    ·
     have hc' := hc k (by rw [List.length_map]; exact hkl)
     rw [List.getElem_map,hx] at hc'
     exact ⟨b,off,q,(Hd.cell_same (HU.out.block b (cell_lt hc') (HA.out _ q)) _).trans hc'⟩
   obtain ⟨b,off,rfl,hc⟩ := hxc
   have HD : Hid (rmO rdy n dk (ks.drop k) = if (rdy && (x == n)) = true then rmO rdy n dk (ks.drop (k + 1)) else if (remD dk (wname x)).1 ≠ 0 then remD dk (wname x) else rmO rdy n (remD dk (wname x)).2 (ks.drop (k + 1))) := Lib.hid (by rw [List.drop_eq_getElem_cons hkl,hx]; rfl)
   obtain ⟨P,Q,hp⟩ := HB.out
   have HP := Lib.hid hp
   obtain ⟨k0,k1,_,_,hg⟩ := hp.wal.cells
   have rd := hp.wal.isReady
   rw [HRd.out] at rd
   clear hp hx
   by_cases hr0 : rdy = false
   ·
    have hr := hr0
    rw [hr] at rd
    have HD2 : Hid (rmO rdy n dk (ks.drop k) = if (remD dk (wname x)).1 ≠ 0 then remD dk (wname x) else rmO rdy n (remD dk (wname x)).2 (ks.drop (k + 1))) := Lib.hid (by rw [HD.out,if_neg (by rw [hr]; simp)])
    clear hr hr0
    obtain ⟨b2,d2,hy⟩ : ∃ b d2,remD dk (wname x) = (b,d2) := ⟨_,_,rfl⟩
    have CR2 := Lib.hid (fun y (z : Below wz.heap.size wz y) => chg_rem HP.out.dsk z (wname x))
    rw [hy] at CR2 HD2
    dsimp only at HD2
    have lz : ∀ y,Below wz.heap.size wz y → y.cell? ⟨g,0,none⟩ = some (.pointer (some ⟨p,0,none⟩)) := fun y z => ((bcell z).1 _ _ hg).trans k0
    clear hy
    go_wp2_with fail
    go_region_held3 (fun y => y.cell? ⟨g,0,none⟩ = some (.pointer (some ⟨p,0,none⟩))) (first | with_reducible assumption | (apply lz; repeat (first | with_reducible assumption | with_reducible apply Below.drew | with_reducible exact Below.refl _ _)) | fail) (first | (go_at_call 43; refine (wl_name x hx100 _).mono ?_; rintro e u ⟨rfl,hu⟩; rw [hu]; clear hu u) | (go_at_call 38; refine (CR2.out _ (by first | exact Below.refl _ _ | exact (Below.refl _ _).drew)).mono ?_; rintro e u3 hz; have hp3 := HP.out.disk hz; obtain ⟨rfl,_,_⟩ := hz; have t3 : u3.cell? ⟨g,0,none⟩ = some (.pointer (some ⟨p,0,none⟩)) := hp3.1.wal.cells.1; have HP3 := Lib.hid hp3; dsimp only; clear hp3 CR2) | fail)
    all_goals
     have HU3 : Hid (UpdQ R w u3) := Lib.hid (upd_nw ((HU.out.mono fun b z => .inl z).trans (HP3.out.2.mono HP.out.qr)))
     have HB3 : Hid (Both (nw R w) w0 u3 g p n f s d2) := Lib.hid (Both.mono ⟨_,_,HP3.out.1⟩ fun b z => z.elim id fun z => .inr (by have := HU.out.size; omega))
     clear t3 k0 k1 rd hg lz hc
     by_cases hb : b2 = 0
     ·
      subst hb
      have HE3 : Hid (rmO rdy n d ks = rmO rdy n d2 (ks.drop (k + 1))) := Lib.hid (by rw [HE.out,HD2.out,if_neg (fun z => z rfl)])
      clear HE HD HD2
      go_wp2_with fail
      go_roundw
      case rel => exact ⟨k + 1,by omega,by go_num,d2,HB3,HU3,HE3⟩
      case measure => simp [intOf]; omega
     ·
      have qb : (b2 != 0) = true := bne_iff_ne.2 hb
      have HZ : Hid (rmO rdy n d ks = (b2,d2)) := Lib.hid (by rw [HE.out,HD2.out,if_pos hb])
      clear HE HD HD2
      go_wp2_with fail
      go_ret
      refine ⟨by rw [HZ.out]; rfl,?_,HU3.out⟩
      rw [HZ.out]
      exact HB3.out
   ·
    have hr : rdy = true := by simpa using hr0
    rw [hr] at rd
    cases hq : (x == n)
    ·
     have hq' : ((x : Int) == (n : Int)) = false := beq_eq_false_iff_ne.2 (by have := beq_eq_false_iff_ne.1 hq; omega)
     have HD2 : Hid (rmO rdy n dk (ks.drop k) = if (remD dk (wname x)).1 ≠ 0 then remD dk (wname x) else rmO rdy n (remD dk (wname x)).2 (ks.drop (k + 1))) := Lib.hid (by rw [HD.out,if_neg (by rw [hr,hq]; simp)])
     clear hr hr0
     obtain ⟨b2,d2,hy⟩ : ∃ b d2,remD dk (wname x) = (b,d2) := ⟨_,_,rfl⟩
     have CR2 := Lib.hid (fun y (z : Below wz.heap.size wz y) => chg_rem HP.out.dsk z (wname x))
     rw [hy] at CR2 HD2
     dsimp only at HD2
     have lz : ∀ y,Below wz.heap.size wz y → y.cell? ⟨g,0,none⟩ = some (.pointer (some ⟨p,0,none⟩)) := fun y z => ((bcell z).1 _ _ hg).trans k0
     clear hy
     go_wp2_with fail
     go_region_held3 (fun y => y.cell? ⟨g,0,none⟩ = some (.pointer (some ⟨p,0,none⟩))) (first | with_reducible assumption | (apply lz; repeat (first | with_reducible assumption | with_reducible apply Below.drew | with_reducible exact Below.refl _ _)) | fail) (first | (go_at_call 43; refine (wl_name x hx100 _).mono ?_; rintro e u ⟨rfl,hu⟩; rw [hu]; clear hu u) | (go_at_call 38; refine (CR2.out _ (by first | exact Below.refl _ _ | exact (Below.refl _ _).drew)).mono ?_; rintro e u3 hz; have hp3 := HP.out.disk hz; obtain ⟨rfl,_,_⟩ := hz; have t3 : u3.cell? ⟨g,0,none⟩ = some (.pointer (some ⟨p,0,none⟩)) := hp3.1.wal.cells.1; have HP3 := Lib.hid hp3; dsimp only; clear hp3 CR2) | fail)
     all_goals
      have HU3 : Hid (UpdQ R w u3) := Lib.hid (upd_nw ((HU.out.mono fun b z => .inl z).trans (HP3.out.2.mono HP.out.qr)))
      have HB3 : Hid (Both (nw R w) w0 u3 g p n f s d2) := Lib.hid (Both.mono ⟨_,_,HP3.out.1⟩ fun b z => z.elim id fun z => .inr (by have := HU.out.size; omega))
      clear t3 k0 k1 rd hg lz hc
      by_cases hb : b2 = 0
      ·
       subst hb
       have HE3 : Hid (rmO rdy n d ks = rmO rdy n d2 (ks.drop (k + 1))) := Lib.hid (by rw [HE.out,HD2.out,if_neg (fun z => z rfl)])
       clear HE HD HD2
       go_wp2_with fail
       go_roundw
       case rel => exact ⟨k + 1,by omega,by go_num,d2,HB3,HU3,HE3⟩
       case measure => simp [intOf]; omega
      ·
       have qb : (b2 != 0) = true := bne_iff_ne.2 hb
       have HZ : Hid (rmO rdy n d ks = (b2,d2)) := Lib.hid (by rw [HE.out,HD2.out,if_pos hb])
       clear HE HD HD2
       go_wp2_with fail
       go_ret
       refine ⟨by rw [HZ.out]; rfl,?_,HU3.out⟩
       rw [HZ.out]
       exact HB3.out
    ·
     have hq' : ((x : Int) == (n : Int)) = true := beq_iff_eq.2 (by have := beq_iff_eq.1 hq; omega)
     have HE3 : Hid (rmO rdy n d ks = rmO rdy n dk (ks.drop (k + 1))) := Lib.hid (by rw [HE.out,HD.out,if_pos (by rw [hr,hq]; rfl)])
     clear HE HD hr hr0
     go_wp2_with fail
     go_roundw
     case rel => exact ⟨k + 1,by omega,by go_num,dk,HB,HU,HE3⟩
     case measure => simp [intOf]; omega
  ·
   obtain rfl : k = m := by omega
   have HZ : Hid (rmO rdy n d ks = (0,dk)) := Lib.hid (by rw [HE.out,List.drop_of_length_le (by have := HN.out; omega)]; rfl)
   clear HE
   go_wp2_with fail
   go_ret
   refine ⟨by rw [HZ.out]; rfl,?_,HU.out⟩
   rw [HZ.out]
   exact HB.out
end Go.Proofs.YtlmjeackfepllaaGreatDoor.Wl
