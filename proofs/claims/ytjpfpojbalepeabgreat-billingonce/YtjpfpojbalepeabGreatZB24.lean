import Derived.Maps.AppendAt
import Derived.Laws.AppendOwnNone
import Derived.Laws.Rows
import Derived.RegionTactic
import Derived.Lib.QuietBelow
import Derived.ProofKit
import Derived.OpenShut
import Derived.ShutString
import Derived.ChangeOld
import Derived.SizedLaws
import Derived.Deep.Slices
import Derived.Lib.SmallJoins
import Derived.Deep.MidRow
import Derived.Test.YtjpfpojbalepeabGreatZB21
import Derived.Test.YtjpfpojbalepeabGreatZB22
import Derived.Test.YtjpfpojbalepeabGreatZB23
namespace Go.Proofs.YtjpfpojbalepeabGreat.Sr
open Go.RowKit
open Mem
open Go.Sort (grow)
def eqB (a b : T) : Bool := decide (a.name = b.name ∧ a.next = b.next ∧ a.limit = b.limit ∧ a.shut = b.shut)
theorem eqB_iff (a b : T) : eqB a b = true ↔ a = b := by
 unfold eqB
 rw [decide_eq_true_iff]
 cases a
 cases b
 simp
def sameB : List T → List T → Bool
 | [],[] => true
 | a :: l,b :: m => eqB a b && sameB l m
 | _,_ => false
theorem sameB_iff : ∀ l m : List T,sameB l m = true ↔ l = m
 | [],[] => by simp [sameB]
 | [],_ :: _ => by simp [sameB]
 | _ :: _,[] => by simp [sameB]
 | a :: l,b :: m => by
  rw [sameB,Bool.and_eq_true,eqB_iff,sameB_iff l m,List.cons.injEq]
theorem sameB_self (l : List T) : sameB l l = true := (sameB_iff l l).2 rfl
theorem sameB_len {l m : List T} (h : l.length ≠ m.length) : sameB l m = false := by
 rw [Bool.eq_false_iff]
 intro k
 exact h (congrArg List.length ((sameB_iff l m).1 k))
theorem same_at (l m : List T) (k : Nat) (h : k < l.length) (h' : k < m.length) : sameB (l.drop k) (m.drop k) = (eqB l[k] m[k] && sameB (l.drop (k + 1)) (m.drop (k + 1))) := by
 rw [List.drop_eq_getElem_cons h,List.drop_eq_getElem_cons h',sameB]
set_option maxHeartbeats 4000000 in
theorem same_any (xs ys : List T) (ao bo : Option Addr) (n m ca cb : Nat) (w0 w : World) (hw : Below w0.heap.size w0 w) (hA : Ls w ao n ca xs) (hB : Ls w bo m cb ys) :
  Calls Tryz.prog 24 #[.slice ao n ca,.slice bo m cb] w fun e w' => e = .returned (.bool (sameB xs ys)) ∧ Below w0.heap.size w0 w' := by
 have HW := Lib.hid hw
 have HA := Lib.hid hA
 have HB := Lib.hid hB
 have HN := Lib.hid hA.len
 have HM := Lib.hid hB.len
 have hca := hA.reach
 have hfa := hA.fits
 have hcb := hB.reach
 have hfb := hB.fits
 clear hw hA hB
 by_cases hnm : n = m
 ·
  subst hnm
  have hne : ((n : Int) != (n : Int)) = false := bne_self_eq_false _
  go_enter Tryz.func24,Tryz.ntmps24
  go_wp2
  go_loopw [5] (fun i wr => ∃ k : Nat,k ≤ n ∧ i = .int .i64 k ∧ Hid (sameB (xs.drop k) (ys.drop k) = sameB xs ys) ∧ Hid (Below w.heap.size w wr)) (fun i _ => n - (intOf i).toNat)
  case atStart => exact ⟨0,Nat.zero_le _,rfl,Lib.hid rfl,Lib.hid (Below.refl _ _)⟩
  case round =>
   obtain ⟨k,hk,rfl,HK,HBz⟩ := hrel
   by_cases hlt : k < n
   ·
    obtain ⟨a,oa,rfl⟩ := HA.out.at (by omega)
    obtain ⟨b,ob,rfl⟩ := HB.out.at (by omega)
    have hkr : k < xs.length := HN.out ▸ hlt
    have hks : k < ys.length := HM.out ▸ hlt
    have HSt := Lib.hid (same_at xs ys k hkr hks)
    obtain ⟨r,hr⟩ : ∃ r,xs[k] = r := ⟨_,rfl⟩
    obtain ⟨s,hs⟩ : ∃ s,ys[k] = s := ⟨_,rfl⟩
    have h1 := (HA.out.row k hkr).below HBz.out
    have h2 := (HB.out.row k hks).below HBz.out
    rw [hr] at h1 HSt
    rw [hs] at h2 HSt
    clear hr hs
    obtain ⟨g0,g1,g2,g3⟩ := h1
    obtain ⟨f0,f1,f2,f3⟩ := h2
    have g0' := cell_regrown g0
    have g1' := cell_regrown g1
    have g2' := cell_regrown g2
    have g3' := cell_regrown g3
    have f0' := cell_regrown f0
    have f1' := cell_regrown f1
    have f2' := cell_regrown f2
    have f3' := cell_regrown f3
    clear g0 g1 g2 g3 f0 f1 f2 f3
    by_cases e0 : r.name = s.name
    ·
     have q0 : (r.name.toList == s.name.toList) = true := beq_iff_eq.2 (by rw [e0])
     by_cases e1 : r.next = s.next
     ·
      have q1 : (r.next == s.next) = true := beq_iff_eq.2 e1
      by_cases e2 : r.limit = s.limit
      ·
       have q2 : (r.limit == s.limit) = true := beq_iff_eq.2 e2
       by_cases e3 : r.shut = s.shut
       ·
        have q3 : (r.shut == s.shut) = true := beq_iff_eq.2 e3
        have HE : Hid (eqB r s = true) := Lib.hid (decide_eq_true ⟨e0,e1,e2,e3⟩)
        clear e0 e1 e2 e3
        go_wp2
        refine wp_region_quiet_below (by kernel_rfl) (by kernel_rfl) ?_
        repeat (first | go_big_quiet_step (fail) | quiet_step (fail))
        refine wpQuiet_nil ?_
        intro _ hw'
        obtain ⟨⟨dq,osq⟩,hw''⟩ := hw'
        subst hw''
        have HBv := Lib.hid (bchain HBz.out (below_regrown wr dq osq))
        go_wp2
        go_roundw
        case rel => exact ⟨k + 1,by omega,by go_num,Lib.hid (by rw [← HK.out,HSt.out,HE.out,Bool.true_and]),HBv⟩
        case measure => simp [intOf]; omega
       ·
        have q3 : (r.shut == s.shut) = false := beq_eq_false_iff_ne.2 e3
        have HE : Hid (eqB r s = false) := Lib.hid (decide_eq_false fun h => e3 h.2.2.2)
        clear e0 e1 e2 e3
        go_wp2
        refine wp_region_quiet_below (by kernel_rfl) (by kernel_rfl) ?_
        repeat (first | go_big_quiet_step (fail) | quiet_step (fail))
        refine wpQuiet_nil ?_
        intro _ hw'
        obtain ⟨⟨dq,osq⟩,hw''⟩ := hw'
        subst hw''
        have HBv := Lib.hid (bchain HBz.out (below_regrown wr dq osq))
        go_wp2
        go_ret
        exact ⟨ret_bool (by rw [← HK.out,HSt.out,HE.out,Bool.false_and]),bchain HW.out HBv.out⟩
      ·
       have q2 : (r.limit == s.limit) = false := beq_eq_false_iff_ne.2 e2
       have HE : Hid (eqB r s = false) := Lib.hid (decide_eq_false fun h => e2 h.2.2.1)
       clear e0 e1 e2
       go_wp2
       refine wp_region_quiet_below (by kernel_rfl) (by kernel_rfl) ?_
       repeat (first | go_big_quiet_step (fail) | quiet_step (fail))
       refine wpQuiet_nil ?_
       intro _ hw'
       obtain ⟨⟨dq,osq⟩,hw''⟩ := hw'
       subst hw''
       have HBv := Lib.hid (bchain HBz.out (below_regrown wr dq osq))
       go_wp2
       go_ret
       exact ⟨ret_bool (by rw [← HK.out,HSt.out,HE.out,Bool.false_and]),bchain HW.out HBv.out⟩
     ·
      have q1 : (r.next == s.next) = false := beq_eq_false_iff_ne.2 e1
      have HE : Hid (eqB r s = false) := Lib.hid (decide_eq_false fun h => e1 h.2.1)
      clear e0 e1
      go_wp2
      refine wp_region_quiet_below (by kernel_rfl) (by kernel_rfl) ?_
      repeat (first | go_big_quiet_step (fail) | quiet_step (fail))
      refine wpQuiet_nil ?_
      intro _ hw'
      obtain ⟨⟨dq,osq⟩,hw''⟩ := hw'
      subst hw''
      have HBv := Lib.hid (bchain HBz.out (below_regrown wr dq osq))
      go_wp2
      go_ret
      exact ⟨ret_bool (by rw [← HK.out,HSt.out,HE.out,Bool.false_and]),bchain HW.out HBv.out⟩
    ·
     have q0 : (r.name.toList == s.name.toList) = false := beq_eq_false_iff_ne.2 fun h => e0 (txt_ext (by rw [← tl,← tl]; exact h))
     have HE : Hid (eqB r s = false) := Lib.hid (decide_eq_false fun h => e0 h.1)
     clear e0
     go_wp2
     refine wp_region_quiet_below (by kernel_rfl) (by kernel_rfl) ?_
     repeat (first | go_big_quiet_step (fail) | quiet_step (fail))
     refine wpQuiet_nil ?_
     intro _ hw'
     obtain ⟨⟨dq,osq⟩,hw''⟩ := hw'
     subst hw''
     have HBv := Lib.hid (bchain HBz.out (below_regrown wr dq osq))
     go_wp2
     go_ret
     exact ⟨ret_bool (by rw [← HK.out,HSt.out,HE.out,Bool.false_and]),bchain HW.out HBv.out⟩
   ·
    obtain rfl : k = n := by omega
    go_wp2
    go_ret
    refine ⟨ret_bool ?_,HW.out.trans (HBz.out.mono HW.out.size)⟩
    rw [← HK.out,List.drop_eq_nil_of_le (Nat.le_of_eq HN.out.symm),List.drop_eq_nil_of_le (Nat.le_of_eq HM.out.symm)]
    rfl
 ·
  have HE := Lib.hid (sameB_len (l := xs) (m := ys) (by rw [← HN.out,← HM.out]; exact hnm))
  have hne : ((n : Int) != (m : Int)) = true := bne_iff_ne.2 (by omega)
  go_enter Tryz.func24,Tryz.ntmps24
  go_wp2
  go_ret
  exact ⟨ret_bool HE.out.symm,HW.out⟩
theorem same_rows (xs : List T) (ao bo : Option Addr) (n ca cb : Nat) (w0 w : World) (hw : Below w0.heap.size w0 w) (hA : Ls w ao n ca xs) (hB : Ls w bo n cb xs) :
  Calls Tryz.prog 24 #[.slice ao n ca,.slice bo n cb] w fun e w' => e = .returned (.bool true) ∧ Below w0.heap.size w0 w' := by
 have h := same_any xs xs ao bo n n ca cb w0 w hw hA hB
 rw [sameB_self] at h
 exact h
end Go.Proofs.YtjpfpojbalepeabGreat.Sr
namespace Go.Proofs.YtjpfpojbalepeabGreat.Ba
open Go.RowKit
open Mem
open Go.Sort (grow)
def eqB (a b : T) : Bool := decide (a.acct = b.acct ∧ a.amt = b.amt)
theorem eqB_iff (a b : T) : eqB a b = true ↔ a = b := by
 unfold eqB
 rw [decide_eq_true_iff]
 cases a
 cases b
 simp
def sameB : List T → List T → Bool
 | [],[] => true
 | a :: l,b :: m => eqB a b && sameB l m
 | _,_ => false
theorem sameB_iff : ∀ l m : List T,sameB l m = true ↔ l = m
 | [],[] => by simp [sameB]
 | [],_ :: _ => by simp [sameB]
 | _ :: _,[] => by simp [sameB]
 | a :: l,b :: m => by
  rw [sameB,Bool.and_eq_true,eqB_iff,sameB_iff l m,List.cons.injEq]
theorem sameB_self (l : List T) : sameB l l = true := (sameB_iff l l).2 rfl
theorem sameB_len {l m : List T} (h : l.length ≠ m.length) : sameB l m = false := by
 rw [Bool.eq_false_iff]
 intro k
 exact h (congrArg List.length ((sameB_iff l m).1 k))
theorem same_at (l m : List T) (k : Nat) (h : k < l.length) (h' : k < m.length) : sameB (l.drop k) (m.drop k) = (eqB l[k] m[k] && sameB (l.drop (k + 1)) (m.drop (k + 1))) := by
 rw [List.drop_eq_getElem_cons h,List.drop_eq_getElem_cons h',sameB]
set_option maxHeartbeats 4000000 in
theorem same_any (xs ys : List T) (ao bo : Option Addr) (n m ca cb : Nat) (w0 w : World) (hw : Below w0.heap.size w0 w) (hA : Ls w ao n ca xs) (hB : Ls w bo m cb ys) :
  Calls Tryz.prog 26 #[.slice ao n ca,.slice bo m cb] w fun e w' => e = .returned (.bool (sameB xs ys)) ∧ Below w0.heap.size w0 w' := by
 have HW := Lib.hid hw
 have HA := Lib.hid hA
 have HB := Lib.hid hB
 have HN := Lib.hid hA.len
 have HM := Lib.hid hB.len
 have hca := hA.reach
 have hfa := hA.fits
 have hcb := hB.reach
 have hfb := hB.fits
 clear hw hA hB
 by_cases hnm : n = m
 ·
  subst hnm
  have hne : ((n : Int) != (n : Int)) = false := bne_self_eq_false _
  go_enter Tryz.func26,Tryz.ntmps26
  go_wp2
  go_loopw [5] (fun i wr => ∃ k : Nat,k ≤ n ∧ i = .int .i64 k ∧ Hid (sameB (xs.drop k) (ys.drop k) = sameB xs ys) ∧ Hid (Below w.heap.size w wr)) (fun i _ => n - (intOf i).toNat)
  case atStart => exact ⟨0,Nat.zero_le _,rfl,Lib.hid rfl,Lib.hid (Below.refl _ _)⟩
  case round =>
   obtain ⟨k,hk,rfl,HK,HBz⟩ := hrel
   by_cases hlt : k < n
   ·
    obtain ⟨a,oa,rfl⟩ := HA.out.at (by omega)
    obtain ⟨b,ob,rfl⟩ := HB.out.at (by omega)
    have hkr : k < xs.length := HN.out ▸ hlt
    have hks : k < ys.length := HM.out ▸ hlt
    have HSt := Lib.hid (same_at xs ys k hkr hks)
    obtain ⟨r,hr⟩ : ∃ r,xs[k] = r := ⟨_,rfl⟩
    obtain ⟨s,hs⟩ : ∃ s,ys[k] = s := ⟨_,rfl⟩
    have h1 := (HA.out.row k hkr).below HBz.out
    have h2 := (HB.out.row k hks).below HBz.out
    rw [hr] at h1 HSt
    rw [hs] at h2 HSt
    clear hr hs
    obtain ⟨g0,g1⟩ := h1
    obtain ⟨f0,f1⟩ := h2
    have g0' := cell_regrown g0
    have g1' := cell_regrown g1
    have f0' := cell_regrown f0
    have f1' := cell_regrown f1
    clear g0 g1 f0 f1
    by_cases e0 : r.acct = s.acct
    ·
     have q0 : (r.acct.toList == s.acct.toList) = true := beq_iff_eq.2 (by rw [e0])
     by_cases e1 : r.amt = s.amt
     ·
      have q1 : (r.amt == s.amt) = true := beq_iff_eq.2 e1
      have HE : Hid (eqB r s = true) := Lib.hid (decide_eq_true ⟨e0,e1⟩)
      clear e0 e1
      go_wp2
      refine wp_region_quiet_below (by kernel_rfl) (by kernel_rfl) ?_
      repeat (first | go_big_quiet_step (fail) | quiet_step (fail))
      refine wpQuiet_nil ?_
      intro _ hw'
      obtain ⟨⟨dq,osq⟩,hw''⟩ := hw'
      subst hw''
      have HBv := Lib.hid (bchain HBz.out (below_regrown wr dq osq))
      go_wp2
      go_roundw
      case rel => exact ⟨k + 1,by omega,by go_num,Lib.hid (by rw [← HK.out,HSt.out,HE.out,Bool.true_and]),HBv⟩
      case measure => simp [intOf]; omega
     ·
      have q1 : (r.amt == s.amt) = false := beq_eq_false_iff_ne.2 e1
      have HE : Hid (eqB r s = false) := Lib.hid (decide_eq_false fun h => e1 h.2)
      clear e0 e1
      go_wp2
      refine wp_region_quiet_below (by kernel_rfl) (by kernel_rfl) ?_
      repeat (first | go_big_quiet_step (fail) | quiet_step (fail))
      refine wpQuiet_nil ?_
      intro _ hw'
      obtain ⟨⟨dq,osq⟩,hw''⟩ := hw'
      subst hw''
      have HBv := Lib.hid (bchain HBz.out (below_regrown wr dq osq))
      go_wp2
      go_ret
      exact ⟨ret_bool (by rw [← HK.out,HSt.out,HE.out,Bool.false_and]),bchain HW.out HBv.out⟩
    ·
     have q0 : (r.acct.toList == s.acct.toList) = false := beq_eq_false_iff_ne.2 fun h => e0 (txt_ext (by rw [← tl,← tl]; exact h))
     have HE : Hid (eqB r s = false) := Lib.hid (decide_eq_false fun h => e0 h.1)
     clear e0
     go_wp2
     refine wp_region_quiet_below (by kernel_rfl) (by kernel_rfl) ?_
     repeat (first | go_big_quiet_step (fail) | quiet_step (fail))
     refine wpQuiet_nil ?_
     intro _ hw'
     obtain ⟨⟨dq,osq⟩,hw''⟩ := hw'
     subst hw''
     have HBv := Lib.hid (bchain HBz.out (below_regrown wr dq osq))
     go_wp2
     go_ret
     exact ⟨ret_bool (by rw [← HK.out,HSt.out,HE.out,Bool.false_and]),bchain HW.out HBv.out⟩
   ·
    obtain rfl : k = n := by omega
    go_wp2
    go_ret
    refine ⟨ret_bool ?_,HW.out.trans (HBz.out.mono HW.out.size)⟩
    rw [← HK.out,List.drop_eq_nil_of_le (Nat.le_of_eq HN.out.symm),List.drop_eq_nil_of_le (Nat.le_of_eq HM.out.symm)]
    rfl
 ·
  have HE := Lib.hid (sameB_len (l := xs) (m := ys) (by rw [← HN.out,← HM.out]; exact hnm))
  have hne : ((n : Int) != (m : Int)) = true := bne_iff_ne.2 (by omega)
  go_enter Tryz.func26,Tryz.ntmps26
  go_wp2
  go_ret
  exact ⟨ret_bool HE.out.symm,HW.out⟩
theorem same_rows (xs : List T) (ao bo : Option Addr) (n ca cb : Nat) (w0 w : World) (hw : Below w0.heap.size w0 w) (hA : Ls w ao n ca xs) (hB : Ls w bo n cb xs) :
  Calls Tryz.prog 26 #[.slice ao n ca,.slice bo n cb] w fun e w' => e = .returned (.bool true) ∧ Below w0.heap.size w0 w' := by
 have h := same_any xs xs ao bo n n ca cb w0 w hw hA hB
 rw [sameB_self] at h
 exact h
end Go.Proofs.YtjpfpojbalepeabGreat.Ba
namespace Go.Proofs.YtjpfpojbalepeabGreat.Sn
open Go.RowKit
open Mem
open Go.Sort (grow)
def eqB (a b : T) : Bool := decide (a.id = b.id ∧ a.last = b.last ∧ a.why = b.why ∧ a.num = b.num ∧ a.gross = b.gross)
theorem eqB_iff (a b : T) : eqB a b = true ↔ a = b := by
 unfold eqB
 rw [decide_eq_true_iff]
 cases a
 cases b
 simp
def sameB : List T → List T → Bool
 | [],[] => true
 | a :: l,b :: m => eqB a b && sameB l m
 | _,_ => false
theorem sameB_iff : ∀ l m : List T,sameB l m = true ↔ l = m
 | [],[] => by simp [sameB]
 | [],_ :: _ => by simp [sameB]
 | _ :: _,[] => by simp [sameB]
 | a :: l,b :: m => by
  rw [sameB,Bool.and_eq_true,eqB_iff,sameB_iff l m,List.cons.injEq]
theorem sameB_self (l : List T) : sameB l l = true := (sameB_iff l l).2 rfl
theorem sameB_len {l m : List T} (h : l.length ≠ m.length) : sameB l m = false := by
 rw [Bool.eq_false_iff]
 intro k
 exact h (congrArg List.length ((sameB_iff l m).1 k))
theorem same_at (l m : List T) (k : Nat) (h : k < l.length) (h' : k < m.length) : sameB (l.drop k) (m.drop k) = (eqB l[k] m[k] && sameB (l.drop (k + 1)) (m.drop (k + 1))) := by
 rw [List.drop_eq_getElem_cons h,List.drop_eq_getElem_cons h',sameB]
set_option maxHeartbeats 4000000 in
theorem same_any (xs ys : List T) (ao bo : Option Addr) (n m ca cb : Nat) (w0 w : World) (hw : Below w0.heap.size w0 w) (hA : Ls w ao n ca xs) (hB : Ls w bo m cb ys) :
  Calls Tryz.prog 27 #[.slice ao n ca,.slice bo m cb] w fun e w' => e = .returned (.bool (sameB xs ys)) ∧ Below w0.heap.size w0 w' := by
 have HW := Lib.hid hw
 have HA := Lib.hid hA
 have HB := Lib.hid hB
 have HN := Lib.hid hA.len
 have HM := Lib.hid hB.len
 have hca := hA.reach
 have hfa := hA.fits
 have hcb := hB.reach
 have hfb := hB.fits
 clear hw hA hB
 by_cases hnm : n = m
 ·
  subst hnm
  have hne : ((n : Int) != (n : Int)) = false := bne_self_eq_false _
  go_enter Tryz.func27,Tryz.ntmps27
  go_wp2
  go_loopw [5] (fun i wr => ∃ k : Nat,k ≤ n ∧ i = .int .i64 k ∧ Hid (sameB (xs.drop k) (ys.drop k) = sameB xs ys) ∧ Hid (Below w.heap.size w wr)) (fun i _ => n - (intOf i).toNat)
  case atStart => exact ⟨0,Nat.zero_le _,rfl,Lib.hid rfl,Lib.hid (Below.refl _ _)⟩
  case round =>
   obtain ⟨k,hk,rfl,HK,HBz⟩ := hrel
   by_cases hlt : k < n
   ·
    obtain ⟨a,oa,rfl⟩ := HA.out.at (by omega)
    obtain ⟨b,ob,rfl⟩ := HB.out.at (by omega)
    have hkr : k < xs.length := HN.out ▸ hlt
    have hks : k < ys.length := HM.out ▸ hlt
    have HSt := Lib.hid (same_at xs ys k hkr hks)
    obtain ⟨r,hr⟩ : ∃ r,xs[k] = r := ⟨_,rfl⟩
    obtain ⟨s,hs⟩ : ∃ s,ys[k] = s := ⟨_,rfl⟩
    have h1 := (HA.out.row k hkr).below HBz.out
    have h2 := (HB.out.row k hks).below HBz.out
    rw [hr] at h1 HSt
    rw [hs] at h2 HSt
    clear hr hs
    obtain ⟨g0,g1,g2,g3,g4⟩ := h1
    obtain ⟨f0,f1,f2,f3,f4⟩ := h2
    have g0' := cell_regrown g0
    have g1' := cell_regrown g1
    have g2' := cell_regrown g2
    have g3' := cell_regrown g3
    have g4' := cell_regrown g4
    have f0' := cell_regrown f0
    have f1' := cell_regrown f1
    have f2' := cell_regrown f2
    have f3' := cell_regrown f3
    have f4' := cell_regrown f4
    clear g0 g1 g2 g3 g4 f0 f1 f2 f3 f4
    by_cases e0 : r.id = s.id
    ·
     have q0 : (r.id == s.id) = true := beq_iff_eq.2 e0
     by_cases e1 : r.last = s.last
     ·
      have q1 : (r.last == s.last) = true := beq_iff_eq.2 e1
      by_cases e2 : r.why = s.why
      ·
       have q2 : (r.why == s.why) = true := beq_iff_eq.2 e2
       by_cases e3 : r.num = s.num
       ·
        have q3 : (r.num == s.num) = true := beq_iff_eq.2 e3
        by_cases e4 : r.gross = s.gross
        ·
         have q4 : (r.gross == s.gross) = true := beq_iff_eq.2 e4
         have HE : Hid (eqB r s = true) := Lib.hid (decide_eq_true ⟨e0,e1,e2,e3,e4⟩)
         clear e0 e1 e2 e3 e4
         go_wp2
         refine wp_region_quiet_below (by kernel_rfl) (by kernel_rfl) ?_
         repeat (first | go_big_quiet_step (fail) | quiet_step (fail))
         refine wpQuiet_nil ?_
         intro _ hw'
         obtain ⟨⟨dq,osq⟩,hw''⟩ := hw'
         subst hw''
         have HBv := Lib.hid (bchain HBz.out (below_regrown wr dq osq))
         go_wp2
         go_roundw
         case rel => exact ⟨k + 1,by omega,by go_num,Lib.hid (by rw [← HK.out,HSt.out,HE.out,Bool.true_and]),HBv⟩
         case measure => simp [intOf]; omega
        ·
         have q4 : (r.gross == s.gross) = false := beq_eq_false_iff_ne.2 e4
         have HE : Hid (eqB r s = false) := Lib.hid (decide_eq_false fun h => e4 h.2.2.2.2)
         clear e0 e1 e2 e3 e4
         go_wp2
         refine wp_region_quiet_below (by kernel_rfl) (by kernel_rfl) ?_
         repeat (first | go_big_quiet_step (fail) | quiet_step (fail))
         refine wpQuiet_nil ?_
         intro _ hw'
         obtain ⟨⟨dq,osq⟩,hw''⟩ := hw'
         subst hw''
         have HBv := Lib.hid (bchain HBz.out (below_regrown wr dq osq))
         go_wp2
         go_ret
         exact ⟨ret_bool (by rw [← HK.out,HSt.out,HE.out,Bool.false_and]),bchain HW.out HBv.out⟩
       ·
        have q3 : (r.num == s.num) = false := beq_eq_false_iff_ne.2 e3
        have HE : Hid (eqB r s = false) := Lib.hid (decide_eq_false fun h => e3 h.2.2.2.1)
        clear e0 e1 e2 e3
        go_wp2
        refine wp_region_quiet_below (by kernel_rfl) (by kernel_rfl) ?_
        repeat (first | go_big_quiet_step (fail) | quiet_step (fail))
        refine wpQuiet_nil ?_
        intro _ hw'
        obtain ⟨⟨dq,osq⟩,hw''⟩ := hw'
        subst hw''
        have HBv := Lib.hid (bchain HBz.out (below_regrown wr dq osq))
        go_wp2
        go_ret
        exact ⟨ret_bool (by rw [← HK.out,HSt.out,HE.out,Bool.false_and]),bchain HW.out HBv.out⟩
      ·
       have q2 : (r.why == s.why) = false := beq_eq_false_iff_ne.2 e2
       have HE : Hid (eqB r s = false) := Lib.hid (decide_eq_false fun h => e2 h.2.2.1)
       clear e0 e1 e2
       go_wp2
       refine wp_region_quiet_below (by kernel_rfl) (by kernel_rfl) ?_
       repeat (first | go_big_quiet_step (fail) | quiet_step (fail))
       refine wpQuiet_nil ?_
       intro _ hw'
       obtain ⟨⟨dq,osq⟩,hw''⟩ := hw'
       subst hw''
       have HBv := Lib.hid (bchain HBz.out (below_regrown wr dq osq))
       go_wp2
       go_ret
       exact ⟨ret_bool (by rw [← HK.out,HSt.out,HE.out,Bool.false_and]),bchain HW.out HBv.out⟩
     ·
      have q1 : (r.last == s.last) = false := beq_eq_false_iff_ne.2 e1
      have HE : Hid (eqB r s = false) := Lib.hid (decide_eq_false fun h => e1 h.2.1)
      clear e0 e1
      go_wp2
      refine wp_region_quiet_below (by kernel_rfl) (by kernel_rfl) ?_
      repeat (first | go_big_quiet_step (fail) | quiet_step (fail))
      refine wpQuiet_nil ?_
      intro _ hw'
      obtain ⟨⟨dq,osq⟩,hw''⟩ := hw'
      subst hw''
      have HBv := Lib.hid (bchain HBz.out (below_regrown wr dq osq))
      go_wp2
      go_ret
      exact ⟨ret_bool (by rw [← HK.out,HSt.out,HE.out,Bool.false_and]),bchain HW.out HBv.out⟩
    ·
     have q0 : (r.id == s.id) = false := beq_eq_false_iff_ne.2 e0
     have HE : Hid (eqB r s = false) := Lib.hid (decide_eq_false fun h => e0 h.1)
     clear e0
     go_wp2
     refine wp_region_quiet_below (by kernel_rfl) (by kernel_rfl) ?_
     repeat (first | go_big_quiet_step (fail) | quiet_step (fail))
     refine wpQuiet_nil ?_
     intro _ hw'
     obtain ⟨⟨dq,osq⟩,hw''⟩ := hw'
     subst hw''
     have HBv := Lib.hid (bchain HBz.out (below_regrown wr dq osq))
     go_wp2
     go_ret
     exact ⟨ret_bool (by rw [← HK.out,HSt.out,HE.out,Bool.false_and]),bchain HW.out HBv.out⟩
   ·
    obtain rfl : k = n := by omega
    go_wp2
    go_ret
    refine ⟨ret_bool ?_,HW.out.trans (HBz.out.mono HW.out.size)⟩
    rw [← HK.out,List.drop_eq_nil_of_le (Nat.le_of_eq HN.out.symm),List.drop_eq_nil_of_le (Nat.le_of_eq HM.out.symm)]
    rfl
 ·
  have HE := Lib.hid (sameB_len (l := xs) (m := ys) (by rw [← HN.out,← HM.out]; exact hnm))
  have hne : ((n : Int) != (m : Int)) = true := bne_iff_ne.2 (by omega)
  go_enter Tryz.func27,Tryz.ntmps27
  go_wp2
  go_ret
  exact ⟨ret_bool HE.out.symm,HW.out⟩
theorem same_rows (xs : List T) (ao bo : Option Addr) (n ca cb : Nat) (w0 w : World) (hw : Below w0.heap.size w0 w) (hA : Ls w ao n ca xs) (hB : Ls w bo n cb xs) :
  Calls Tryz.prog 27 #[.slice ao n ca,.slice bo n cb] w fun e w' => e = .returned (.bool true) ∧ Below w0.heap.size w0 w' := by
 have h := same_any xs xs ao bo n n ca cb w0 w hw hA hB
 rw [sameB_self] at h
 exact h
end Go.Proofs.YtjpfpojbalepeabGreat.Sn
namespace Go.Proofs.YtjpfpojbalepeabGreat
open Go.RowKit
open Vt (Rt)
open Go.Sort (grow)
set_option maxHeartbeats 1000000 in
theorem same_rows (xs : List Rt) (ao bo : Option Addr) (n ca cb : Nat) (w0 w : World) (hw : Below w0.heap.size w0 w) (hA : Rts w ao n ca xs) (hB : Rts w bo n cb xs) :
  Calls Tryz.prog 23 #[.slice ao n ca,.slice bo n cb] w fun e w' => e = .returned (.bool true) ∧ Below w0.heap.size w0 w' := by
 have HW := Lib.hid hw
 have HA := Lib.hid hA
 have HB := Lib.hid hB
 have HN := Lib.hid hA.len
 have hca := hA.reach
 have hfa := hA.fits
 have hcb := hB.reach
 have hfb := hB.fits
 clear hw hA hB
 have hne : ((n : Int) != (n : Int)) = false := bne_self_eq_false _
 go_enter Tryz.func23,Tryz.ntmps23
 go_wp2
 go_loopw [5] (fun i wr => ∃ k : Nat,k ≤ n ∧ i = .int .i64 k ∧ Hid (Below w.heap.size w wr)) (fun i _ => n - (intOf i).toNat)
 case atStart => exact ⟨0,Nat.zero_le _,rfl,Lib.hid (Below.refl _ _)⟩
 case round =>
  obtain ⟨k,hk,rfl,HBz⟩ := hrel
  by_cases hlt : k < n
  ·
   obtain ⟨a,oa,rfl⟩ := HA.out.at (by omega)
   obtain ⟨b,ob,rfl⟩ := HB.out.at (by omega)
   have hkr : k < xs.length := HN.out ▸ hlt
   obtain ⟨r,hr⟩ : ∃ r,xs[k] = r := ⟨_,rfl⟩
   have h1 := (HA.out.row k hkr).below HBz.out
   have h2 := (HB.out.row k hkr).below HBz.out
   rw [hr] at h1 h2
   clear hr
   obtain ⟨g0,g1,g2,g3,g4⟩ := h1
   obtain ⟨f0,f1,f2,f3,f4⟩ := h2
   have g0' := cell_regrown g0
   have g1' := cell_regrown g1
   have g2' := cell_regrown g2
   have g3' := cell_regrown g3
   have g4' := cell_regrown g4
   have f0' := cell_regrown f0
   have f1' := cell_regrown f1
   have f2' := cell_regrown f2
   have f3' := cell_regrown f3
   have f4' := cell_regrown f4
   have q0 : (r.cat.toList == r.cat.toList) = true := beq_self_eq_true _
   have q1 : (r.y == r.y) = true := beq_self_eq_true _
   have q2 : (r.m == r.m) = true := beq_self_eq_true _
   have q3 : (r.d == r.d) = true := beq_self_eq_true _
   have q4 : (r.bp == r.bp) = true := beq_self_eq_true _
   go_wp2
   refine wp_region_quiet_below (by kernel_rfl) (by kernel_rfl) ?_
   repeat (first | go_big_quiet_step (fail) | quiet_step (fail))
   refine wpQuiet_nil ?_
   intro _ hw'
   obtain ⟨⟨dq,osq⟩,hw''⟩ := hw'
   subst hw''
   have HBv := Lib.hid (bchain HBz.out (below_regrown wr dq osq))
   go_wp2
   go_roundw
   case rel => exact ⟨k + 1,by omega,by go_num,HBv⟩
   case measure => simp [intOf]; omega
  ·
   obtain rfl : k = n := by omega
   go_wp2
   go_ret
   exact ⟨rfl,HW.out.trans (HBz.out.mono HW.out.size)⟩
end Go.Proofs.YtjpfpojbalepeabGreat
namespace Go.Proofs.YtjpfpojbalepeabGreat
open Go.RowKit
open Mem
def Bl.box (w : World) (h : Bl.Sv) : World := w.alloc (.cells #[Bl.sl h.tab,Bl.sl h.ser,Bl.sl h.post,Bl.sl h.book,Bl.sl h.sess,.int .i64 h.next] 40)
def Bl.At (u : World) (g : Nat) (h : Bl.Sv) : Prop := u.heap[g]? = some (.cells #[Bl.sl h.tab,Bl.sl h.ser,Bl.sl h.post,Bl.sl h.book,Bl.sl h.sess,.int .i64 h.next] 40 (0,0))
theorem Bl.at_box (w : World) (h : Bl.Sv) : Bl.At (Bl.box w h) w.heap.size h := heap_alloc_new w _
theorem Bl.box_size (w : World) (h : Bl.Sv) : (Bl.box w h).heap.size = w.heap.size + 1 := by
 unfold Bl.box
 simp
theorem Bl.below_own (w : World) (h : Bl.Sv) : Below w.heap.size w (Bl.box w h) := (Below.refl _ _).alloc (Nat.le_refl _) _
theorem Bl.At.lt {u : World} {g : Nat} {h : Bl.Sv} (a : Bl.At u g h) : g < u.heap.size := by
 obtain ⟨hl,_⟩ := Array.getElem?_eq_some_iff.1 a
 exact hl
theorem Bl.At.below {u v : World} {g : Nat} {h : Bl.Sv} (a : Bl.At u g h) (b : Below u.heap.size u v) : Bl.At v g h := (b.block g a.lt).trans a
theorem Bl.At.cells {u : World} {g : Nat} {h : Bl.Sv} (a : Bl.At u g h) : u.cell? ⟨g,0,none⟩ = some (.slice h.tab.ao h.tab.n h.tab.cap) ∧ u.cell? ⟨g,1,none⟩ = some (.slice h.ser.ao h.ser.n h.ser.cap) ∧ u.cell? ⟨g,2,none⟩ = some (.slice h.post.ao h.post.n h.post.cap) ∧ u.cell? ⟨g,3,none⟩ = some (.slice h.book.ao h.book.n h.book.cap) ∧ u.cell? ⟨g,4,none⟩ = some (.slice h.sess.ao h.sess.n h.sess.cap) ∧ u.cell? ⟨g,5,none⟩ = some (.int .i64 h.next) := by
 refine ⟨?_,?_,?_,?_,?_,?_⟩
 all_goals
  rw [cell_of_row u g _ _ _ _ a]
  rfl
theorem Bl.At.frozen {u : World} {g : Nat} {h : Bl.Sv} (a : Bl.At u g h) (k : Nat) : u.frozen? ⟨g,k,none⟩ = false := frozen_of_row u g k _ _ a
set_option maxHeartbeats 4000000 in
theorem keep_states (s : Bl.St) (h k : Bl.Sv) (w0 w : World) (hw : Below w0.heap.size w0 w) (hA : Bl.Lies w h s) (hB : Bl.Lies w k s) :
  Calls Tryz.prog 13 #[h.val,k.val] w fun e w' => e = .returned (.bool true) ∧ Below w0.heap.size w0 w' := by
 have HW := Lib.hid hw
 clear hw
 obtain ⟨rs,hP1,hE1⟩ := hA.post
 obtain ⟨qs,hP2,hE2⟩ := hB.post
 obtain ⟨⟨a0,n0,c0⟩,⟨a1,n1,c1⟩,⟨a2,n2,c2⟩,⟨a3,n3,c3⟩,⟨a4,n4,c4⟩,nx⟩ := h
 obtain ⟨⟨b0,m0,d0⟩,⟨b1,m1,d1⟩,⟨b2,m2,d2⟩,⟨b3,m3,d3⟩,⟨b4,m4,d4⟩,my⟩ := k
 obtain rfl : n0 = m0 := hA.tab.len.trans hB.tab.len.symm
 obtain rfl : n1 = m1 := hA.ser.len.trans hB.ser.len.symm
 obtain rfl : n2 = m2 := (hP1.len.trans (hE1.len.trans hE2.len.symm)).trans hP2.len.symm
 obtain rfl : n3 = m3 := hA.book.len.trans hB.book.len.symm
 obtain rfl : n4 = m4 := hA.sess.len.trans hB.sess.len.symm
 obtain rfl : nx = my := hA.next.trans hB.next.symm
 have HT := Lib.hid (And.intro hA.tab hB.tab)
 have HS := Lib.hid (And.intro hA.ser hB.ser)
 have HP := Lib.hid (And.intro (And.intro hP1 hP2) (And.intro hE1 hE2))
 have HK := Lib.hid (And.intro hA.book hB.book)
 have HN := Lib.hid (And.intro hA.sess hB.sess)
 clear hA hB hP1 hP2 hE1 hE2
 obtain ⟨h,hh⟩ : ∃ h : Bl.Sv,h = ⟨⟨a0,n0,c0⟩,⟨a1,n1,c1⟩,⟨a2,n2,c2⟩,⟨a3,n3,c3⟩,⟨a4,n4,c4⟩,nx⟩ := ⟨_,rfl⟩
 obtain ⟨k,hk⟩ : ∃ k : Bl.Sv,k = ⟨⟨b0,n0,d0⟩,⟨b1,n1,d1⟩,⟨b2,n2,d2⟩,⟨b3,n3,d3⟩,⟨b4,n4,d4⟩,nx⟩ := ⟨_,rfl⟩
 have hb1 := Bl.below_own w h
 have hb2 := Bl.below_own (Bl.box w h) k
 have h1 := (Bl.at_box w h).below hb2
 have h2 := Bl.at_box (Bl.box w h) k
 rw [Bl.box_size] at h2
 have HBl := Lib.hid (bchain hb1 hb2)
 obtain ⟨U,hU⟩ : ∃ U,Bl.box (Bl.box w h) k = U := ⟨_,rfl⟩
 rw [hU] at h1 h2 HBl
 subst hh hk
 have H1 := Lib.hid h1
 have H2 := Lib.hid h2
 obtain ⟨x0,x1,x2,x3,x4,x5⟩ := h1.cells
 obtain ⟨y0,y1,y2,y3,y4,y5⟩ := h2.cells
 simp only at x0 x1 x2 x3 x4 x5 y0 y1 y2 y3 y4 y5
 unfold Bl.box Bl.sl at hU
 clear h1 h2 hb1 hb2
 have hq : (nx == nx) = true := beq_self_eq_true _
 unfold Bl.Sv.val Bl.sl
 go_enter Tryz.func13,Tryz.ntmps13
 go_wp2_with fail
 have HY : Hid (Below U.heap.size U U) := Lib.hid (Below.refl _ _)
 refine (same_rows s.tab a0 b0 n0 c0 d0 U _ HY.out (HT.out.1.below (bchain HBl.out HY.out)) (HT.out.2.below (bchain HBl.out HY.out))).mono ?_
 rintro e w1 ⟨rfl,z1⟩
 have HY0 := Lib.hid z1
 clear x0 x1 x2 x3 x4 x5 y0 y1 y2 y3 y4 y5 hU
 obtain ⟨x0,x1,x2,x3,x4,x5⟩ := (H1.out.below z1).cells
 obtain ⟨y0,y1,y2,y3,y4,y5⟩ := (H2.out.below z1).cells
 simp only at x0 x1 x2 x3 x4 x5 y0 y1 y2 y3 y4 y5
 clear z1
 go_wp2_with fail
 refine (Sr.same_rows s.ser a1 b1 n1 c1 d1 U _ HY0.out (HS.out.1.below (bchain HBl.out HY0.out)) (HS.out.2.below (bchain HBl.out HY0.out))).mono ?_
 rintro e w2 ⟨rfl,z2⟩
 have HY1 := Lib.hid z2
 clear x0 x1 x2 x3 x4 x5 y0 y1 y2 y3 y4 y5
 obtain ⟨x0,x1,x2,x3,x4,x5⟩ := (H1.out.below z2).cells
 obtain ⟨y0,y1,y2,y3,y4,y5⟩ := (H2.out.below z2).cells
 simp only at x0 x1 x2 x3 x4 x5 y0 y1 y2 y3 y4 y5
 clear z2
 go_wp2_with fail
 refine (keep_posted s.post rs qs a2 b2 n2 c2 d2 U _ HY1.out (HP.out.1.1.below (bchain HBl.out HY1.out)) (HP.out.1.2.below (bchain HBl.out HY1.out)) (HP.out.2.1.below (bchain HBl.out HY1.out)) (HP.out.2.2.below (bchain HBl.out HY1.out))).mono ?_
 rintro e w3 ⟨rfl,z3⟩
 have HY2 := Lib.hid z3
 clear x0 x1 x2 x3 x4 x5 y0 y1 y2 y3 y4 y5
 obtain ⟨x0,x1,x2,x3,x4,x5⟩ := (H1.out.below z3).cells
 obtain ⟨y0,y1,y2,y3,y4,y5⟩ := (H2.out.below z3).cells
 simp only at x0 x1 x2 x3 x4 x5 y0 y1 y2 y3 y4 y5
 clear z3
 go_wp2_with fail
 refine (Ba.same_rows s.book a3 b3 n3 c3 d3 U _ HY2.out (HK.out.1.below (bchain HBl.out HY2.out)) (HK.out.2.below (bchain HBl.out HY2.out))).mono ?_
 rintro e w4 ⟨rfl,z4⟩
 have HY3 := Lib.hid z4
 clear x0 x1 x2 x3 x4 x5 y0 y1 y2 y3 y4 y5
 obtain ⟨x0,x1,x2,x3,x4,x5⟩ := (H1.out.below z4).cells
 obtain ⟨y0,y1,y2,y3,y4,y5⟩ := (H2.out.below z4).cells
 simp only at x0 x1 x2 x3 x4 x5 y0 y1 y2 y3 y4 y5
 clear z4
 go_wp2_with fail
 refine (Sn.same_rows s.sess a4 b4 n4 c4 d4 U _ HY3.out (HN.out.1.below (bchain HBl.out HY3.out)) (HN.out.2.below (bchain HBl.out HY3.out))).mono ?_
 rintro e w5 ⟨rfl,z5⟩
 have HZ := Lib.hid z5
 clear x0 x1 x2 x3 x4 x5 y0 y1 y2 y3 y4 y5
 obtain ⟨x0,x1,x2,x3,x4,x5⟩ := (H1.out.below z5).cells
 obtain ⟨y0,y1,y2,y3,y4,y5⟩ := (H2.out.below z5).cells
 simp only at x0 x1 x2 x3 x4 x5 y0 y1 y2 y3 y4 y5
 clear z5
 go_wp2_with fail
 go_ret
 exact ⟨rfl,bchain HW.out (bchain HBl.out HZ.out)⟩
end Go.Proofs.YtjpfpojbalepeabGreat
namespace Go.Proofs.YtjpfpojbalepeabGreat
open Go.ChangeShapes Go.WideShapes Go.ChangeAt Go.RowKit
theorem own : ownKnob Tryz.prog.godebug = none := by kernel_rfl
theorem laidOut : laidOutB Tryz.prog = true := by kernel_rfl
end Go.Proofs.YtjpfpojbalepeabGreat
namespace Go.Proofs.YtjpfpojbalepeabGreat.Ln
open Go.RowKit
open Mem
def rv (r : T) : List Value := [.string r.text,.string r.category,.int .i64 r.count,.int .i64 r.price]
def zero : T := ⟨.empty,.empty,0,0⟩
end Go.Proofs.YtjpfpojbalepeabGreat.Ln
namespace Go.Proofs.YtjpfpojbalepeabGreat.Ln
open Go.ChangeShapes Go.WideShapes Go.ChangeAt Go.RowKit Mem
set_option maxRecDepth 100000
set_option linter.unusedVariables false
theorem cellsOf : Tryz.prog.cellsOf 82 = 4 := by kernel_rfl
def datum (H : Type) (r : T) : DataW H := .agg [.lit (.string (txt r.text)),.lit (.string (txt r.category)),.lit (.int .i64 r.count),.lit (.int .i64 r.price)]
theorem open_cells {H : Type} {enc : TypeId × Value → H} {w : World} {base : Nat} {spare : Nat → Bool} {held : Bool} {fuel : Nat} {cs : List Value} {x : DataW H × List MemPlace}
  (h : DataW.trod enc Tryz.prog w base spare held fuel 82 cs = some x) : ∃ r : T,cs = rv r ∧ x.1 = datum H r ∧ Fit r.count ∧ Fit r.price := by
 obtain ⟨xs,n,_,rfl,hl,hxl,hf⟩ := DataW.trod_struct Tryz.underlying82 h
 rw [cellsOf] at hl
 match cs,hl with
 | [v0,v1,v2,v3],_ =>
  match xs,hxl with
  | [y0,y1,y2,y3],_ =>
   have g0 : DataW.trod enc Tryz.prog w base spare held n 9 (List.take (Tryz.prog.cellsOf 9) (List.drop 0 [v0,v1,v2,v3])) = some y0 := hf 0 _ rfl
   rw [show Tryz.prog.cellsOf 9 = 1 by kernel_rfl] at g0
   simp only [List.drop,List.take] at g0
   have g1 : DataW.trod enc Tryz.prog w base spare held n 9 (List.take (Tryz.prog.cellsOf 9) (List.drop 1 [v0,v1,v2,v3])) = some y1 := hf 1 _ rfl
   rw [show Tryz.prog.cellsOf 9 = 1 by kernel_rfl] at g1
   simp only [List.drop,List.take] at g1
   have g2 : DataW.trod enc Tryz.prog w base spare held n 3 (List.take (Tryz.prog.cellsOf 3) (List.drop 2 [v0,v1,v2,v3])) = some y2 := hf 2 _ rfl
   rw [show Tryz.prog.cellsOf 3 = 1 by kernel_rfl] at g2
   simp only [List.drop,List.take] at g2
   have g3 : DataW.trod enc Tryz.prog w base spare held n 3 (List.take (Tryz.prog.cellsOf 3) (List.drop 3 [v0,v1,v2,v3])) = some y3 := hf 3 _ rfl
   rw [show Tryz.prog.cellsOf 3 = 1 by kernel_rfl] at g3
   simp only [List.drop,List.take] at g3
   obtain ⟨x0,e0,rfl,_⟩ := DataW.trod_string Tryz.underlying9 g0
   obtain ⟨x1,e1,rfl,_⟩ := DataW.trod_string Tryz.underlying9 g1
   obtain ⟨x2,e2,rfl,w2⟩ := DataW.trod_int Tryz.underlying3 g2
   obtain ⟨x3,e3,rfl,w3⟩ := DataW.trod_int Tryz.underlying3 g3
   simp only [List.cons.injEq,and_true] at e0 e1 e2 e3
   subst e0 e1 e2 e3
   exact ⟨⟨x0,x1,x2,x3⟩,rfl,rfl,fit_in w2,fit_in w3⟩
theorem weights_text {H : Type} (r : T) : (txt r.text).length ∈ (datum H r).weights Tryz.prog 82 := by
 unfold datum
 simp [DataW.weights,Tryz.underlying82,DataW.weightsEach]
theorem weights_category {H : Type} (r : T) : (txt r.category).length ∈ (datum H r).weights Tryz.prog 82 := by
 unfold datum
 simp [DataW.weights,Tryz.underlying82,DataW.weightsEach]
theorem weights_all {H : Type} {P : Program} {e : TypeId} {d : DataW H} {n : Nat} (hn : n ∈ d.weights P e) : ∀ (l : List (DataW H)),d ∈ l → n ∈ DataW.weightsAll P e l
 | a :: l,h => by
  rw [DataW.weightsAll,List.mem_append]
  rcases List.mem_cons.1 h with rfl | h
  · exact .inl hn
  · exact .inr (weights_all hn l h)
def AtA (w : World) (a : Addr) (r : T) : Prop := ∀ p,p < 4 → w.cell? (a.add p) = (rv r)[p]?
def Tight (r : T) : Prop := r.text.size ≤ 140737488351232 ∧ r.category.size ≤ 140737488351232
theorem list_tight {H : Type} {enc : TypeId × Value → H} {W : World} {ao : Option Addr} {n cap : Nat} {d : DataW H} {p : List MemPlace} {ts : List TypeId} {ds : List (DataW H)} (j : Nat)
  (hj : DataW.Trod enc Tryz.prog W 0 (fun _ => true) true 27 (.slice ao n cap) d p)
  (hsz : (DataW.weightsEach Tryz.prog ts ds).all (· ≤ reachBytes) = true) (ht : ts[j]? = some 27) (hd : ds[j]? = some d) : ∃ rs,Ls W ao n cap rs ∧ ∀ r ∈ rs,Tight r := by
 haveI : Inhabited T := ⟨zero⟩
 obtain ⟨fuel,hf⟩ := hj
 rcases Go.Deep.open_slice Tryz.underlying27 hf with ⟨hcs,_⟩ | ⟨a,len,c,m,k,D,Pl,hcs,_,hl,hm,hmm,hx,hel⟩
 ·
  simp [Value.cells] at hcs
  obtain ⟨rfl,rfl,rfl⟩ := hcs
  exact ⟨[],ls_nil W,by simp⟩
 ·
  simp [Value.cells] at hcs
  obtain ⟨rfl,rfl,rfl⟩ := hcs
  simp only [if_true] at hmm
  subst hmm
  obtain ⟨R,hR⟩ := Go.Deep.choose_lt (α := T) (n := m) (p := fun i r => AtA W (a.add (i * 4)) r ∧ D i = datum H r ∧ Fit r.count ∧ Fit r.price) (fun i hi => by
   obtain ⟨cs',h1,h2⟩ := hel i hi
   rw [cellsOf] at h1
   obtain ⟨_,_,hcell⟩ := World.cells?_some h1
   obtain ⟨r,e,hx',f⟩ := open_cells h2
   subst e
   exact ⟨r,fun p hp => hcell p hp,hx',f⟩)
  have hd' := congrArg Prod.fst hx
  simp only at hd'
  rw [hd'] at hd
  have hall : ∀ r ∈ (List.range n).map R,Short r ∧ Tight r := by
   intro r hr
   obtain ⟨i,hi,rfl⟩ := List.mem_map.1 hr
   rw [List.mem_range] at hi
   obtain ⟨_,hDi,hf0,hf1⟩ := hR i (by omega)
   have hq_text : (R i).text.size ≤ 140737488351232 := by
    have hw := List.all_eq_true.1 hsz _ (DataW.weights_mem_each ht hd (txt (R i).text).length (by
     rw [DataW.weights,Tryz.underlying27]
     refine List.mem_cons_of_mem _ (List.mem_append.2 (.inl (weights_all (weights_text (R i)) _ ?_)))
     rw [← hDi]
     exact List.mem_map.2 ⟨i,List.mem_range.2 hi,rfl⟩))
    rw [decide_eq_true_eq,txt_len] at hw
    unfold reachBytes at hw
    omega
   have hq_category : (R i).category.size ≤ 140737488351232 := by
    have hw := List.all_eq_true.1 hsz _ (DataW.weights_mem_each ht hd (txt (R i).category).length (by
     rw [DataW.weights,Tryz.underlying27]
     refine List.mem_cons_of_mem _ (List.mem_append.2 (.inl (weights_all (weights_category (R i)) _ ?_)))
     rw [← hDi]
     exact List.mem_map.2 ⟨i,List.mem_range.2 hi,rfl⟩))
    rw [decide_eq_true_eq,txt_len] at hw
    unfold reachBytes at hw
    omega
   have hs_text : (R i).text.size ≤ 140737488355328 := Nat.le_trans hq_text (by omega)
   have hs_category : (R i).category.size ≤ 140737488355328 := Nat.le_trans hq_category (by omega)
   exact ⟨⟨hs_text,hs_category,hf0,hf1⟩,⟨hq_text,hq_category⟩⟩
  refine ⟨(List.range n).map R,⟨by simp,hl,hm,(fun h => by cases h),?_,fun r hr => (hall r hr).1⟩,fun r hr => (hall r hr).2⟩
  ·
   by_cases h0 : 0 < n
   ·
    obtain ⟨b,off,spot⟩ := a
    have h1 := (hR 0 (by omega)).1 0 (by omega)
    have hspot : spot = none := by
     have h2 : W.cell? ((Addr.mk b off spot).add 0) = some (.string (R 0).text) := by
      rw [show (Addr.mk b off spot).add 0 = ((Addr.mk b off spot).add (0 * 4)).add 0 by simp [Addr.add]]
      exact h1
     simpa [Addr.add] using World.cell?_spot h2
    subst hspot
    refine .inr ⟨b,off,rfl,fun k hk => ?_⟩
    simp only [List.length_map,List.length_range] at hk
    have hcell : ∀ p,p < 4 → W.cell? ⟨b,off + k * 4 + p,none⟩ = (rv (R k))[p]? := by
     intro p hp
     rw [← (hR k (by omega)).1 p hp,Go.WideShapes.add_plain,Go.WideShapes.add_plain]
    simp only [List.getElem_map,List.getElem_range]
    exact ⟨hcell 0 (by omega),hcell 1 (by omega),hcell 2 (by omega),hcell 3 (by omega)⟩
   · exact .inl (by rw [show n = 0 by omega]; rfl)
end Go.Proofs.YtjpfpojbalepeabGreat.Ln
namespace Go.Proofs.YtjpfpojbalepeabGreat.Ca
open Go.ChangeShapes Go.WideShapes Go.ChangeAt Go.RowKit Mem
set_option maxRecDepth 100000
set_option linter.unusedVariables false
theorem cellsOf : Tryz.prog.cellsOf 33 = 17 := by kernel_rfl
def datum (H : Type) (r : T) (dl : DataW H) : DataW H := .agg [.lit (.int .i64 r.sess),.lit (.int .i64 r.seq),.agg [.lit (.int .i64 r.kind),.lit (.string (txt r.ser)),.lit (.int .i64 r.lim),.agg [.lit (.string (txt r.cat)),.agg [.lit (.int .i64 r.ry),.lit (.int .i64 r.rm),.lit (.int .i64 r.rd)],.lit (.int .i64 r.bp)],.agg [.lit (.int .i64 r.y),.lit (.int .i64 r.m),.lit (.int .i64 r.d)],dl,.agg [.lit (.string (txt r.ofS)),.lit (.int .i64 r.ofN)],.lit (.int .i64 r.csess)]]
theorem open_cells {H : Type} {enc : TypeId × Value → H} {w : World} {base : Nat} {spare : Nat → Bool} {held : Bool} {fuel : Nat} {cs : List Value} {x : DataW H × List MemPlace}
  (h : DataW.trod enc Tryz.prog w base spare held fuel 33 cs = some x) : ∃ (r : T) (dl : DataW H) (pl : List MemPlace),cs = rv r ∧ x.1 = datum H r dl ∧ DataW.Trod enc Tryz.prog w base spare held 27 (.slice r.lines.ao r.lines.n r.lines.cap) dl pl ∧ Fit r.sess ∧ Fit r.seq ∧ Fit r.kind ∧ Fit r.lim ∧ Fit r.ry ∧ Fit r.rm ∧ Fit r.rd ∧ Fit r.bp ∧ Fit r.y ∧ Fit r.m ∧ Fit r.d ∧ Fit r.ofN ∧ Fit r.csess := by
 obtain ⟨xs,n,_,rfl,hl,hxl,hf⟩ := DataW.trod_struct Tryz.underlying33 h
 rw [cellsOf] at hl
 match cs,hl with
 | [v0,v1,v2,v3,v4,v5,v6,v7,v8,v9,v10,v11,v12,v13,v14,v15,v16],_ =>
  match xs,hxl with
  | [y0,y1,y2],_ =>
   have g0 : DataW.trod enc Tryz.prog w base spare held n 3 (List.take (Tryz.prog.cellsOf 3) (List.drop 0 [v0,v1,v2,v3,v4,v5,v6,v7,v8,v9,v10,v11,v12,v13,v14,v15,v16])) = some y0 := hf 0 _ rfl
   rw [show Tryz.prog.cellsOf 3 = 1 by kernel_rfl] at g0
   simp only [List.drop,List.take] at g0
   have g1 : DataW.trod enc Tryz.prog w base spare held n 3 (List.take (Tryz.prog.cellsOf 3) (List.drop 1 [v0,v1,v2,v3,v4,v5,v6,v7,v8,v9,v10,v11,v12,v13,v14,v15,v16])) = some y1 := hf 1 _ rfl
   rw [show Tryz.prog.cellsOf 3 = 1 by kernel_rfl] at g1
   simp only [List.drop,List.take] at g1
   have g2 : DataW.trod enc Tryz.prog w base spare held n 31 (List.take (Tryz.prog.cellsOf 31) (List.drop 2 [v0,v1,v2,v3,v4,v5,v6,v7,v8,v9,v10,v11,v12,v13,v14,v15,v16])) = some y2 := hf 2 _ rfl
   rw [show Tryz.prog.cellsOf 31 = 15 by kernel_rfl] at g2
   simp only [List.drop,List.take] at g2
   obtain ⟨x0,e0,rfl,w0⟩ := DataW.trod_int Tryz.underlying3 g0
   obtain ⟨x1,e1,rfl,w1⟩ := DataW.trod_int Tryz.underlying3 g1
   obtain ⟨q2_zs,q2_k,_,rfl,_,q2_hl,q2_hf⟩ := DataW.trod_struct Tryz.underlying31 g2
   match q2_zs,q2_hl with
   | [q2_z0,q2_z1,q2_z2,q2_z3,q2_z4,q2_z5,q2_z6,q2_z7],_ =>
    have q2_g0 : DataW.trod enc Tryz.prog w base spare held q2_k 3 (List.take (Tryz.prog.cellsOf 3) (List.drop 0 [v2,v3,v4,v5,v6,v7,v8,v9,v10,v11,v12,v13,v14,v15,v16])) = some q2_z0 := q2_hf 0 _ rfl
    rw [show Tryz.prog.cellsOf 3 = 1 by kernel_rfl] at q2_g0
    simp only [List.drop,List.take] at q2_g0
    have q2_g1 : DataW.trod enc Tryz.prog w base spare held q2_k 9 (List.take (Tryz.prog.cellsOf 9) (List.drop 1 [v2,v3,v4,v5,v6,v7,v8,v9,v10,v11,v12,v13,v14,v15,v16])) = some q2_z1 := q2_hf 1 _ rfl
    rw [show Tryz.prog.cellsOf 9 = 1 by kernel_rfl] at q2_g1
    simp only [List.drop,List.take] at q2_g1
    have q2_g2 : DataW.trod enc Tryz.prog w base spare held q2_k 3 (List.take (Tryz.prog.cellsOf 3) (List.drop 2 [v2,v3,v4,v5,v6,v7,v8,v9,v10,v11,v12,v13,v14,v15,v16])) = some q2_z2 := q2_hf 2 _ rfl
    rw [show Tryz.prog.cellsOf 3 = 1 by kernel_rfl] at q2_g2
    simp only [List.drop,List.take] at q2_g2
    have q2_g3 : DataW.trod enc Tryz.prog w base spare held q2_k 26 (List.take (Tryz.prog.cellsOf 26) (List.drop 3 [v2,v3,v4,v5,v6,v7,v8,v9,v10,v11,v12,v13,v14,v15,v16])) = some q2_z3 := q2_hf 3 _ rfl
    rw [show Tryz.prog.cellsOf 26 = 5 by kernel_rfl] at q2_g3
    simp only [List.drop,List.take] at q2_g3
    have q2_g4 : DataW.trod enc Tryz.prog w base spare held q2_k 24 (List.take (Tryz.prog.cellsOf 24) (List.drop 8 [v2,v3,v4,v5,v6,v7,v8,v9,v10,v11,v12,v13,v14,v15,v16])) = some q2_z4 := q2_hf 4 _ rfl
    rw [show Tryz.prog.cellsOf 24 = 3 by kernel_rfl] at q2_g4
    simp only [List.drop,List.take] at q2_g4
    have q2_g5 : DataW.trod enc Tryz.prog w base spare held q2_k 27 (List.take (Tryz.prog.cellsOf 27) (List.drop 11 [v2,v3,v4,v5,v6,v7,v8,v9,v10,v11,v12,v13,v14,v15,v16])) = some q2_z5 := q2_hf 5 _ rfl
    rw [show Tryz.prog.cellsOf 27 = 1 by kernel_rfl] at q2_g5
    simp only [List.drop,List.take] at q2_g5
    have q2_g6 : DataW.trod enc Tryz.prog w base spare held q2_k 29 (List.take (Tryz.prog.cellsOf 29) (List.drop 12 [v2,v3,v4,v5,v6,v7,v8,v9,v10,v11,v12,v13,v14,v15,v16])) = some q2_z6 := q2_hf 6 _ rfl
    rw [show Tryz.prog.cellsOf 29 = 2 by kernel_rfl] at q2_g6
    simp only [List.drop,List.take] at q2_g6
    have q2_g7 : DataW.trod enc Tryz.prog w base spare held q2_k 3 (List.take (Tryz.prog.cellsOf 3) (List.drop 14 [v2,v3,v4,v5,v6,v7,v8,v9,v10,v11,v12,v13,v14,v15,v16])) = some q2_z7 := q2_hf 7 _ rfl
    rw [show Tryz.prog.cellsOf 3 = 1 by kernel_rfl] at q2_g7
    simp only [List.drop,List.take] at q2_g7
    obtain ⟨x2,e2,rfl,w2⟩ := DataW.trod_int Tryz.underlying3 q2_g0
    obtain ⟨x3,e3,rfl,_⟩ := DataW.trod_string Tryz.underlying9 q2_g1
    obtain ⟨x4,e4,rfl,w4⟩ := DataW.trod_int Tryz.underlying3 q2_g2
    obtain ⟨q2_q3_zs,q2_q3_k,_,rfl,_,q2_q3_hl,q2_q3_hf⟩ := DataW.trod_struct Tryz.underlying26 q2_g3
    match q2_q3_zs,q2_q3_hl with
    | [q2_q3_z0,q2_q3_z1,q2_q3_z2],_ =>
     have q2_q3_g0 : DataW.trod enc Tryz.prog w base spare held q2_q3_k 9 (List.take (Tryz.prog.cellsOf 9) (List.drop 0 [v5,v6,v7,v8,v9])) = some q2_q3_z0 := q2_q3_hf 0 _ rfl
     rw [show Tryz.prog.cellsOf 9 = 1 by kernel_rfl] at q2_q3_g0
     simp only [List.drop,List.take] at q2_q3_g0
     have q2_q3_g1 : DataW.trod enc Tryz.prog w base spare held q2_q3_k 24 (List.take (Tryz.prog.cellsOf 24) (List.drop 1 [v5,v6,v7,v8,v9])) = some q2_q3_z1 := q2_q3_hf 1 _ rfl
     rw [show Tryz.prog.cellsOf 24 = 3 by kernel_rfl] at q2_q3_g1
     simp only [List.drop,List.take] at q2_q3_g1
     have q2_q3_g2 : DataW.trod enc Tryz.prog w base spare held q2_q3_k 3 (List.take (Tryz.prog.cellsOf 3) (List.drop 4 [v5,v6,v7,v8,v9])) = some q2_q3_z2 := q2_q3_hf 2 _ rfl
     rw [show Tryz.prog.cellsOf 3 = 1 by kernel_rfl] at q2_q3_g2
     simp only [List.drop,List.take] at q2_q3_g2
     obtain ⟨x5,e5,rfl,_⟩ := DataW.trod_string Tryz.underlying9 q2_q3_g0
     obtain ⟨q2_q3_q1_zs,q2_q3_q1_k,_,rfl,_,q2_q3_q1_hl,q2_q3_q1_hf⟩ := DataW.trod_struct Tryz.underlying24 q2_q3_g1
     match q2_q3_q1_zs,q2_q3_q1_hl with
     | [q2_q3_q1_z0,q2_q3_q1_z1,q2_q3_q1_z2],_ =>
      have q2_q3_q1_g0 : DataW.trod enc Tryz.prog w base spare held q2_q3_q1_k 3 (List.take (Tryz.prog.cellsOf 3) (List.drop 0 [v6,v7,v8])) = some q2_q3_q1_z0 := q2_q3_q1_hf 0 _ rfl
      rw [show Tryz.prog.cellsOf 3 = 1 by kernel_rfl] at q2_q3_q1_g0
      simp only [List.drop,List.take] at q2_q3_q1_g0
      have q2_q3_q1_g1 : DataW.trod enc Tryz.prog w base spare held q2_q3_q1_k 3 (List.take (Tryz.prog.cellsOf 3) (List.drop 1 [v6,v7,v8])) = some q2_q3_q1_z1 := q2_q3_q1_hf 1 _ rfl
      rw [show Tryz.prog.cellsOf 3 = 1 by kernel_rfl] at q2_q3_q1_g1
      simp only [List.drop,List.take] at q2_q3_q1_g1
      have q2_q3_q1_g2 : DataW.trod enc Tryz.prog w base spare held q2_q3_q1_k 3 (List.take (Tryz.prog.cellsOf 3) (List.drop 2 [v6,v7,v8])) = some q2_q3_q1_z2 := q2_q3_q1_hf 2 _ rfl
      rw [show Tryz.prog.cellsOf 3 = 1 by kernel_rfl] at q2_q3_q1_g2
      simp only [List.drop,List.take] at q2_q3_q1_g2
      obtain ⟨x6,e6,rfl,w6⟩ := DataW.trod_int Tryz.underlying3 q2_q3_q1_g0
      obtain ⟨x7,e7,rfl,w7⟩ := DataW.trod_int Tryz.underlying3 q2_q3_q1_g1
      obtain ⟨x8,e8,rfl,w8⟩ := DataW.trod_int Tryz.underlying3 q2_q3_q1_g2
      obtain ⟨x9,e9,rfl,w9⟩ := DataW.trod_int Tryz.underlying3 q2_q3_g2
      obtain ⟨q2_q4_zs,q2_q4_k,_,rfl,_,q2_q4_hl,q2_q4_hf⟩ := DataW.trod_struct Tryz.underlying24 q2_g4
      match q2_q4_zs,q2_q4_hl with
      | [q2_q4_z0,q2_q4_z1,q2_q4_z2],_ =>
       have q2_q4_g0 : DataW.trod enc Tryz.prog w base spare held q2_q4_k 3 (List.take (Tryz.prog.cellsOf 3) (List.drop 0 [v10,v11,v12])) = some q2_q4_z0 := q2_q4_hf 0 _ rfl
       rw [show Tryz.prog.cellsOf 3 = 1 by kernel_rfl] at q2_q4_g0
       simp only [List.drop,List.take] at q2_q4_g0
       have q2_q4_g1 : DataW.trod enc Tryz.prog w base spare held q2_q4_k 3 (List.take (Tryz.prog.cellsOf 3) (List.drop 1 [v10,v11,v12])) = some q2_q4_z1 := q2_q4_hf 1 _ rfl
       rw [show Tryz.prog.cellsOf 3 = 1 by kernel_rfl] at q2_q4_g1
       simp only [List.drop,List.take] at q2_q4_g1
       have q2_q4_g2 : DataW.trod enc Tryz.prog w base spare held q2_q4_k 3 (List.take (Tryz.prog.cellsOf 3) (List.drop 2 [v10,v11,v12])) = some q2_q4_z2 := q2_q4_hf 2 _ rfl
       rw [show Tryz.prog.cellsOf 3 = 1 by kernel_rfl] at q2_q4_g2
       simp only [List.drop,List.take] at q2_q4_g2
       obtain ⟨x10,e10,rfl,w10⟩ := DataW.trod_int Tryz.underlying3 q2_q4_g0
       obtain ⟨x11,e11,rfl,w11⟩ := DataW.trod_int Tryz.underlying3 q2_q4_g1
       obtain ⟨x12,e12,rfl,w12⟩ := DataW.trod_int Tryz.underlying3 q2_q4_g2
       obtain ⟨ao,nn,cap,e13⟩ : ∃ ao nn cap,[v13] = [Value.slice ao nn cap] := by
        rcases Go.Deep.open_slice Tryz.underlying27 q2_g5 with ⟨hcs,_⟩ | ⟨a,len,c,_,_,_,_,hcs,_⟩
        · exact ⟨_,_,_,hcs⟩
        · exact ⟨_,_,_,hcs⟩
       obtain ⟨q2_q6_zs,q2_q6_k,_,rfl,_,q2_q6_hl,q2_q6_hf⟩ := DataW.trod_struct Tryz.underlying29 q2_g6
       match q2_q6_zs,q2_q6_hl with
       | [q2_q6_z0,q2_q6_z1],_ =>
        have q2_q6_g0 : DataW.trod enc Tryz.prog w base spare held q2_q6_k 9 (List.take (Tryz.prog.cellsOf 9) (List.drop 0 [v14,v15])) = some q2_q6_z0 := q2_q6_hf 0 _ rfl
        rw [show Tryz.prog.cellsOf 9 = 1 by kernel_rfl] at q2_q6_g0
        simp only [List.drop,List.take] at q2_q6_g0
        have q2_q6_g1 : DataW.trod enc Tryz.prog w base spare held q2_q6_k 3 (List.take (Tryz.prog.cellsOf 3) (List.drop 1 [v14,v15])) = some q2_q6_z1 := q2_q6_hf 1 _ rfl
        rw [show Tryz.prog.cellsOf 3 = 1 by kernel_rfl] at q2_q6_g1
        simp only [List.drop,List.take] at q2_q6_g1
        obtain ⟨x14,e14,rfl,_⟩ := DataW.trod_string Tryz.underlying9 q2_q6_g0
        obtain ⟨x15,e15,rfl,w15⟩ := DataW.trod_int Tryz.underlying3 q2_q6_g1
        obtain ⟨x16,e16,rfl,w16⟩ := DataW.trod_int Tryz.underlying3 q2_g7
        simp only [List.cons.injEq,and_true] at e0 e1 e2 e3 e4 e5 e6 e7 e8 e9 e10 e11 e12 e13 e14 e15 e16
        subst e0 e1 e2 e3 e4 e5 e6 e7 e8 e9 e10 e11 e12 e13 e14 e15 e16
        exact ⟨⟨x0,x1,x2,x3,x4,x5,x6,x7,x8,x9,x10,x11,x12,⟨ao,nn,cap⟩,x14,x15,x16⟩,q2_z5.1,q2_z5.2,rfl,rfl,⟨q2_k,q2_g5⟩,fit_in w0,fit_in w1,fit_in w2,fit_in w4,fit_in w6,fit_in w7,fit_in w8,fit_in w9,fit_in w10,fit_in w11,fit_in w12,fit_in w15,fit_in w16⟩
theorem weights_ser {H : Type} (r : T) (dl : DataW H) : (txt r.ser).length ∈ (datum H r dl).weights Tryz.prog 33 := by
 unfold datum
 simp [DataW.weights,DataW.weightsEach,Tryz.underlying33,Tryz.underlying31,Tryz.underlying26,Tryz.underlying24,Tryz.underlying29]
theorem weights_cat {H : Type} (r : T) (dl : DataW H) : (txt r.cat).length ∈ (datum H r dl).weights Tryz.prog 33 := by
 unfold datum
 simp [DataW.weights,DataW.weightsEach,Tryz.underlying33,Tryz.underlying31,Tryz.underlying26,Tryz.underlying24,Tryz.underlying29]
theorem weights_ofS {H : Type} (r : T) (dl : DataW H) : (txt r.ofS).length ∈ (datum H r dl).weights Tryz.prog 33 := by
 unfold datum
 simp [DataW.weights,DataW.weightsEach,Tryz.underlying33,Tryz.underlying31,Tryz.underlying26,Tryz.underlying24,Tryz.underlying29]
theorem weights_dl {H : Type} (r : T) (dl : DataW H) (k : Nat) (h : k ∈ dl.weights Tryz.prog 27) : k ∈ (datum H r dl).weights Tryz.prog 33 := by
 unfold datum
 simp [DataW.weights,DataW.weightsEach,Tryz.underlying33,Tryz.underlying31,Tryz.underlying26,Tryz.underlying24,Tryz.underlying29,h]
def Sub (W : World) (r : T) : Prop := ∃ ls,Ln.Ls W r.lines.ao r.lines.n r.lines.cap ls ∧ ∀ x ∈ ls,Ln.Tight x
theorem one_in {H : Type} {enc : TypeId × Value → H} {W : World} {b0 : Nat} {rr : Reach} {v : Value} {d : DataW H} {p : List MemPlace} {ts : List TypeId} {ds : List (DataW H)} (j : Nat)
  (hv : Value.okWide Tryz.prog W rr b0 33 v) (h : DataW.Trod enc Tryz.prog W 0 (fun _ => true) true 33 v d p)
  (hsz : (DataW.weightsEach Tryz.prog ts ds).all (· ≤ reachBytes) = true) (ht : ts[j]? = some 33) (hd : ds[j]? = some d) : ∃ r : T,v = val r ∧ Short r ∧ Sub W r := by
 obtain ⟨cs,rfl,hc⟩ := okWide_struct Tryz.underlying33 hv
 obtain ⟨fuel,hf⟩ := h
 obtain ⟨r,dl,pl,e,hx,hl,f_sess,f_seq,f_kind,f_lim,f_ry,f_rm,f_rd,f_bp,f_y,f_m,f_d,f_ofN,f_csess⟩ := open_cells hf
 have hd' : d = datum H r dl := hx
 subst hd'
 have hs_ser : r.ser.size ≤ 140737488355328 := by
  have hw := List.all_eq_true.1 hsz _ (DataW.weights_mem_each ht hd _ (weights_ser r dl))
  rw [decide_eq_true_eq,txt_len] at hw
  unfold reachBytes at hw
  omega
 have hs_cat : r.cat.size ≤ 140737488355328 := by
  have hw := List.all_eq_true.1 hsz _ (DataW.weights_mem_each ht hd _ (weights_cat r dl))
  rw [decide_eq_true_eq,txt_len] at hw
  unfold reachBytes at hw
  omega
 have hs_ofS : r.ofS.size ≤ 140737488355328 := by
  have hw := List.all_eq_true.1 hsz _ (DataW.weights_mem_each ht hd _ (weights_ofS r dl))
  rw [decide_eq_true_eq,txt_len] at hw
  unfold reachBytes at hw
  omega
 have hz : (DataW.weightsEach Tryz.prog [27] [dl]).all (· ≤ reachBytes) = true := by
  refine List.all_eq_true.2 fun k hk => ?_
  refine List.all_eq_true.1 hsz k (DataW.weights_mem_each ht hd k (weights_dl r dl k ?_))
  simpa [DataW.weightsEach] using hk
 obtain ⟨ls,hls,htg⟩ := Ln.list_tight 0 hl hz rfl rfl
 refine ⟨r,?_,⟨f_sess,f_seq,f_kind,hs_ser,f_lim,hs_cat,f_ry,f_rm,f_rd,f_bp,f_y,f_m,f_d,hs_ofS,f_ofN,f_csess⟩,⟨ls,hls,htg⟩⟩
 have e' : cs.toList = rv r := e
 unfold val
 congr 1
 apply Array.toList_inj.1
 rw [e']
 rfl
theorem weights_all {H : Type} {P : Program} {e : TypeId} {d : DataW H} {n : Nat} (hn : n ∈ d.weights P e) : ∀ (l : List (DataW H)),d ∈ l → n ∈ DataW.weightsAll P e l
 | a :: l,h => by
  rw [DataW.weightsAll,List.mem_append]
  rcases List.mem_cons.1 h with rfl | h
  · exact .inl hn
  · exact .inr (weights_all hn l h)
def AtA (w : World) (a : Addr) (r : T) : Prop := ∀ p,p < 17 → w.cell? (a.add p) = (rv r)[p]?
theorem list_in {H : Type} {enc : TypeId × Value → H} {W : World} {ao : Option Addr} {n cap : Nat} {d : DataW H} {p : List MemPlace} {ts : List TypeId} {ds : List (DataW H)} (j : Nat)
  (hj : DataW.Trod enc Tryz.prog W 0 (fun _ => true) true 22 (.slice ao n cap) d p)
  (hsz : (DataW.weightsEach Tryz.prog ts ds).all (· ≤ reachBytes) = true) (ht : ts[j]? = some 22) (hd : ds[j]? = some d) : ∃ rs,Ls W ao n cap rs ∧ ∀ r ∈ rs,Sub W r := by
 haveI : Inhabited T := ⟨zero⟩
 obtain ⟨fuel,hf⟩ := hj
 rcases Go.Deep.open_slice Tryz.underlying22 hf with ⟨hcs,_⟩ | ⟨a,len,c,m,k,D,Pl,hcs,_,hl,hm,hmm,hx,hel⟩
 ·
  simp [Value.cells] at hcs
  obtain ⟨rfl,rfl,rfl⟩ := hcs
  exact ⟨[],ls_nil W,by simp⟩
 ·
  simp [Value.cells] at hcs
  obtain ⟨rfl,rfl,rfl⟩ := hcs
  simp only [if_true] at hmm
  subst hmm
  obtain ⟨R,hR⟩ := Go.Deep.choose_lt (α := T) (n := m) (p := fun i r => AtA W (a.add (i * 17)) r ∧ (∃ (dl : DataW H) (pl : List MemPlace),D i = datum H r dl ∧ DataW.Trod enc Tryz.prog W 0 (fun _ => true) true 27 (.slice r.lines.ao r.lines.n r.lines.cap) dl pl) ∧ Fit r.sess ∧ Fit r.seq ∧ Fit r.kind ∧ Fit r.lim ∧ Fit r.ry ∧ Fit r.rm ∧ Fit r.rd ∧ Fit r.bp ∧ Fit r.y ∧ Fit r.m ∧ Fit r.d ∧ Fit r.ofN ∧ Fit r.csess) (fun i hi => by
   obtain ⟨cs',h1,h2⟩ := hel i hi
   rw [cellsOf] at h1
   obtain ⟨_,_,hcell⟩ := World.cells?_some h1
   obtain ⟨r,dl,pl,e,hx',hl',f⟩ := open_cells h2
   subst e
   exact ⟨r,fun p hp => hcell p hp,⟨dl,pl,hx',hl'⟩,f⟩)
  have hd' := congrArg Prod.fst hx
  simp only at hd'
  rw [hd'] at hd
  have hin : ∀ i,i < n → ∀ dl,D i = datum H (R i) dl → ∀ k,k ∈ (datum H (R i) dl).weights Tryz.prog 33 → decide (k ≤ reachBytes) = true := by
   intro i hi dl hDi k hk
   refine List.all_eq_true.1 hsz k (DataW.weights_mem_each ht hd k ?_)
   rw [DataW.weights,Tryz.underlying22]
   refine List.mem_cons_of_mem _ (List.mem_append.2 (.inl (weights_all hk _ ?_)))
   rw [← hDi]
   exact List.mem_map.2 ⟨i,List.mem_range.2 hi,rfl⟩
  have hall : ∀ r ∈ (List.range n).map R,Short r ∧ Sub W r := by
   intro r hr
   obtain ⟨i,hi,rfl⟩ := List.mem_map.1 hr
   rw [List.mem_range] at hi
   obtain ⟨_,⟨dl,pl,hDi,hL⟩,f_sess,f_seq,f_kind,f_lim,f_ry,f_rm,f_rd,f_bp,f_y,f_m,f_d,f_ofN,f_csess⟩ := hR i (by omega)
   have hs_ser : (R i).ser.size ≤ 140737488355328 := by
    have hw := hin i hi dl hDi _ (weights_ser (R i) dl)
    rw [decide_eq_true_eq,txt_len] at hw
    unfold reachBytes at hw
    omega
   have hs_cat : (R i).cat.size ≤ 140737488355328 := by
    have hw := hin i hi dl hDi _ (weights_cat (R i) dl)
    rw [decide_eq_true_eq,txt_len] at hw
    unfold reachBytes at hw
    omega
   have hs_ofS : (R i).ofS.size ≤ 140737488355328 := by
    have hw := hin i hi dl hDi _ (weights_ofS (R i) dl)
    rw [decide_eq_true_eq,txt_len] at hw
    unfold reachBytes at hw
    omega
   have hz : (DataW.weightsEach Tryz.prog [27] [dl]).all (· ≤ reachBytes) = true := by
    refine List.all_eq_true.2 fun k hk => ?_
    refine hin i hi dl hDi k (weights_dl (R i) dl k ?_)
    simpa [DataW.weightsEach] using hk
   obtain ⟨ls,hls,htg⟩ := Ln.list_tight 0 hL hz rfl rfl
   exact ⟨⟨f_sess,f_seq,f_kind,hs_ser,f_lim,hs_cat,f_ry,f_rm,f_rd,f_bp,f_y,f_m,f_d,hs_ofS,f_ofN,f_csess⟩,⟨ls,hls,htg⟩⟩
  refine ⟨(List.range n).map R,⟨by simp,hl,hm,(fun h => by cases h),?_,fun r hr => (hall r hr).1⟩,fun r hr => (hall r hr).2⟩
  ·
   by_cases h0 : 0 < n
   ·
    obtain ⟨b,off,spot⟩ := a
    have h1 := (hR 0 (by omega)).1 0 (by omega)
    have hspot : spot = none := by
     have h2 : W.cell? ((Addr.mk b off spot).add 0) = some (.int .i64 (R 0).sess) := by
      rw [show (Addr.mk b off spot).add 0 = ((Addr.mk b off spot).add (0 * 17)).add 0 by simp [Addr.add]]
      exact h1
     simpa [Addr.add] using World.cell?_spot h2
    subst hspot
    refine .inr ⟨b,off,rfl,fun k hk => ?_⟩
    simp only [List.length_map,List.length_range] at hk
    have hcell : ∀ p,p < 17 → W.cell? ⟨b,off + k * 17 + p,none⟩ = (rv (R k))[p]? := by
     intro p hp
     rw [← (hR k (by omega)).1 p hp,Go.WideShapes.add_plain,Go.WideShapes.add_plain]
    simp only [List.getElem_map,List.getElem_range]
    exact ⟨hcell 0 (by omega),hcell 1 (by omega),hcell 2 (by omega),hcell 3 (by omega),hcell 4 (by omega),hcell 5 (by omega),hcell 6 (by omega),hcell 7 (by omega),hcell 8 (by omega),hcell 9 (by omega),hcell 10 (by omega),hcell 11 (by omega),hcell 12 (by omega),hcell 13 (by omega),hcell 14 (by omega),hcell 15 (by omega),hcell 16 (by omega)⟩
   · exact .inl (by rw [show n = 0 by omega]; rfl)
end Go.Proofs.YtjpfpojbalepeabGreat.Ca
namespace Go.Proofs.YtjpfpojbalepeabGreat.Ba
open Go.RowKit
open Mem
def rv (r : T) : List Value := [.string r.acct,.int .i64 r.amt]
theorem rv_len (r : T) : (rv r).length = 2 := rfl
theorem flat_len : ∀ rs : List T,(rs.flatMap rv).length = rs.length * 2
 | [] => rfl
 | r :: l => by
  rw [List.flatMap_cons,List.length_append,rv_len,flat_len l,List.length_cons]
  omega
theorem flat_at : ∀ (rs : List T) (k p : Nat) (hk : k < rs.length),p < 2 → (rs.flatMap rv)[k * 2 + p]? = (rv rs[k])[p]?
 | r :: l,0,p,_,hp => by
  rw [List.flatMap_cons,List.getElem?_append_left (by rw [rv_len]; omega),Nat.zero_mul,Nat.zero_add]
  rfl
 | r :: l,k + 1,p,hk,hp => by
  rw [List.flatMap_cons,List.getElem?_append_right (by rw [rv_len]; omega),rv_len,show (k + 1) * 2 + p - 2 = k * 2 + p by omega]
  exact flat_at l k p (by simpa using hk) hp
theorem one_cell (rs : List T) : ∀ v ∈ rs.flatMap rv,v.oneCell' = true := by
 intro v hv
 obtain ⟨r,_,h⟩ := List.mem_flatMap.1 hv
 unfold rv at h
 simp only [List.mem_cons,List.not_mem_nil,or_false] at h
 rcases h with rfl | rfl <;> rfl
theorem news_of {w : World} {b off : Nat} {rs : List T} (h : ∀ (k : Nat) (hk : k < rs.length),At w b (off + k * 2) rs[k]) (j : Nat) (u : Value) (hu : (rs.flatMap rv)[j]? = some u) : w.cell? ((⟨b,off,none⟩ : Addr).add j) = some u := by
 have hj : j < (rs.flatMap rv).length := by
  obtain ⟨hj,_⟩ := List.getElem?_eq_some_iff.1 hu
  exact hj
 rw [flat_len] at hj
 obtain ⟨k,p,rfl,hp⟩ : ∃ k p,j = k * 2 + p ∧ p < 2 := ⟨j / 2,j % 2,by omega,by omega⟩
 have hk : k < rs.length := by omega
 rw [flat_at rs k p hk hp] at hu
 have ha : (⟨b,off,none⟩ : Addr).add (k * 2 + p) = ⟨b,off + k * 2 + p,none⟩ := by
  unfold Addr.add
  split
  ·
   rename_i e
   simp only [Addr.mk.injEq,true_and,and_true]
   omega
  ·
   simp only [Addr.mk.injEq,true_and,and_true]
   omega
 rw [ha]
 obtain ⟨c0,c1⟩ := h k hk
 have hp' : p = 0 ∨ p = 1 := by omega
 unfold rv at hu
 rcases hp' with rfl | rfl
 all_goals simp at hu
 all_goals subst hu
 · exact c0
 · exact c1
def Own (w : World) (B : Nat) (v : Value) (xs : List T) : Prop := w.ownsRow B 77 2 v xs.length (xs.flatMap rv)
theorem own_nil (w : World) (B : Nat) : Own w B (.slice none 0 0) [] := ⟨rfl,.inl ⟨rfl,rfl⟩⟩
theorem own_ls {w : World} {B : Nat} {v : Value} {xs : List T} (h : Own w B v xs) (hs : ∀ r ∈ xs,Short r) : ∃ ao cap,v = .slice ao xs.length cap ∧ Ls w ao xs.length cap xs ∧ (∀ ad,ao = some ad → ∃ g,ad = ⟨g,0,none⟩ ∧ B ≤ g) := by
 rcases h.2 with ⟨h',h2⟩ | ⟨g,cap,cur,h',hb,hg,hnc,hcm,hcs,htake⟩
 ·
  have e : xs = [] := List.length_eq_zero_iff.1 h2
  subst e
  exact ⟨none,0,h',⟨rfl,Nat.le_refl _,by omega,fun _ => rfl,.inl rfl,hs⟩,fun ad k => by cases k⟩
 ·
  refine ⟨some ⟨g,0,none⟩,cap,h',⟨rfl,hnc,hcm,fun k => (by cases k),.inr ⟨g,0,rfl,fun k hk => ?_⟩,hs⟩,fun ad k => by cases k; exact ⟨g,rfl,hb⟩⟩
  have hcell : ∀ p,p < 2 → w.cell? ⟨g,0 + k * 2 + p,none⟩ = (rv xs[k])[p]? := by
   intro p hp
   rw [Nat.zero_add,cell_of_row w g _ _ _ _ hg,← flat_at xs k p hk hp,← htake,List.getElem?_take_of_lt (by omega)]
   simp
  exact ⟨hcell 0 (by omega),hcell 1 (by omega)⟩
def zero : T := ⟨.empty,0⟩
def zeroV : Value := .agg #[.string .empty,.int .i64 0]
theorem info : (Tryz.prog.info? 77).map (fun i => (i.zero,i.size,i.bytes)) = some (some zeroV,2,24) := by kernel_rfl
theorem wp_append {o : Oper} {a : Act} {K : Act → World → Prop} {Q : Exit → Act → World → Prop} (w : World) (s x : Operand)
  (ho : o.op = .call { callee := .builtin .append,args := #[s,x],argTypes := #[37,37] })
  (B : Nat) (v : Value) (xs : List T) (hs : a.eval s = v) (hown : Own w B v xs)
  (ao : Option Addr) (n cap : Nat) (zs : List T) (hx : a.eval x = .slice ao n cap) (hn : n = zs.length) (hnil : ao = none → cap = 0) (hsrc : Seg w ao zs) (hl : (xs.length + n) * 24 ≤ 140737488355328) (hb : B ≤ w.heap.size)
  (h : ∀ v' w1,Own w1 B v' (xs ++ zs) → w.grownBy w1 v.ownBlock → (v'.ownBlock = v.ownBlock ∨ v'.ownBlock = some w.heap.size) → K (a.put o.dst v') w1) : o.wp Tryz.prog a w K Q := by
 have hzs : zeroV.cells.size = 2 := rfl
 obtain ⟨i0,hi,hz0,hz1,hz2⟩ := info_parts info
 have hmx : maxLen = 9223372036854775807 := rfl
 have empty : zs = [] → n = 0 → Own w B v (xs ++ zs) := by
  intro e _
  rw [e,List.append_nil]
  exact hown
 cases ao with
 | none =>
  obtain rfl : cap = 0 := hnil rfl
  rcases hsrc with e | ⟨b,off,e,_⟩
  ·
   obtain rfl : n = 0 := by rw [hn,e]; rfl
   have hrun := run_append_owned_none (P := Tryz.prog) (w := w) B 37 o.type 77 i0 2 Tryz.underlying37 hi v _ _ hown
   unfold Oper.wp
   simp [execOp,ho,resolve,invoke,builtin,hs,hx,hrun,Result.andThen]
   exact h v w (empty e rfl) ⟨rfl,rfl,rfl,Nat.le_refl _,fun _ _ _ => rfl⟩ (.inl rfl)
  · cases e
 | some ad =>
  obtain ⟨v',w',hr,h2,h3,_,h5⟩ := run_append_own_at (P := Tryz.prog) w B 37 o.type 77 i0 zeroV 2 24 Tryz.underlying37 hi hz0 hz1 hz2 hzs (by omega) v xs.length (xs.flatMap rv) hown ad n cap (zs.flatMap rv) (by rw [flat_len,hn]) (by
   rcases hsrc with e | ⟨b,off,e,hc⟩
   ·
    rw [e]
    intro j u hu
    simp at hu
   ·
    cases e
    exact fun j u hu => news_of hc j u hu) (one_cell zs) (by omega) hl hb
  unfold Oper.wp execOp
  simp only [ho,resolve,invoke,builtin,Sem.run_bind,Sem.run_pure,Result.andThen_ok,List.map_toArray,List.map_cons,List.map_nil,hs,hx,hr]
  refine h v' w' ?_ h3 h5
  unfold Own
  rw [List.flatMap_append,List.length_append,← hn]
  exact h2
theorem wpList_append {ops : Array Oper} {rest : List Oper} {o : Oper} {a : Act} {Q : Exit → Act → World → Prop} (w : World) (hgd : o.guard = none) (s x : Operand)
  (ho : o.op = .call { callee := .builtin .append,args := #[s,x],argTypes := #[37,37] })
  (B : Nat) (v : Value) (xs : List T) (hs : a.eval s = v) (hown : Own w B v xs)
  (ao : Option Addr) (n cap : Nat) (zs : List T) (hx : a.eval x = .slice ao n cap) (hn : n = zs.length) (hnil : ao = none → cap = 0) (hsrc : Seg w ao zs) (hl : (xs.length + n) * 24 ≤ 140737488355328) (hb : B ≤ w.heap.size)
  (h : ∀ v' w1,Own w1 B v' (xs ++ zs) → w.grownBy w1 v.ownBlock → (v'.ownBlock = v.ownBlock ∨ v'.ownBlock = some w.heap.size) → wpList Tryz.prog ops Q rest (a.put o.dst v') w1) : wpList Tryz.prog ops Q (o :: rest) a w :=
 wpList_plain hgd fun _ hK => wp_append w s x ho B v xs hs hown ao n cap zs hx hn hnil hsrc hl hb fun v' w1 h1 h2 h3 => hK _ _ (h v' w1 h1 h2 h3)
theorem own_ge {w : World} {B : Nat} {v : Value} {xs : List T} (h : Own w B v xs) : ∀ k,v.ownBlock = some k → B ≤ k := by
 intro k hk
 rcases h.2 with ⟨h',_⟩ | ⟨g,cap,cur,h',hb,_⟩
 ·
  rw [h'] at hk
  cases hk
 ·
  rw [h'] at hk
  simp only [Value.ownBlock,Option.some.injEq] at hk
  omega
theorem own_mono {w : World} {B C : Nat} {v : Value} {xs : List T} (h : Own w B v xs) (hc : C ≤ B) : Own w C v xs := by
 obtain ⟨h1,h2⟩ := h
 refine ⟨h1,?_⟩
 rcases h2 with h2 | ⟨g,cap,cur,h',hb,h3⟩
 · exact .inl h2
 · exact .inr ⟨g,cap,cur,h',by omega,h3⟩
theorem own_alloc {w : World} {B : Nat} {v : Value} {xs : List T} (h : Own w B v xs) (o : Obj) : Own (w.alloc o) B v xs := World.ownsRow.alloc h o
theorem own_below {w u : World} {B : Nat} {v : Value} {xs : List T} (h : Own w B v xs) (k : Below w.heap.size w u) : Own u B v xs := by
 obtain ⟨h1,h2⟩ := h
 refine ⟨h1,?_⟩
 rcases h2 with h2 | ⟨g,cap,cur,h',hb,hg,h3⟩
 · exact .inl h2
 ·
  refine .inr ⟨g,cap,cur,h',hb,?_,h3⟩
  have hl : g < w.heap.size := by
   obtain ⟨hl,_⟩ := Array.getElem?_eq_some_iff.1 hg
   exact hl
  rw [k.block g hl]
  exact hg
def block (r : T) : Obj := .cells #[.string r.acct,.int .i64 r.amt] 77 (0,0)
theorem seg_block {X : World} {g : Nat} {r : T} (h : X.heap[g]? = some (block r)) : Seg X (some ⟨g,0,none⟩) [r] := by
 refine .inr ⟨g,0,rfl,fun k hk => ?_⟩
 obtain rfl : k = 0 := by simpa using hk
 unfold block at h
 refine ⟨?_,?_⟩
 all_goals rw [cell_of_row X g _ _ _ _ h]
 all_goals rfl
end Go.Proofs.YtjpfpojbalepeabGreat.Ba
namespace Go.Proofs.YtjpfpojbalepeabGreat
open Go.RowKit
open Vt (Rt)
def rv (r : Rt) : List Value := [.string r.cat,.int .i64 r.y,.int .i64 r.m,.int .i64 r.d,.int .i64 r.bp]
theorem rv_len (r : Rt) : (rv r).length = 5 := rfl
theorem flat_len : ∀ rs : List Rt,(rs.flatMap rv).length = rs.length * 5
 | [] => rfl
 | r :: l => by
  rw [List.flatMap_cons,List.length_append,rv_len,flat_len l,List.length_cons]
  omega
theorem flat_at : ∀ (rs : List Rt) (k p : Nat) (hk : k < rs.length),p < 5 → (rs.flatMap rv)[k * 5 + p]? = (rv rs[k])[p]?
 | r :: l,0,p,_,hp => by
  rw [List.flatMap_cons,List.getElem?_append_left (by rw [rv_len]; omega),Nat.zero_mul,Nat.zero_add]
  rfl
 | r :: l,k + 1,p,hk,hp => by
  rw [List.flatMap_cons,List.getElem?_append_right (by rw [rv_len]; omega),rv_len,show (k + 1) * 5 + p - 5 = k * 5 + p by omega]
  exact flat_at l k p (by simpa using hk) hp
theorem oneR (rs : List Rt) : ∀ v ∈ rs.flatMap rv,v.oneCell' = true := by
 intro v hv
 obtain ⟨r,_,h⟩ := List.mem_flatMap.1 hv
 unfold rv at h
 simp only [List.mem_cons,List.not_mem_nil,or_false] at h
 rcases h with rfl | rfl | rfl | rfl | rfl <;> rfl
theorem news_of {w : World} {b off : Nat} {rs : List Rt} (h : ∀ (k : Nat) (hk : k < rs.length),RowAt w b (off + k * 5) rs[k]) (j : Nat) (u : Value) (hu : (rs.flatMap rv)[j]? = some u) : w.cell? ((⟨b,off,none⟩ : Addr).add j) = some u := by
 have hj : j < (rs.flatMap rv).length := by
  obtain ⟨hj,_⟩ := List.getElem?_eq_some_iff.1 hu
  exact hj
 rw [flat_len] at hj
 obtain ⟨k,p,rfl,hp⟩ : ∃ k p,j = k * 5 + p ∧ p < 5 := ⟨j / 5,j % 5,by omega,by omega⟩
 have hk : k < rs.length := by omega
 rw [flat_at rs k p hk hp] at hu
 have ha : (⟨b,off,none⟩ : Addr).add (k * 5 + p) = ⟨b,off + k * 5 + p,none⟩ := by
  unfold Addr.add
  split
  ·
   rename_i e
   simp only [Addr.mk.injEq,true_and,and_true]
   omega
  ·
   simp only [Addr.mk.injEq,true_and,and_true]
   omega
 rw [ha]
 obtain ⟨c0,c1,c2,c3,c4⟩ := h k hk
 have hp' : p = 0 ∨ p = 1 ∨ p = 2 ∨ p = 3 ∨ p = 4 := by omega
 unfold rv at hu
 rcases hp' with rfl | rfl | rfl | rfl | rfl
 all_goals simp at hu
 all_goals subst hu
 · exact c0
 · exact c1
 · exact c2
 · exact c3
 · exact c4
def OwnR (w : World) (B : Nat) (v : Value) (xs : List Rt) : Prop := w.ownsRow B 26 5 v xs.length (xs.flatMap rv)
theorem own_rts {w : World} {B : Nat} {v : Value} {xs : List Rt} (h : OwnR w B v xs) (hs : ∀ r ∈ xs,Short r) : ∃ ao cap,v = .slice ao xs.length cap ∧ Rts w ao xs.length cap xs ∧ (∀ ad,ao = some ad → ∃ g,ad = ⟨g,0,none⟩ ∧ B ≤ g) := by
 rcases h.2 with ⟨h',h2⟩ | ⟨g,cap,cur,h',hb,hg,hnc,hcm,hcs,htake⟩
 ·
  have e : xs = [] := List.length_eq_zero_iff.1 h2
  subst e
  exact ⟨none,0,h',⟨rfl,Nat.le_refl _,by omega,fun _ => rfl,.inl rfl,hs⟩,fun ad k => by cases k⟩
 ·
  refine ⟨some ⟨g,0,none⟩,cap,h',⟨rfl,hnc,hcm,fun k => (by cases k),.inr ⟨g,0,rfl,fun k hk => ?_⟩,hs⟩,fun ad k => by cases k; exact ⟨g,rfl,hb⟩⟩
  have hcell : ∀ p,p < 5 → w.cell? ⟨g,0 + k * 5 + p,none⟩ = (rv xs[k])[p]? := by
   intro p hp
   rw [Nat.zero_add,cell_of_row w g _ _ _ _ hg,← flat_at xs k p hk hp,← htake,List.getElem?_take_of_lt (by omega)]
   simp
  exact ⟨hcell 0 (by omega),hcell 1 (by omega),hcell 2 (by omega),hcell 3 (by omega),hcell 4 (by omega)⟩
theorem infoR : ∃ z,(Tryz.prog.info? 26).map (fun i => (i.zero,i.size,i.bytes)) = some (some z,5,48) ∧ z.cells.size = 5 := ⟨.agg #[.string .empty,.int .i64 0,.int .i64 0,.int .i64 0,.int .i64 0],by kernel_rfl,rfl⟩
theorem wp_append_rows {o : Oper} {a : Act} {K : Act → World → Prop} {Q : Exit → Act → World → Prop} (w : World) (s x : Operand)
  (ho : o.op = .call { callee := .builtin .append,args := #[s,x],argTypes := #[34,34] })
  (B : Nat) (v : Value) (xs : List Rt) (hs : a.eval s = v) (hown : OwnR w B v xs)
  (ao : Option Addr) (n cap : Nat) (zs : List Rt) (hx : a.eval x = .slice ao n cap) (hn : n = zs.length) (hnil : ao = none → cap = 0) (hsrc : SegR w ao zs) (hl : (xs.length + n) * 48 ≤ 140737488355328) (hb : B ≤ w.heap.size)
  (h : ∀ v' w1,OwnR w1 B v' (xs ++ zs) → w.grownBy w1 v.ownBlock → (v'.ownBlock = v.ownBlock ∨ v'.ownBlock = some w.heap.size) → K (a.put o.dst v') w1) : o.wp Tryz.prog a w K Q := by
 obtain ⟨z,hinf,hzs⟩ := infoR
 obtain ⟨i0,hi,hz0,hz1,hz2⟩ := info_parts hinf
 have hmx : maxLen = 9223372036854775807 := rfl
 have empty : zs = [] → n = 0 → OwnR w B v (xs ++ zs) := by
  intro e _
  rw [e,List.append_nil]
  exact hown
 cases ao with
 | none =>
  obtain rfl : cap = 0 := hnil rfl
  rcases hsrc with e | ⟨b,off,e,_⟩
  ·
   obtain rfl : n = 0 := by rw [hn,e]; rfl
   have hrun := run_append_owned_none (P := Tryz.prog) (w := w) B 34 o.type 26 i0 5 Tryz.underlying34 hi v _ _ hown
   unfold Oper.wp
   simp [execOp,ho,resolve,invoke,builtin,hs,hx,hrun,Result.andThen]
   exact h v w (empty e rfl) ⟨rfl,rfl,rfl,Nat.le_refl _,fun _ _ _ => rfl⟩ (.inl rfl)
  · cases e
 | some ad =>
  obtain ⟨v',w',hr,h2,h3,_,h5⟩ := run_append_own_at (P := Tryz.prog) w B 34 o.type 26 i0 z 5 48 Tryz.underlying34 hi hz0 hz1 hz2 hzs (by omega) v xs.length (xs.flatMap rv) hown ad n cap (zs.flatMap rv) (by rw [flat_len,hn]) (by
   rcases hsrc with e | ⟨b,off,e,hc⟩
   ·
    rw [e]
    intro j u hu
    simp at hu
   ·
    cases e
    exact fun j u hu => news_of hc j u hu) (oneR zs) (by omega) hl hb
  unfold Oper.wp execOp
  simp only [ho,resolve,invoke,builtin,Sem.run_bind,Sem.run_pure,Result.andThen_ok,List.map_toArray,List.map_cons,List.map_nil,hs,hx,hr]
  refine h v' w' ?_ h3 h5
  unfold OwnR
  rw [List.flatMap_append,List.length_append,← hn]
  exact h2
theorem wpList_append_rows {ops : Array Oper} {rest : List Oper} {o : Oper} {a : Act} {Q : Exit → Act → World → Prop} (w : World) (hgd : o.guard = none) (s x : Operand)
  (ho : o.op = .call { callee := .builtin .append,args := #[s,x],argTypes := #[34,34] })
  (B : Nat) (v : Value) (xs : List Rt) (hs : a.eval s = v) (hown : OwnR w B v xs)
  (ao : Option Addr) (n cap : Nat) (zs : List Rt) (hx : a.eval x = .slice ao n cap) (hn : n = zs.length) (hnil : ao = none → cap = 0) (hsrc : SegR w ao zs) (hl : (xs.length + n) * 48 ≤ 140737488355328) (hb : B ≤ w.heap.size)
  (h : ∀ v' w1,OwnR w1 B v' (xs ++ zs) → w.grownBy w1 v.ownBlock → (v'.ownBlock = v.ownBlock ∨ v'.ownBlock = some w.heap.size) → wpList Tryz.prog ops Q rest (a.put o.dst v') w1) : wpList Tryz.prog ops Q (o :: rest) a w :=
 wpList_plain hgd fun _ hK => wp_append_rows w s x ho B v xs hs hown ao n cap zs hx hn hnil hsrc hl hb fun v' w1 h1 h2 h3 => hK _ _ (h v' w1 h1 h2 h3)
theorem own_ge {w : World} {B : Nat} {v : Value} {xs : List Rt} (h : OwnR w B v xs) : ∀ k,v.ownBlock = some k → B ≤ k := by
 intro k hk
 rcases h.2 with ⟨h',_⟩ | ⟨g,cap,cur,h',hb,_⟩
 ·
  rw [h'] at hk
  cases hk
 ·
  rw [h'] at hk
  simp only [Value.ownBlock,Option.some.injEq] at hk
  omega
theorem own_mono {w : World} {B C : Nat} {v : Value} {xs : List Rt} (h : OwnR w B v xs) (hc : C ≤ B) : OwnR w C v xs := by
 obtain ⟨h1,h2⟩ := h
 refine ⟨h1,?_⟩
 rcases h2 with h2 | ⟨g,cap,cur,h',hb,h3⟩
 · exact .inl h2
 · exact .inr ⟨g,cap,cur,h',by omega,h3⟩
theorem own_alloc {w : World} {B : Nat} {v : Value} {xs : List Rt} (h : OwnR w B v xs) (o : Obj) : OwnR (w.alloc o) B v xs := World.ownsRow.alloc h o
def rowBlock (r : Rt) : Obj := .cells #[.string r.cat,.int .i64 r.y,.int .i64 r.m,.int .i64 r.d,.int .i64 r.bp] 26 (0,0)
theorem seg_block {X : World} {g : Nat} {r : Rt} (h : X.heap[g]? = some (rowBlock r)) : SegR X (some ⟨g,0,none⟩) [r] := by
 refine .inr ⟨g,0,rfl,fun k hk => ?_⟩
 obtain rfl : k = 0 := by simpa using hk
 unfold rowBlock at h
 refine ⟨?_,?_,?_,?_,?_⟩
 all_goals rw [cell_of_row X g _ _ _ _ h]
 all_goals rfl
theorem heap_old {x : World} {o o' : Obj} {g : Nat} (h : x.heap[g]? = some o) : (x.alloc o').heap[g]? = some o := by
 have hg : g < x.heap.size := by
  obtain ⟨hg,_⟩ := Array.getElem?_eq_some_iff.1 h
  exact hg
 rw [← h]
 exact (((Below.refl x.heap.size x).alloc (Nat.le_refl _) o').block g hg)
theorem heap_next (x : World) (o o' : Obj) : ((x.alloc o).alloc o').heap[x.heap.size + 1]? = some o' := by
 have h := heap_alloc_new (x.alloc o) o'
 have e : (x.alloc o).heap.size = x.heap.size + 1 := by simp
 rw [e] at h
 exact h
end Go.Proofs.YtjpfpojbalepeabGreat
namespace Go.Proofs.YtjpfpojbalepeabGreat.Bl
open Go.ChangeShapes Go.WideShapes Go.ChangeAt Go.RowKit Mem
open Vt (Rt)
set_option maxRecDepth 100000
set_option linter.unusedVariables false
structure EachC (w : World) (rs : List Ca.T) (cs : List Cl) : Prop where
 len : rs.length = cs.length
 each : ∀ i (h : i < rs.length),IsC w rs[i] (cs[i]'(len ▸ h))
theorem EachC.below {w v : World} {rs : List Ca.T} {cs : List Cl} (h : EachC w rs cs) (k : Below w.heap.size w v) : EachC v rs cs :=
 ⟨h.len,fun i q => (h.each i q).below k⟩
theorem isC_of {w : World} {r : Ca.T} (h : Ca.Sub w r) : ∃ c,IsC w r c := by
 obtain ⟨ls,hl,_⟩ := h
 exact ⟨⟨r.sess,r.seq,⟨r.kind,r.ser,r.lim,⟨r.cat,r.ry,r.rm,r.rd,r.bp⟩,r.y,r.m,r.d,ls,r.ofS,r.ofN,r.csess⟩⟩,rfl,rfl,rfl,rfl,rfl,rfl,rfl,rfl,rfl,hl,rfl,rfl,rfl⟩
theorem eachC_of {w : World} : ∀ {rs : List Ca.T},(∀ r ∈ rs,Ca.Sub w r) → ∃ cs,EachC w rs cs
 | [],_ => ⟨[],rfl,fun i h => absurd h (Nat.not_lt_zero _)⟩
 | r :: l,h => by
  obtain ⟨c,hc⟩ := isC_of (h r (by simp))
  obtain ⟨cs,hcs⟩ := eachC_of (rs := l) fun x hx => h x (by simp [hx])
  refine ⟨c :: cs,by simp [hcs.len],fun i hi => ?_⟩
  cases i with
  | zero => exact hc
  | succ i => exact hcs.each i (by simpa using hi)
structure Cs (w : World) (ao : Option Addr) (n cap : Nat) (rs : List Ca.T) (cs : List Cl) : Prop where
 ls : Ca.Ls w ao n cap rs
 each : EachC w rs cs
theorem Cs.below {w v : World} {ao : Option Addr} {n cap : Nat} {rs : List Ca.T} {cs : List Cl} (h : Cs w ao n cap rs cs) (k : Below w.heap.size w v) : Cs v ao n cap rs cs := ⟨h.ls.below k,h.each.below k⟩
theorem calls_in {H : Type} {enc : TypeId × Value → H} {W : World} {ao : Option Addr} {n cap : Nat} {d : DataW H} {p : List MemPlace} {ts : List TypeId} {ds : List (DataW H)} (j : Nat)
  (hj : DataW.Trod enc Tryz.prog W 0 (fun _ => true) true 22 (.slice ao n cap) d p)
  (hsz : (DataW.weightsEach Tryz.prog ts ds).all (· ≤ reachBytes) = true) (ht : ts[j]? = some 22) (hd : ds[j]? = some d) : ∃ rs cs,Cs W ao n cap rs cs := by
 obtain ⟨rs,h,hs⟩ := Ca.list_in j hj hsz ht hd
 obtain ⟨cs,hc⟩ := eachC_of hs
 exact ⟨rs,cs,h,hc⟩
theorem call_in {H : Type} {enc : TypeId × Value → H} {W : World} {b0 : Nat} {rr : Reach} {v : Value} {d : DataW H} {p : List MemPlace} {ts : List TypeId} {ds : List (DataW H)} (j : Nat)
  (hv : Value.okWide Tryz.prog W rr b0 33 v) (h : DataW.Trod enc Tryz.prog W 0 (fun _ => true) true 33 v d p)
  (hsz : (DataW.weightsEach Tryz.prog ts ds).all (· ≤ reachBytes) = true) (ht : ts[j]? = some 33) (hd : ds[j]? = some d) : ∃ (r : Ca.T) (c : Cl),v = Ca.val r ∧ Ca.Short r ∧ IsC W r c := by
 obtain ⟨r,e,hs,hb⟩ := Ca.one_in j hv h hsz ht hd
 obtain ⟨c,hc⟩ := isC_of hb
 exact ⟨r,c,e,hs,hc⟩
end Go.Proofs.YtjpfpojbalepeabGreat.Bl
namespace Go.Proofs.YtjpfpojbalepeabGreat.Ca
open Go.RowKit
open Mem
theorem evT {a : Act} {t : Tmp} {v : Value} (h : a.tmps.toList[t]? = some v) : a.eval (.tmp t) = v := by
 show a.tmps.getD t undef = v
 rw [Array.getElem?_toList] at h
 simp [Array.getD_eq_getD_getElem?,h]
theorem infoW : (Tryz.prog.info? 33).map (·.size) = some 17 := by kernel_rfl
theorem At.range {w : World} {b o : Nat} {r : T} (h : At w b o r) : w.rangeAt b o (rv r) := by
 intro j v hv
 have hj : j < 17 := by
  have := (List.getElem?_eq_some_iff.1 hv).1
  rwa [rv_len] at this
 match j,hj with
 | 0,_ => exact (h.c0).trans hv
 | 1,_ => exact (h.c1).trans hv
 | 2,_ => exact (h.c2).trans hv
 | 3,_ => exact (h.c3).trans hv
 | 4,_ => exact (h.c4).trans hv
 | 5,_ => exact (h.c5).trans hv
 | 6,_ => exact (h.c6).trans hv
 | 7,_ => exact (h.c7).trans hv
 | 8,_ => exact (h.c8).trans hv
 | 9,_ => exact (h.c9).trans hv
 | 10,_ => exact (h.c10).trans hv
 | 11,_ => exact (h.c11).trans hv
 | 12,_ => exact (h.c12).trans hv
 | 13,_ => exact (h.c13).trans hv
 | 14,_ => exact (h.c14).trans hv
 | 15,_ => exact (h.c15).trans hv
 | 16,_ => exact (h.c16).trans hv
theorem C.range {w : World} {b : Nat} {r : T} (h : C w b r) : w.rangeAt b 0 (rv r) := by
 obtain ⟨h0,h1,h2,h3,h4,h5,h6,h7,h8,h9,h10,h11,h12,h13,h14,h15,h16⟩ := h
 exact At.range ⟨(h0 : _),(h1 : _),(h2 : _),(h3 : _),(h4 : _),(h5 : _),(h6 : _),(h7 : _),(h8 : _),(h9 : _),(h10 : _),(h11 : _),(h12 : _),(h13 : _),(h14 : _),(h15 : _),(h16 : _)⟩
theorem wpl_load {ops : Array Oper} {rest : List Oper} {op : Oper} {a : Act} {w : World} {Q : Exit → Act → World → Prop} {t : Tmp} {b o : Nat} {r : T} (h : At w b o r) (ho : op.op = .load 33 (.tmp t)) (hgd : op.guard = none)
  (hx : a.tmps.toList[t]? = some (.pointer (some ⟨b,o,none⟩))) (k : wpList Tryz.prog ops Q rest (a.put op.dst (val r)) w) : wpList Tryz.prog ops Q (op :: rest) a w :=
 wpList_load_mid hgd 33 (.tmp t) ho b o (evT hx) (rv r) _ h.range Tryz.underlying33 rfl (by rw [infoW,rv_len]) k
theorem run_load {w : World} {b o : Nat} {r : T} (h : At w b o r) : (Instr.loadAt 33 (.pointer (some ⟨b,o,none⟩))).run Tryz.prog w = .ok (val r) w :=
 run_loadAt_mid w b o 33 (rv r) _ h.range Tryz.underlying33 rfl (by rw [infoW,rv_len])
theorem wpl_loadC {ops : Array Oper} {rest : List Oper} {op : Oper} {a : Act} {w : World} {Q : Exit → Act → World → Prop} {t : Tmp} {b : Nat} {r : T} (h : C w b r) (ho : op.op = .load 33 (.tmp t)) (hgd : op.guard = none)
  (hx : a.tmps.toList[t]? = some (.pointer (some ⟨b,0,none⟩))) (k : wpList Tryz.prog ops Q rest (a.put op.dst (val r)) w) : wpList Tryz.prog ops Q (op :: rest) a w :=
 wpList_load_mid hgd 33 (.tmp t) ho b 0 (evT hx) (rv r) _ h.range Tryz.underlying33 rfl (by rw [infoW,rv_len]) k
theorem set_rowW (w : World) (old cs : Array Value) (t : TypeId) : (w.alloc (.cells old t)).setRow w.heap.size cs = w.alloc (.cells cs t) := by
 unfold World.setRow World.alloc
 simp only [World.mk.injEq,and_true]
 apply Array.ext_getElem?
 intro i
 rw [Array.getElem?_modify]
 by_cases hi : w.heap.size = i
 ·
  subst hi
  simp
 · rw [if_neg hi,Array.getElem?_push,Array.getElem?_push,if_neg (Ne.symm hi),if_neg (Ne.symm hi)]
theorem wpl_store {ops : Array Oper} {rest : List Oper} {op : Oper} {a : Act} {w : World} {Q : Exit → Act → World → Prop} {t s : Tmp} {old : Array Value} {g : Nat} {r : T} (ho : op.op = .store 33 (.tmp t) (.tmp s)) (hgd : op.guard = none)
  (hx : a.tmps.toList[t]? = some (.pointer (some ⟨g,0,none⟩))) (hg : g = w.heap.size) (hy : a.tmps.toList[s]? = some (val r)) (hold : old.size = 17)
  (k : wpList Tryz.prog ops Q rest (a.put op.dst undef) (box w r)) : wpList Tryz.prog ops Q (op :: rest) a (w.alloc (.cells old 33)) := by
 subst hg
 refine wpList_store_row hgd 33 (.tmp t) (.tmp s) ho w.heap.size (rv r).toArray (evT hx) (evT hy) 33 old (heap_alloc_new w _) (by rw [infoW]; rfl) (by rw [hold]; rfl) (all_oneCell_toArray fun v hv => one_cell [r] v (by simpa using hv)) ?_
 rw [set_rowW]
 exact k
theorem wpl_put {ops : Array Oper} {rest : List Oper} {op : Oper} {a : Act} {w : World} {Q : Exit → Act → World → Prop} {t s : Tmp} {old : Array Value} {g : Nat} {r : T} (hg : w.heap[g]? = some (.cells old 33 (0,0))) (hold : old.size = 17) (ho : op.op = .store 33 (.tmp t) (.tmp s)) (hgd : op.guard = none)
  (hx : a.tmps.toList[t]? = some (.pointer (some ⟨g,0,none⟩))) (hy : a.tmps.toList[s]? = some (val r))
  (k : wpList Tryz.prog ops Q rest (a.put op.dst undef) (w.setRow g (rv r).toArray)) : wpList Tryz.prog ops Q (op :: rest) a w :=
 wpList_store_row hgd 33 (.tmp t) (.tmp s) ho g (rv r).toArray (evT hx) (evT hy) 33 old hg (by rw [infoW]; rfl) (by rw [hold]; rfl) (all_oneCell_toArray fun v hv => one_cell [r] v (by simpa using hv)) k
theorem heap_put {w : World} {old : Array Value} {g : Nat} (r : T) (hg : w.heap[g]? = some (.cells old 33 (0,0))) : (w.setRow g (rv r).toArray).heap[g]? = some (block r) := setRow_heap w g _ _ 33 _ hg
theorem results_put {fn : Func} {p : Tmp} (h : fn.results = #[.cell p 33]) {tmps : Array Value} {w : World} {g : Nat} {r : T} (hp : tmps.getD p undef = .pointer (some ⟨g,0,none⟩))
  (hg : w.heap[g]? = some (block r)) : (results fn tmps).run Tryz.prog w = .ok (val r) w :=
 results_cell_row h tmps w g 33 (rv r).toArray (0,0) _ hp hg Tryz.underlying33 rfl (by rw [infoW]; rfl)
theorem run_one (r : T) (u : World) : (Instr.buildSlice 22 1 #[(0,val r)]).run Tryz.prog u = .ok (.slice (some ⟨u.heap.size,0,none⟩) 1 1) (u.alloc (block r)) := by
 kernel_rfl
theorem wpl_one {ops : Array Oper} {rest : List Oper} {op : Oper} {a : Act} {w : World} {Q : Exit → Act → World → Prop} {t : Tmp} {r : T} (ho : op.op = .buildSlice 22 1 #[(0,.tmp t)]) (hgd : op.guard = none)
  (hx : a.tmps.toList[t]? = some (val r)) (k : wpList Tryz.prog ops Q rest (a.put op.dst (.slice (some ⟨w.heap.size,0,none⟩) 1 1)) (w.alloc (block r))) : wpList Tryz.prog ops Q (op :: rest) a w :=
 wpList_plain hgd fun _ hK => by
  have e : (#[(0,Operand.tmp t)] : Array (Nat × Operand)).map (fun (i,x) => (i,a.eval x)) = #[(0,val r)] := by simp [evT hx]
  unfold Oper.wp execOp
  simp only [ho,Sem.run_bind,e,run_one,Result.andThen_ok]
  exact hK _ _ k
end Go.Proofs.YtjpfpojbalepeabGreat.Ca
set_option linter.unusedVariables false
namespace Go.Proofs.YtjpfpojbalepeabGreat
open Go.RowKit
open Mem
def Bl.cut (c : Bl.Cl) : Bl.Cl := ⟨c.sess,c.seq,⟨c.cmd.kind,c.cmd.ser,c.cmd.lim,c.cmd.row,c.cmd.y,c.cmd.m,c.cmd.d,c.cmd.lines.take 15,c.cmd.ofS,c.cmd.ofN,c.cmd.sess⟩⟩
def Bl.fewL (n : Nat) (l : List Bl.Cl) : List Bl.Cl := (l.take n).map Bl.cut
def Ca.cut (r : Ca.T) : Ca.T := ⟨r.sess,r.seq,r.kind,r.ser,r.lim,r.cat,r.ry,r.rm,r.rd,r.bp,r.y,r.m,r.d,⟨r.lines.ao,if 15 < r.lines.n then 15 else r.lines.n,r.lines.cap⟩,r.ofS,r.ofN,r.csess⟩
theorem Ca.cut_long {r : Ca.T} (h : 15 < r.lines.n) : Ca.cut r = ⟨r.sess,r.seq,r.kind,r.ser,r.lim,r.cat,r.ry,r.rm,r.rd,r.bp,r.y,r.m,r.d,⟨r.lines.ao,15,r.lines.cap⟩,r.ofS,r.ofN,r.csess⟩ := by
 unfold Ca.cut
 rw [if_pos h]
theorem Ca.cut_short {r : Ca.T} (h : ¬ 15 < r.lines.n) : Ca.cut r = r := by
 unfold Ca.cut
 rw [if_neg h]
theorem Ca.box_cut (w : World) (r : Ca.T) (ao : Option Addr) (n cap : Nat) : (Ca.box w r).setCell ⟨w.heap.size,13,none⟩ (.slice ao n cap) = Ca.box w ⟨r.sess,r.seq,r.kind,r.ser,r.lim,r.cat,r.ry,r.rm,r.rd,r.bp,r.y,r.m,r.d,⟨ao,n,cap⟩,r.ofS,r.ofN,r.csess⟩ := by
 unfold Ca.box
 simp [go_sem]
theorem Ca.short_cut {r : Ca.T} (h : Ca.Short r) : Ca.Short (Ca.cut r) := h
theorem Bl.IsC.cut {w : World} {r : Ca.T} {c : Bl.Cl} (h : Bl.IsC w r c) : Bl.IsC w (Ca.cut r) (Bl.cut c) := by
 refine ⟨h.sess,h.seq,h.kind,h.ser,h.lim,h.row,h.y,h.m,h.d,?_,h.ofS,h.ofN,h.csess⟩
 unfold Ca.cut Bl.cut
 dsimp only
 by_cases q : 15 < r.lines.n
 ·
  rw [if_pos q]
  exact (h.lines.to 15 (by omega)).2
 ·
  rw [if_neg q,List.take_of_length_le (by rw [← h.lines.len]; omega)]
  exact h.lines
theorem Bl.few_lines {n : Nat} {l : List Bl.Cl} : ∀ c ∈ Bl.fewL n l,c.cmd.lines.length ≤ 15 := by
 intro c hc
 obtain ⟨d,_,rfl⟩ := List.mem_map.1 hc
 show (d.cmd.lines.take 15).length ≤ 15
 rw [List.length_take]
 omega
theorem Bl.EachC.few {w : World} {rs : List Ca.T} {cs : List Bl.Cl} (h : Bl.EachC w rs cs) (n : Nat) : Bl.EachC w ((rs.take n).map Ca.cut) (Bl.fewL n cs) := by
 have hl : ((rs.take n).map Ca.cut).length = (Bl.fewL n cs).length := by
  unfold Bl.fewL
  rw [List.length_map,List.length_map,List.length_take,List.length_take,h.len]
 refine ⟨hl,fun i hi => ?_⟩
 rw [List.length_map,List.length_take] at hi
 have := (h.each i (by omega)).cut
 unfold Bl.fewL
 simpa using this
def FewE (w : World) (rs : List Ca.T) (cs : List Bl.Cl) (N : Nat) (e : Ending) (w' : World) : Prop := ∃ v,e = .returned v ∧ Ca.Own w' w.heap.size v ((rs.take N).map Ca.cut) ∧ Bl.EachC w' ((rs.take N).map Ca.cut) (Bl.fewL N cs) ∧ Below w.heap.size w w'
set_option maxHeartbeats 8000000 in
theorem law_few (rs : List Ca.T) (cs : List Bl.Cl) (N : Nat) (ao : Option Addr) (n cap : Nat) (w : World) (hC : Bl.Cs w ao n cap rs cs) (hN : N ≤ 1000) :
  Calls Tryz.prog 10 #[.slice ao n cap,.int .i64 N] w (FewE w rs cs N) := by
 have HC := Lib.hid hC
 have HN := Lib.hid hC.ls.len
 have hcap := hC.ls.reach
 have hfit := hC.ls.fits
 clear hC
 go_enter Tryz.func10,Tryz.ntmps10
 go_wp2_with fail
 go_loopw [5,6,7] (fun v j _ wr => ∃ k : Nat,k ≤ n ∧ k ≤ N ∧ j = .int .i64 k ∧ Hid (Ca.Own wr w.heap.size v ((rs.take k).map Ca.cut)) ∧ Hid (Below w.heap.size w wr)) (fun _ j _ _ => n - (intOf j).toNat)
 case atStart => exact ⟨0,by omega,by omega,rfl,Lib.hid (Ca.own_nil _ _),Lib.hid (Below.refl _ _)⟩
 case round =>
  obtain ⟨k,hk,hkN,rfl,HO,HB⟩ := hrel
  by_cases hlt : k < n
  ·
   by_cases hlN : k < N
   ·
    obtain ⟨b,off,rfl⟩ := HC.out.ls.at (by omega)
    have hkr : k < rs.length := HN.out ▸ hlt
    have hrow := (HC.out.ls.row k hkr).below HB.out
    have HS : Hid ((rs.take (k + 1)).map Ca.cut = (rs.take k).map Ca.cut ++ [Ca.cut rs[k]]) := Lib.hid (by rw [List.take_succ_eq_append_getElem hkr,List.map_append]; rfl)
    have HL := Lib.hid ((HC.out.each.each k hkr).lines)
    have hlr := (HC.out.each.each k hkr).lines.reach
    have hlf := (HC.out.each.each k hkr).lines.fits
    obtain ⟨r,hr⟩ : ∃ r,rs[k] = r := ⟨_,rfl⟩
    rw [hr] at hrow HS HL hlr hlf
    clear hr
    have HLen : Hid (((rs.take k).map Ca.cut).length = k) := Lib.hid (by rw [List.length_map,List.length_take]; omega)
    have hkb : k ≤ 1000 := by omega
    have hC := Ca.c_box wr r
    have HBx := Lib.hid (bchain HB.out (Ca.below_own wr r))
    have HOx := Lib.hid (Ca.own_below HO.out (Ca.below_own wr r))
    have hC2 := Ca.c_box wr (Ca.cut r)
    have HBy := Lib.hid (bchain HB.out (Ca.below_own wr (Ca.cut r)))
    have HOy := Lib.hid (Ca.own_below HO.out (Ca.below_own wr (Ca.cut r)))
    have a13 : (Ca.box wr r).cell? ⟨wr.heap.size,13,none⟩ = some (.slice r.lines.ao r.lines.n r.lines.cap) := by
     unfold Ca.C at hC
     exact hC.2.2.2.2.2.2.2.2.2.2.2.2.2.1
    have f13 : (Ca.box wr r).frozen? ⟨wr.heap.size,13,none⟩ = false := frozen_of_row (Ca.box wr r) wr.heap.size 13 _ _ (heap_alloc_new wr _)
    by_cases h15 : 15 < r.lines.n
    ·
     obtain ⟨hs,_⟩ := HL.out.to 15 (by omega)
     have HE := Lib.hid (Ca.cut_long h15)
     have hs' : ∀ u,(Instr.slice 27 (.slice r.lines.ao r.lines.n r.lines.cap) none (some (.int .i64 15)) none).run Tryz.prog u = .ok (.slice r.lines.ao 15 r.lines.cap) u := fun u => hs u
     clear hs
     have hbc := Ca.box_cut wr r r.lines.ao 15 r.lines.cap
     rw [← HE.out] at hbc
     go_wp2_with (first | ((with_reducible apply Ca.wpl_load hrow); rfl; rfl; rfl) | ((with_reducible apply Ca.wpl_loadC hC2); rfl; rfl; rfl) | ((with_reducible apply Ca.wpl_one (r := Ca.cut r)); rfl; rfl; rfl) | ((with_reducible apply Ca.wpl_store (r := r) (g := wr.heap.size)); rfl; rfl; rfl; rfl; rfl; rfl) | (at_builtin; go_must (refine Ca.wpList_append _ rfl (.tmp 34) (.tmp 36) rfl w.heap.size u5 ((rs.take k).map Ca.cut) rfl (Ca.own_alloc HOy.out _) (some ⟨(Ca.box wr (Ca.cut r)).heap.size,0,none⟩) 1 1 [Ca.cut r] rfl rfl (fun h => by cases h) (Ca.seg_block (heap_alloc_new _ _)) (by have := HLen.out; omega) ((below_box HBy.out _).size) ?_)))
     intro v2 y2 o2 gr2 _
     have hb2 := (below_box HBy.out (Ca.block (Ca.cut r))).grown gr2 (below_box HBy.out (Ca.block (Ca.cut r))).size (Ca.own_ge HOy.out)
     have HO2 := Lib.hid o2
     have HY2 := Lib.hid hb2
     clear o2 gr2 hb2
     go_wp2_with fail
     go_roundw
     case rel => exact ⟨k + 1,by omega,by omega,by go_num,Lib.hid (by rw [HS.out,List.map_take]; exact HO2.out),HY2⟩
     case measure => simp [intOf]; omega
    ·
     have HE := Ca.cut_short h15
     rw [HE] at hC2 HBy HOy HS
     clear HE
     go_wp2_with (first | ((with_reducible apply Ca.wpl_load hrow); rfl; rfl; rfl) | ((with_reducible apply Ca.wpl_loadC hC2); rfl; rfl; rfl) | ((with_reducible apply Ca.wpl_one (r := r)); rfl; rfl; rfl) | ((with_reducible apply Ca.wpl_store (r := r) (g := wr.heap.size)); rfl; rfl; rfl; rfl; rfl; rfl) | (at_builtin; go_must (refine Ca.wpList_append _ rfl (.tmp 34) (.tmp 36) rfl w.heap.size u5 ((rs.take k).map Ca.cut) rfl (Ca.own_alloc HOy.out _) (some ⟨(Ca.box wr (r)).heap.size,0,none⟩) 1 1 [r] rfl rfl (fun h => by cases h) (Ca.seg_block (heap_alloc_new _ _)) (by have := HLen.out; omega) ((below_box HBy.out _).size) ?_)))
     intro v2 y2 o2 gr2 _
     have hb2 := (below_box HBy.out (Ca.block (r))).grown gr2 (below_box HBy.out (Ca.block (r))).size (Ca.own_ge HOy.out)
     have HO2 := Lib.hid o2
     have HY2 := Lib.hid hb2
     clear o2 gr2 hb2
     go_wp2_with fail
     go_roundw
     case rel => exact ⟨k + 1,by omega,by omega,by go_num,Lib.hid (by rw [HS.out,List.map_take]; exact HO2.out),HY2⟩
     case measure => simp [intOf]; omega
   ·
    obtain rfl : k = N := by omega
    have hd : decide ((k : Int) < (k : Int)) = false := decide_eq_false (Int.lt_irrefl _)
    go_wp2_with fail
    go_ret
    exact ⟨_,rfl,HO.out,(HC.out.each.below HB.out).few _,HB.out⟩
  ·
   obtain rfl : k = n := by omega
   have HT : Hid ((rs.take k).map Ca.cut = (rs.take N).map Ca.cut) := Lib.hid (by rw [List.take_of_length_le (by rw [HN.out]; exact Nat.le_refl _),List.take_of_length_le (by rw [← HN.out]; omega)])
   go_wp2_with fail
   go_ret
   exact ⟨_,rfl,by rw [← HT.out]; exact HO.out,(HC.out.each.below HB.out).few _,HB.out⟩
end Go.Proofs.YtjpfpojbalepeabGreat
namespace Go.Proofs.YtjpfpojbalepeabGreat.Rp
open Go.RowKit
open Mem
structure At (u : World) (b o : Nat) (r : T) : Prop where
 c0 : u.cell? ⟨b,o,none⟩ = some (.int .i64 r.why)
 c1 : u.cell? ⟨b,o + 1,none⟩ = some (.int .i64 r.num)
 c2 : u.cell? ⟨b,o + 2,none⟩ = some (.int .i64 r.gross)
theorem At.below {u v : World} {b o : Nat} {r : T} (h : At u b o r) (k : Below u.heap.size u v) : At v b o r := by
 have hl := cell_lt h.c0
 exact ⟨by rw [(bcell k).1 _ _ hl]; exact h.c0,by rw [(bcell k).1 _ _ hl]; exact h.c1,by rw [(bcell k).1 _ _ hl]; exact h.c2⟩
def Seg (w : World) (ao : Option Addr) (rs : List T) : Prop := rs = [] ∨ ∃ b off,ao = some ⟨b,off,none⟩ ∧ ∀ (k : Nat) (hk : k < rs.length),At w b (off + k * 3) rs[k]
theorem Seg.below {w v : World} {ao : Option Addr} {rs : List T} (h : Seg w ao rs) (k : Below w.heap.size w v) : Seg v ao rs := by
 rcases h with h | ⟨b,off,e,h⟩
 · exact .inl h
 · exact .inr ⟨b,off,e,fun i hi => (h i hi).below k⟩
structure Ls (w : World) (ao : Option Addr) (n cap : Nat) (rs : List T) : Prop where
 len : n = rs.length
 fits : n ≤ cap
 reach : cap ≤ 9223372036854775807
 nil : ao = none → cap = 0
 seg : Seg w ao rs
 short : ∀ r ∈ rs,Short r
theorem Ls.below {w v : World} {ao : Option Addr} {n cap : Nat} {rs : List T} (h : Ls w ao n cap rs) (k : Below w.heap.size w v) : Ls v ao n cap rs :=
 ⟨h.len,h.fits,h.reach,h.nil,h.seg.below k,h.short⟩
theorem Ls.at {w : World} {ao : Option Addr} {n cap : Nat} {rs : List T} (h : Ls w ao n cap rs) (hn : 0 < n) : ∃ b off,ao = some ⟨b,off,none⟩ := by
 rcases h.seg with e | ⟨b,off,e,_⟩
 ·
  have := h.len
  rw [e] at this
  simp at this
  omega
 · exact ⟨b,off,e⟩
theorem Ls.row {w : World} {b off n cap : Nat} {rs : List T} (h : Ls w (some ⟨b,off,none⟩) n cap rs) (k : Nat) (hk : k < rs.length) : At w b (off + k * 3) rs[k] := by
 rcases h.seg with e | ⟨b',off',e,hs⟩
 ·
  subst e
  simp at hk
 ·
  cases e
  exact hs k hk
end Go.Proofs.YtjpfpojbalepeabGreat.Rp
namespace Go.Proofs.YtjpfpojbalepeabGreat.Rp
open Go.RowKit
open Mem
open Go.Sort (grow)
def eqB (a b : T) : Bool := decide (a.why = b.why ∧ a.num = b.num ∧ a.gross = b.gross)
theorem eqB_iff (a b : T) : eqB a b = true ↔ a = b := by
 unfold eqB
 rw [decide_eq_true_iff]
 cases a
 cases b
 simp
def sameB : List T → List T → Bool
 | [],[] => true
 | a :: l,b :: m => eqB a b && sameB l m
 | _,_ => false
theorem sameB_iff : ∀ l m : List T,sameB l m = true ↔ l = m
 | [],[] => by simp [sameB]
 | [],_ :: _ => by simp [sameB]
 | _ :: _,[] => by simp [sameB]
 | a :: l,b :: m => by
  rw [sameB,Bool.and_eq_true,eqB_iff,sameB_iff l m,List.cons.injEq]
theorem sameB_self (l : List T) : sameB l l = true := (sameB_iff l l).2 rfl
theorem sameB_len {l m : List T} (h : l.length ≠ m.length) : sameB l m = false := by
 rw [Bool.eq_false_iff]
 intro k
 exact h (congrArg List.length ((sameB_iff l m).1 k))
theorem same_at (l m : List T) (k : Nat) (h : k < l.length) (h' : k < m.length) : sameB (l.drop k) (m.drop k) = (eqB l[k] m[k] && sameB (l.drop (k + 1)) (m.drop (k + 1))) := by
 rw [List.drop_eq_getElem_cons h,List.drop_eq_getElem_cons h',sameB]
set_option maxHeartbeats 4000000 in
theorem same_any (xs ys : List T) (ao bo : Option Addr) (n m ca cb : Nat) (w0 w : World) (hw : Below w0.heap.size w0 w) (hA : Ls w ao n ca xs) (hB : Ls w bo m cb ys) :
  Calls Tryz.prog 17 #[.slice ao n ca,.slice bo m cb] w fun e w' => e = .returned (.bool (sameB xs ys)) ∧ Below w0.heap.size w0 w' := by
 have HW := Lib.hid hw
 have HA := Lib.hid hA
 have HB := Lib.hid hB
 have HN := Lib.hid hA.len
 have HM := Lib.hid hB.len
 have hca := hA.reach
 have hfa := hA.fits
 have hcb := hB.reach
 have hfb := hB.fits
 clear hw hA hB
 by_cases hnm : n = m
 ·
  subst hnm
  have hne : ((n : Int) != (n : Int)) = false := bne_self_eq_false _
  go_enter Tryz.func17,Tryz.ntmps17
  go_wp2
  go_loopw [5] (fun i wr => ∃ k : Nat,k ≤ n ∧ i = .int .i64 k ∧ Hid (sameB (xs.drop k) (ys.drop k) = sameB xs ys) ∧ Hid (Below w.heap.size w wr)) (fun i _ => n - (intOf i).toNat)
  case atStart => exact ⟨0,Nat.zero_le _,rfl,Lib.hid rfl,Lib.hid (Below.refl _ _)⟩
  case round =>
   obtain ⟨k,hk,rfl,HK,HBz⟩ := hrel
   by_cases hlt : k < n
   ·
    obtain ⟨a,oa,rfl⟩ := HA.out.at (by omega)
    obtain ⟨b,ob,rfl⟩ := HB.out.at (by omega)
    have hkr : k < xs.length := HN.out ▸ hlt
    have hks : k < ys.length := HM.out ▸ hlt
    have HSt := Lib.hid (same_at xs ys k hkr hks)
    obtain ⟨r,hr⟩ : ∃ r,xs[k] = r := ⟨_,rfl⟩
    obtain ⟨s,hs⟩ : ∃ s,ys[k] = s := ⟨_,rfl⟩
    have h1 := (HA.out.row k hkr).below HBz.out
    have h2 := (HB.out.row k hks).below HBz.out
    rw [hr] at h1 HSt
    rw [hs] at h2 HSt
    clear hr hs
    obtain ⟨g0,g1,g2⟩ := h1
    obtain ⟨f0,f1,f2⟩ := h2
    have g0' := cell_regrown g0
    have g1' := cell_regrown g1
    have g2' := cell_regrown g2
    have f0' := cell_regrown f0
    have f1' := cell_regrown f1
    have f2' := cell_regrown f2
    clear g0 g1 g2 f0 f1 f2
    by_cases e0 : r.why = s.why
    ·
     have q0 : (r.why == s.why) = true := beq_iff_eq.2 e0
     by_cases e1 : r.num = s.num
     ·
      have q1 : (r.num == s.num) = true := beq_iff_eq.2 e1
      by_cases e2 : r.gross = s.gross
      ·
       have q2 : (r.gross == s.gross) = true := beq_iff_eq.2 e2
       have HE : Hid (eqB r s = true) := Lib.hid (decide_eq_true ⟨e0,e1,e2⟩)
       clear e0 e1 e2
       go_wp2
       refine wp_region_quiet_below (by kernel_rfl) (by kernel_rfl) ?_
       repeat (first | go_big_quiet_step (fail) | quiet_step (fail))
       refine wpQuiet_nil ?_
       intro _ hw'
       obtain ⟨⟨dq,osq⟩,hw''⟩ := hw'
       subst hw''
       have HBv := Lib.hid (bchain HBz.out (below_regrown wr dq osq))
       go_wp2
       go_roundw
       case rel => exact ⟨k + 1,by omega,by go_num,Lib.hid (by rw [← HK.out,HSt.out,HE.out,Bool.true_and]),HBv⟩
       case measure => simp [intOf]; omega
      ·
       have q2 : (r.gross == s.gross) = false := beq_eq_false_iff_ne.2 e2
       have HE : Hid (eqB r s = false) := Lib.hid (decide_eq_false fun h => e2 h.2.2)
       clear e0 e1 e2
       go_wp2
       refine wp_region_quiet_below (by kernel_rfl) (by kernel_rfl) ?_
       repeat (first | go_big_quiet_step (fail) | quiet_step (fail))
       refine wpQuiet_nil ?_
       intro _ hw'
       obtain ⟨⟨dq,osq⟩,hw''⟩ := hw'
       subst hw''
       have HBv := Lib.hid (bchain HBz.out (below_regrown wr dq osq))
       go_wp2
       go_ret
       exact ⟨ret_bool (by rw [← HK.out,HSt.out,HE.out,Bool.false_and]),bchain HW.out HBv.out⟩
     ·
      have q1 : (r.num == s.num) = false := beq_eq_false_iff_ne.2 e1
      have HE : Hid (eqB r s = false) := Lib.hid (decide_eq_false fun h => e1 h.2.1)
      clear e0 e1
      go_wp2
      refine wp_region_quiet_below (by kernel_rfl) (by kernel_rfl) ?_
      repeat (first | go_big_quiet_step (fail) | quiet_step (fail))
      refine wpQuiet_nil ?_
      intro _ hw'
      obtain ⟨⟨dq,osq⟩,hw''⟩ := hw'
      subst hw''
      have HBv := Lib.hid (bchain HBz.out (below_regrown wr dq osq))
      go_wp2
      go_ret
      exact ⟨ret_bool (by rw [← HK.out,HSt.out,HE.out,Bool.false_and]),bchain HW.out HBv.out⟩
    ·
     have q0 : (r.why == s.why) = false := beq_eq_false_iff_ne.2 e0
     have HE : Hid (eqB r s = false) := Lib.hid (decide_eq_false fun h => e0 h.1)
     clear e0
     go_wp2
     refine wp_region_quiet_below (by kernel_rfl) (by kernel_rfl) ?_
     repeat (first | go_big_quiet_step (fail) | quiet_step (fail))
     refine wpQuiet_nil ?_
     intro _ hw'
     obtain ⟨⟨dq,osq⟩,hw''⟩ := hw'
     subst hw''
     have HBv := Lib.hid (bchain HBz.out (below_regrown wr dq osq))
     go_wp2
     go_ret
     exact ⟨ret_bool (by rw [← HK.out,HSt.out,HE.out,Bool.false_and]),bchain HW.out HBv.out⟩
   ·
    obtain rfl : k = n := by omega
    go_wp2
    go_ret
    refine ⟨ret_bool ?_,HW.out.trans (HBz.out.mono HW.out.size)⟩
    rw [← HK.out,List.drop_eq_nil_of_le (Nat.le_of_eq HN.out.symm),List.drop_eq_nil_of_le (Nat.le_of_eq HM.out.symm)]
    rfl
 ·
  have HE := Lib.hid (sameB_len (l := xs) (m := ys) (by rw [← HN.out,← HM.out]; exact hnm))
  have hne : ((n : Int) != (m : Int)) = true := bne_iff_ne.2 (by omega)
  go_enter Tryz.func17,Tryz.ntmps17
  go_wp2
  go_ret
  exact ⟨ret_bool HE.out.symm,HW.out⟩
theorem same_rows (xs : List T) (ao bo : Option Addr) (n ca cb : Nat) (w0 w : World) (hw : Below w0.heap.size w0 w) (hA : Ls w ao n ca xs) (hB : Ls w bo n cb xs) :
  Calls Tryz.prog 17 #[.slice ao n ca,.slice bo n cb] w fun e w' => e = .returned (.bool true) ∧ Below w0.heap.size w0 w' := by
 have h := same_any xs xs ao bo n n ca cb w0 w hw hA hB
 rw [sameB_self] at h
 exact h
end Go.Proofs.YtjpfpojbalepeabGreat.Rp
namespace Go.Proofs.YtjpfpojbalepeabGreat
open Go.RowKit
open Mem
structure Kp (A : Nat) (w v : World) : Prop where
 cell : ∀ b o,A ≤ b → b < w.heap.size → v.cell? ⟨b,o,none⟩ = w.cell? ⟨b,o,none⟩
 size : w.heap.size ≤ v.heap.size
theorem Kp.of {A : Nat} {w v : World} (h : Below w.heap.size w v) : Kp A w v := ⟨fun b o _ hb => (bcell h).1 b o hb,h.size⟩
theorem Kp.trans {A : Nat} {u v w : World} (h : Kp A u v) (k : Kp A v w) : Kp A u w := ⟨fun b o ha hb => (k.cell b o ha (Nat.lt_of_lt_of_le hb h.size)).trans (h.cell b o ha hb),Nat.le_trans h.size k.size⟩
theorem Kp.set {A g : Nat} (w : World) (hg : g < A) (o : Nat) (x : Value) : Kp A w (w.setCell ⟨g,o,none⟩ x) :=
 ⟨fun b o' ha _ => World.cell?_setCell_other _ _ _ _ (by intro k; simp only [Addr.mk.injEq] at k; omega),by simp⟩
def InA (A : Nat) (ao : Option Addr) (n : Nat) : Prop := 0 < n → ∀ b off,ao = some ⟨b,off,none⟩ → A ≤ b
theorem InA.mono {A B : Nat} {ao : Option Addr} {n : Nat} (h : InA A ao n) (k : B ≤ A) : InA B ao n := fun hn b off e => Nat.le_trans k (h hn b off e)
theorem inA_nil (A : Nat) (ao : Option Addr) : InA A ao 0 := fun h => absurd h (Nat.lt_irrefl _)
theorem inA_own {A : Nat} {ao : Option Addr} {n : Nat} (h : ∀ ad,ao = some ad → ∃ g,ad = ⟨g,0,none⟩ ∧ A ≤ g) : InA A ao n := fun _ b off e => by
 obtain ⟨g,e2,hg⟩ := h _ e
 cases e2
 exact hg
theorem Sr.Ls.kp {A : Nat} {w v : World} {ao : Option Addr} {n cap : Nat} {rs : List Sr.T} (h : Sr.Ls w ao n cap rs) (hi : InA A ao n) (k : Kp A w v) : Sr.Ls v ao n cap rs := by
 refine ⟨h.len,h.fits,h.reach,h.nil,?_,h.short⟩
 rcases h.seg with e | ⟨b,off,e,hc⟩
 · exact .inl e
 ·
  refine .inr ⟨b,off,e,fun i hr => ?_⟩
  have hA := hi (by rw [h.len]; omega) b off e
  have hl := cell_lt (hc i hr).c0
  exact ⟨(k.cell b _ hA hl).trans (hc i hr).c0,(k.cell b _ hA hl).trans (hc i hr).c1,(k.cell b _ hA hl).trans (hc i hr).c2,(k.cell b _ hA hl).trans (hc i hr).c3⟩
theorem Ba.Ls.kp {A : Nat} {w v : World} {ao : Option Addr} {n cap : Nat} {rs : List Ba.T} (h : Ba.Ls w ao n cap rs) (hi : InA A ao n) (k : Kp A w v) : Ba.Ls v ao n cap rs := by
 refine ⟨h.len,h.fits,h.reach,h.nil,?_,h.short⟩
 rcases h.seg with e | ⟨b,off,e,hc⟩
 · exact .inl e
 ·
  refine .inr ⟨b,off,e,fun i hr => ?_⟩
  have hA := hi (by rw [h.len]; omega) b off e
  have hl := cell_lt (hc i hr).c0
  exact ⟨(k.cell b _ hA hl).trans (hc i hr).c0,(k.cell b _ hA hl).trans (hc i hr).c1⟩
theorem Sn.Ls.kp {A : Nat} {w v : World} {ao : Option Addr} {n cap : Nat} {rs : List Sn.T} (h : Sn.Ls w ao n cap rs) (hi : InA A ao n) (k : Kp A w v) : Sn.Ls v ao n cap rs := by
 refine ⟨h.len,h.fits,h.reach,h.nil,?_,h.short⟩
 rcases h.seg with e | ⟨b,off,e,hc⟩
 · exact .inl e
 ·
  refine .inr ⟨b,off,e,fun i hr => ?_⟩
  have hA := hi (by rw [h.len]; omega) b off e
  have hl := cell_lt (hc i hr).c0
  exact ⟨(k.cell b _ hA hl).trans (hc i hr).c0,(k.cell b _ hA hl).trans (hc i hr).c1,(k.cell b _ hA hl).trans (hc i hr).c2,(k.cell b _ hA hl).trans (hc i hr).c3,(k.cell b _ hA hl).trans (hc i hr).c4⟩
theorem Pt.Ls.kp {A : Nat} {w v : World} {ao : Option Addr} {n cap : Nat} {rs : List Pt.T} (h : Pt.Ls w ao n cap rs) (hi : InA A ao n) (k : Kp A w v) : Pt.Ls v ao n cap rs := by
 refine ⟨h.len,h.fits,h.reach,h.nil,?_,h.short⟩
 rcases h.seg with e | ⟨b,off,e,hc⟩
 · exact .inl e
 ·
  refine .inr ⟨b,off,e,fun i hr => ?_⟩
  have hA := hi (by rw [h.len]; omega) b off e
  have hl := cell_lt (hc i hr).c0
  exact ⟨(k.cell b _ hA hl).trans (hc i hr).c0,(k.cell b _ hA hl).trans (hc i hr).c1,(k.cell b _ hA hl).trans (hc i hr).c2,(k.cell b _ hA hl).trans (hc i hr).c3⟩
theorem Pd.Ls.kp {A : Nat} {w v : World} {ao : Option Addr} {n cap : Nat} {rs : List Pd.T} (h : Pd.Ls w ao n cap rs) (hi : InA A ao n) (k : Kp A w v) : Pd.Ls v ao n cap rs := by
 refine ⟨h.len,h.fits,h.reach,h.nil,?_,h.short⟩
 rcases h.seg with e | ⟨b,off,e,hc⟩
 · exact .inl e
 ·
  refine .inr ⟨b,off,e,fun i hr => ?_⟩
  have hA := hi (by rw [h.len]; omega) b off e
  have hl := cell_lt (hc i hr).c0
  exact ⟨(k.cell b _ hA hl).trans (hc i hr).c0,(k.cell b _ hA hl).trans (hc i hr).c1,(k.cell b _ hA hl).trans (hc i hr).c2,(k.cell b _ hA hl).trans (hc i hr).c3,(k.cell b _ hA hl).trans (hc i hr).c4,(k.cell b _ hA hl).trans (hc i hr).c5,(k.cell b _ hA hl).trans (hc i hr).c6,(k.cell b _ hA hl).trans (hc i hr).c7,(k.cell b _ hA hl).trans (hc i hr).c8,(k.cell b _ hA hl).trans (hc i hr).c9,(k.cell b _ hA hl).trans (hc i hr).c10,(k.cell b _ hA hl).trans (hc i hr).c11⟩
theorem Rp.Ls.kp {A : Nat} {w v : World} {ao : Option Addr} {n cap : Nat} {rs : List Rp.T} (h : Rp.Ls w ao n cap rs) (hi : InA A ao n) (k : Kp A w v) : Rp.Ls v ao n cap rs := by
 refine ⟨h.len,h.fits,h.reach,h.nil,?_,h.short⟩
 rcases h.seg with e | ⟨b,off,e,hc⟩
 · exact .inl e
 ·
  refine .inr ⟨b,off,e,fun i hr => ?_⟩
  have hA := hi (by rw [h.len]; omega) b off e
  have hl := cell_lt (hc i hr).c0
  exact ⟨(k.cell b _ hA hl).trans (hc i hr).c0,(k.cell b _ hA hl).trans (hc i hr).c1,(k.cell b _ hA hl).trans (hc i hr).c2⟩
theorem Rts.kp {A : Nat} {w v : World} {ao : Option Addr} {n cap : Nat} {rs : List Vt.Rt} (h : Rts w ao n cap rs) (hi : InA A ao n) (k : Kp A w v) : Rts v ao n cap rs := by
 refine ⟨h.len,h.fits,h.reach,h.nil,?_,h.short⟩
 rcases h.seg with e | ⟨b,off,e,hc⟩
 · exact .inl e
 ·
  refine .inr ⟨b,off,e,fun i hr => ?_⟩
  have hA := hi (by rw [h.len]; omega) b off e
  have hl := cell_lt (hc i hr).c0
  exact ⟨(k.cell b _ hA hl).trans (hc i hr).c0,(k.cell b _ hA hl).trans (hc i hr).c1,(k.cell b _ hA hl).trans (hc i hr).c2,(k.cell b _ hA hl).trans (hc i hr).c3,(k.cell b _ hA hl).trans (hc i hr).c4⟩
namespace Bl
structure LiesA (A : Nat) (w : World) (h : Sv) (s : St) : Prop where
 tab : Rts w h.tab.ao h.tab.n h.tab.cap s.tab
 ser : Sr.Ls w h.ser.ao h.ser.n h.ser.cap s.ser
 post : ∃ rs,Pd.Ls w h.post.ao h.post.n h.post.cap rs ∧ Each w rs s.post ∧ ∀ r ∈ rs,InA A r.parts.ao r.parts.n
 book : Ba.Ls w h.book.ao h.book.n h.book.cap s.book
 sess : Sn.Ls w h.sess.ao h.sess.n h.sess.cap s.sess
 next : h.next = s.next
 fit : Fit s.next
 atab : InA A h.tab.ao h.tab.n
 aser : InA A h.ser.ao h.ser.n
 apost : InA A h.post.ao h.post.n
 abook : InA A h.book.ao h.book.n
 asess : InA A h.sess.ao h.sess.n
theorem LiesA.lies {A : Nat} {w : World} {h : Sv} {s : St} (l : LiesA A w h s) : Lies w h s := by
 obtain ⟨rs,h1,h2,_⟩ := l.post
 exact ⟨l.tab,l.ser,⟨rs,h1,h2⟩,l.book,l.sess,l.next,l.fit⟩
theorem LiesA.mono {A B : Nat} {w : World} {h : Sv} {s : St} (l : LiesA A w h s) (k : B ≤ A) : LiesA B w h s := by
 obtain ⟨rs,h1,h2,h3⟩ := l.post
 exact ⟨l.tab,l.ser,⟨rs,h1,h2,fun r hr => (h3 r hr).mono k⟩,l.book,l.sess,l.next,l.fit,l.atab.mono k,l.aser.mono k,l.apost.mono k,l.abook.mono k,l.asess.mono k⟩
theorem IsP.kp {A : Nat} {w v : World} {r : Pd.T} {p : Ps} (h : IsP w r p) (hi : InA A r.parts.ao r.parts.n) (k : Kp A w v) : IsP v r p :=
 ⟨h.ser,h.num,h.y,h.m,h.d,h.net,h.tax,h.gross,h.parts.kp hi k,h.ofS,h.ofN,h.back⟩
theorem LiesA.kp {A : Nat} {w v : World} {h : Sv} {s : St} (l : LiesA A w h s) (k : Kp A w v) : LiesA A v h s := by
 obtain ⟨rs,h1,h2,h3⟩ := l.post
 exact ⟨l.tab.kp l.atab k,l.ser.kp l.aser k,⟨rs,h1.kp l.apost k,⟨h2.len,fun i hi => (h2.each i hi).kp (h3 _ (List.getElem_mem hi)) k⟩,h3⟩,l.book.kp l.abook k,l.sess.kp l.asess k,l.next,l.fit,l.atab,l.aser,l.apost,l.abook,l.asess⟩
theorem LiesA.below {A : Nat} {w v : World} {h : Sv} {s : St} (l : LiesA A w h s) (k : Below w.heap.size w v) : LiesA A v h s := l.kp (Kp.of k)
end Bl
end Go.Proofs.YtjpfpojbalepeabGreat
