import Derived.Laws.CopyOwn
import Derived.Laws.MakeOwn
import Derived.Lib.QuietBelow
import Derived.Deep.RegionLaw
import Derived.Deep.DeepCutAuto
import Derived.Deep.CutBlock
import Derived.Laws.Externs
import Derived.Laws.RangeAny
import Derived.Test.YtjpfpojbalepeabGreatZB21
import Derived.Test.YtjpfpojbalepeabGreatZB22
import Derived.Test.YtjpfpojbalepeabGreatZB23
import Derived.Test.YtjpfpojbalepeabGreatZB24
import Derived.Test.YtjpfpojbalepeabGreatZB25
namespace Go.Proofs.YtjpfpojbalepeabGreat
open Go.RowKit
open Mem
open Go.Sort (grow)
def AnsS (f : FuncId) (args : Array Value) (u : World) (i : Nat) (os : Array Obj) (v : Value) : Prop :=
 Calls Tryz.prog f args (grow (redrawn u i) os) fun e w'' => e = .returned v ∧ ∃ p : Regrown,w'' = grow (redrawn u p.d) p.os
theorem ses_numbers (n : Int) (w : World) : Calls Tryz.prog 62 #[.int .i64 n] w fun e w' => e = .returned (.bool (Sp.numB n)) ∧ w' = w := by
 by_cases h1 : 1 ≤ n
 ·
  by_cases h2 : n ≤ 1099511627776
  ·
   have HL := Lib.hid (Sp.num_iff.2 ⟨h1,h2⟩)
   go_enter Tryz.func62,Tryz.ntmps62
   go_wp2
   go_ret
   exact ⟨ret_bool HL.out.symm,rfl⟩
  ·
   have HL : Hid (Sp.numB n = false) := Lib.hid (Bool.eq_false_iff.2 fun k => h2 (Sp.num_iff.1 k).2)
   go_enter Tryz.func62,Tryz.ntmps62
   go_wp2
   go_ret
   exact ⟨ret_bool HL.out.symm,rfl⟩
 ·
  have HL : Hid (Sp.numB n = false) := Lib.hid (Bool.eq_false_iff.2 fun k => h1 (Sp.num_iff.1 k).1)
  go_enter Tryz.func62,Tryz.ntmps62
  go_wp2
  go_ret
  exact ⟨ret_bool HL.out.symm,rfl⟩
theorem numbers_agg (n : Int) (u : World) (i : Nat) (os : Array Obj) : AnsS 62 #[.int .i64 n] u i os (.bool (Sp.numB n)) :=
 Calls.regrown_of ((ses_numbers n _).mono fun _ _ h => ⟨h.1,by rw [h.2]; exact Below.refl _ _⟩)
theorem ses_fresh (i : Int) (w0 w : World) (hw : Below w0.heap.size w0 w) :
  Calls Tryz.prog 90 #[.int .i64 i] w fun e w' => e = .returned (Sn.val (Sp.new i)) ∧ Below w0.heap.size w0 w' := by
 have HW := Lib.hid hw
 clear hw
 go_enter Tryz.func90,Tryz.ntmps90
 go_wp2
 exact bodyPost_ret (v := Sn.val (Sp.new i)) (by simp [results,Sn.val,Sp.new,Tryz.results90,go_sem]) rfl ⟨rfl,below_box HW.out _⟩
theorem fresh_agg (i : Int) (u : World) (k : Nat) (os : Array Obj) : AnsS 90 #[.int .i64 i] u k os (.agg #[.int .i64 i,.int .i64 0,.int .i64 0,.int .i64 0,.int .i64 0]) :=
 Calls.regrown_of (ses_fresh i _ _ (Below.refl _ _))
def Sp.mid (r : Sn.T) : Bool := Sp.numB r.last || (decide (r.last = 0) && Sp.zeroB r)
theorem Sp.mid_no {r : Sn.T} (h : Sp.numB r.last = false) (k : r.last ≠ 0 ∨ r.why ≠ 0 ∨ r.num ≠ 0 ∨ r.gross ≠ 0) : Sp.mid r = false := by
 unfold Sp.mid
 rw [h,Bool.false_or]
 rw [Bool.eq_false_iff]
 intro hh
 rw [Bool.and_eq_true,decide_eq_true_iff,Sp.zero_iff] at hh
 omega
theorem Sp.mid_zero {r : Sn.T} (h0 : r.last = 0) (h1 : r.why = 0) (h2 : r.num = 0) (h3 : r.gross = 0) : Sp.mid r = true := by
 unfold Sp.mid
 rw [decide_eq_true h0,Sp.zero_iff.2 ⟨h1,h2,h3⟩,Bool.and_self,Bool.or_true]
theorem Sp.mid_num {r : Sn.T} (h : Sp.numB r.last = true) : Sp.mid r = true := by
 unfold Sp.mid
 rw [h,Bool.true_or]
def Sp.aid : Option Sn.T → Int
 | none => 0
 | some q => q.id
theorem Sp.ok_mid (p : Option Sn.T) (r : Sn.T) (h : 0 ≤ Sp.aid p) : Sp.ok p r = (decide (Sp.aid p < r.id) && Sp.mid r) := by
 have hm : Sp.mid r = true ↔ 0 ≤ r.last ∧ r.last ≤ 1099511627776 ∧ (r.last = 0 → r.why = 0 ∧ r.num = 0 ∧ r.gross = 0) := by
  unfold Sp.mid
  rw [Bool.or_eq_true,Bool.and_eq_true,decide_eq_true_iff,Sp.num_iff,Sp.zero_iff]
  omega
 rw [Bool.eq_iff_iff]
 unfold Sp.ok
 rw [Bool.and_eq_true,Bool.and_eq_true,Sp.sound_iff,hm,decide_eq_true_iff]
 cases p with
 | none =>
  unfold Sp.aid
  simp only [and_true]
  omega
 | some q =>
  unfold Sp.aid at h ⊢
  simp only at h ⊢
  rw [Sp.lt_iff]
  omega
set_option maxHeartbeats 2000000 in
theorem ses_sound (r : Sn.T) (w0 w : World) (hw : Below w0.heap.size w0 w) :
  Calls Tryz.prog 76 #[Sn.val r] w fun e w' => e = .returned (.bool (Sp.mid r)) ∧ Below w0.heap.size w0 w' := by
 have HW := Lib.hid hw
 clear hw
 obtain ⟨W,hW,hbW,hC⟩ := Sn.boxed1 w r
 have HBW := Lib.hid (bchain HW.out hbW)
 clear hbW
 unfold Sn.C at hC
 obtain ⟨a0,a1,a2,a3,a4⟩ := hC
 have k0 := cell_regrown a0
 have k1 := cell_regrown a1
 have k2 := cell_regrown a2
 have k3 := cell_regrown a3
 have k4 := cell_regrown a4
 have c1 := numbers_agg r.last
 have c2 := fresh_agg r.id
 unfold Sn.val
 cases hn : Sp.numB r.last
 ·
  rw [hn] at c1
  have HN := Lib.hid hn
  clear hn
  by_cases h1 : r.last = 0
  ·
   by_cases h2 : r.why = 0
   ·
    by_cases h3 : r.num = 0
    ·
     by_cases h4 : r.gross = 0
     ·
      have HE := Lib.hid (Sp.mid_zero h1 h2 h3 h4)
      have q1 : (r.last == 0) = true := beq_iff_eq.2 h1
      have q2 : (r.why == 0) = true := beq_iff_eq.2 h2
      have q3 : (r.num == 0) = true := beq_iff_eq.2 h3
      have q4 : (r.gross == 0) = true := beq_iff_eq.2 h4
      clear h1 h2 h3 h4
      go_enter Tryz.func76,Tryz.ntmps76
      go_wp2
      refine wp_region_quiet_below (by kernel_rfl) (by kernel_rfl) ?_
      repeat (first | go_big_quiet_step (first | (go_at_call 62; exact c1 _ _ _) | (go_at_call 90; exact c2 _ _ _)) | quiet_step (first | (go_at_call 62; exact c1 _ _ _) | (go_at_call 90; exact c2 _ _ _)))
      refine wpQuiet_nil ?_
      intro _ hw'
      obtain ⟨⟨dq,osq⟩,hw''⟩ := hw'
      subst hw''
      have HBv := Lib.hid (bchain HBW.out (below_regrown W dq osq))
      go_wp2
      go_ret
      exact ⟨ret_bool HE.out.symm,HBv.out⟩
     ·
      have HE := Lib.hid (Sp.mid_no HN.out (.inr (.inr (.inr h4))))
      have q1 : (r.last == 0) = true := beq_iff_eq.2 h1
      have q2 : (r.why == 0) = true := beq_iff_eq.2 h2
      have q3 : (r.num == 0) = true := beq_iff_eq.2 h3
      have q4 : (r.gross == 0) = false := beq_eq_false_iff_ne.2 h4
      clear h1 h2 h3 h4
      go_enter Tryz.func76,Tryz.ntmps76
      go_wp2
      refine wp_region_quiet_below (by kernel_rfl) (by kernel_rfl) ?_
      repeat (first | go_big_quiet_step (first | (go_at_call 62; exact c1 _ _ _) | (go_at_call 90; exact c2 _ _ _)) | quiet_step (first | (go_at_call 62; exact c1 _ _ _) | (go_at_call 90; exact c2 _ _ _)))
      refine wpQuiet_nil ?_
      intro _ hw'
      obtain ⟨⟨dq,osq⟩,hw''⟩ := hw'
      subst hw''
      have HBv := Lib.hid (bchain HBW.out (below_regrown W dq osq))
      go_wp2
      go_ret
      exact ⟨ret_bool HE.out.symm,HBv.out⟩
    ·
     have HE := Lib.hid (Sp.mid_no HN.out (.inr (.inr (.inl h3))))
     have q1 : (r.last == 0) = true := beq_iff_eq.2 h1
     have q2 : (r.why == 0) = true := beq_iff_eq.2 h2
     have q3 : (r.num == 0) = false := beq_eq_false_iff_ne.2 h3
     clear h1 h2 h3
     go_enter Tryz.func76,Tryz.ntmps76
     go_wp2
     refine wp_region_quiet_below (by kernel_rfl) (by kernel_rfl) ?_
     repeat (first | go_big_quiet_step (first | (go_at_call 62; exact c1 _ _ _) | (go_at_call 90; exact c2 _ _ _)) | quiet_step (first | (go_at_call 62; exact c1 _ _ _) | (go_at_call 90; exact c2 _ _ _)))
     refine wpQuiet_nil ?_
     intro _ hw'
     obtain ⟨⟨dq,osq⟩,hw''⟩ := hw'
     subst hw''
     have HBv := Lib.hid (bchain HBW.out (below_regrown W dq osq))
     go_wp2
     go_ret
     exact ⟨ret_bool HE.out.symm,HBv.out⟩
   ·
    have HE := Lib.hid (Sp.mid_no HN.out (.inr (.inl h2)))
    have q1 : (r.last == 0) = true := beq_iff_eq.2 h1
    have q2 : (r.why == 0) = false := beq_eq_false_iff_ne.2 h2
    clear h1 h2
    go_enter Tryz.func76,Tryz.ntmps76
    go_wp2
    refine wp_region_quiet_below (by kernel_rfl) (by kernel_rfl) ?_
    repeat (first | go_big_quiet_step (first | (go_at_call 62; exact c1 _ _ _) | (go_at_call 90; exact c2 _ _ _)) | quiet_step (first | (go_at_call 62; exact c1 _ _ _) | (go_at_call 90; exact c2 _ _ _)))
    refine wpQuiet_nil ?_
    intro _ hw'
    obtain ⟨⟨dq,osq⟩,hw''⟩ := hw'
    subst hw''
    have HBv := Lib.hid (bchain HBW.out (below_regrown W dq osq))
    go_wp2
    go_ret
    exact ⟨ret_bool HE.out.symm,HBv.out⟩
  ·
   have HE := Lib.hid (Sp.mid_no HN.out (.inl h1))
   have q1 : (r.last == 0) = false := beq_eq_false_iff_ne.2 h1
   clear h1
   go_enter Tryz.func76,Tryz.ntmps76
   go_wp2
   refine wp_region_quiet_below (by kernel_rfl) (by kernel_rfl) ?_
   repeat (first | go_big_quiet_step (first | (go_at_call 62; exact c1 _ _ _) | (go_at_call 90; exact c2 _ _ _)) | quiet_step (first | (go_at_call 62; exact c1 _ _ _) | (go_at_call 90; exact c2 _ _ _)))
   refine wpQuiet_nil ?_
   intro _ hw'
   obtain ⟨⟨dq,osq⟩,hw''⟩ := hw'
   subst hw''
   have HBv := Lib.hid (bchain HBW.out (below_regrown W dq osq))
   go_wp2
   go_ret
   exact ⟨ret_bool HE.out.symm,HBv.out⟩
 ·
  rw [hn] at c1
  have HE := Lib.hid (Sp.mid_num hn)
  clear hn
  go_enter Tryz.func76,Tryz.ntmps76
  go_wp2
  refine wp_region_quiet_below (by kernel_rfl) (by kernel_rfl) ?_
  repeat (first | go_big_quiet_step (first | (go_at_call 62; exact c1 _ _ _) | (go_at_call 90; exact c2 _ _ _)) | quiet_step (first | (go_at_call 62; exact c1 _ _ _) | (go_at_call 90; exact c2 _ _ _)))
  refine wpQuiet_nil ?_
  intro _ hw'
  obtain ⟨⟨dq,osq⟩,hw''⟩ := hw'
  subst hw''
  have HBv := Lib.hid (bchain HBW.out (below_regrown W dq osq))
  go_wp2
  go_ret
  exact ⟨ret_bool HE.out.symm,HBv.out⟩
set_option maxHeartbeats 2000000 in
theorem ses_index (ls : List Sn.T) (i : Int) (ao : Option Addr) (n cap : Nat) (w0 w : World) (hw : Below w0.heap.size w0 w) (hL : Sn.Ls w ao n cap ls) :
  Calls Tryz.prog 61 #[.slice ao n cap,.int .i64 i] w fun e w' => e = .returned (.int .i64 (Sp.ix i ls : Nat)) ∧ Below w0.heap.size w0 w' := by
 have HW := Lib.hid hw
 have HL := Lib.hid hL
 have HN := Lib.hid hL.len
 have hcap := hL.reach
 have hfit := hL.fits
 clear hL hw
 go_enter Tryz.func61,Tryz.ntmps61
 go_wp2_with fail
 go_loopw [5,6,9] (fun _ _ j wr => ∃ k : Nat,k ≤ n ∧ j = .int .i64 k ∧ Hid (∀ r ∈ ls.take k,r.id ≠ i) ∧ Hid (Below w.heap.size w wr)) (fun _ _ j _ => n - (intOf j).toNat)
 case atStart => exact ⟨0,by omega,rfl,Lib.hid (fun _ h => by cases h),Lib.hid (Below.refl _ _)⟩
 case round =>
  obtain ⟨k,hk,rfl,HT,HB⟩ := hrel
  by_cases hlt : k < n
  ·
   obtain ⟨b,off,rfl⟩ := HL.out.at (by omega)
   have hkl : k < ls.length := HN.out ▸ hlt
   obtain ⟨r,hr⟩ : ∃ r,ls[k] = r := ⟨_,rfl⟩
   have hrow := (HL.out.row k hkl).below HB.out
   rw [hr] at hrow
   obtain ⟨g0,g1,g2,g3,g4⟩ := hrow
   obtain ⟨W,hW,hbW,hA⟩ := Sn.boxed1 wr r
   have HBW := Lib.hid (bchain HB.out hbW)
   clear hbW
   unfold Sn.C at hA
   obtain ⟨a0,a1,a2,a3,a4⟩ := hA
   have HS := Lib.hid (List.take_succ_eq_append_getElem hkl)
   by_cases he : r.id = i
   ·
    have HF := Lib.hid (Sp.ix_at hkl HT.out (hr ▸ he))
    have qe : (r.id == i) = true := beq_iff_eq.2 he
    clear he hr
    go_wp2_with fail
    go_ret
    exact ⟨by rw [HF.out]; rfl,bchain HW.out HBW.out⟩
   ·
    have HE := Lib.hid he
    have qe : (r.id == i) = false := beq_eq_false_iff_ne.2 he
    have HR := Lib.hid hr
    clear hr he
    go_wp2_with fail
    go_roundw
    case rel =>
     refine ⟨k + 1,by omega,by go_num,Lib.hid ?_,HBW⟩
     rw [HS.out]
     intro x hx
     rcases List.mem_append.1 hx with h | h
     · exact HT.out x h
     ·
      obtain rfl := List.mem_singleton.1 h
      rw [HR.out]
      exact HE.out
    case measure => simp [intOf]; omega
  ·
   obtain rfl : k = n := by omega
   have HF : Hid (Sp.ix i ls = k) := Lib.hid (by
    have := Sp.ix_none (s := i) (l := ls) (fun r hr => HT.out r (by rw [List.take_of_length_le (by rw [← HN.out]; exact Nat.le_refl _)]; exact hr))
    rw [this,HN.out])
   go_wp2_with fail
   go_ret
   exact ⟨by rw [HF.out]; rfl,bchain HW.out HB.out⟩
end Go.Proofs.YtjpfpojbalepeabGreat
namespace Go.Proofs.YtjpfpojbalepeabGreat
open Go.RowKit
open Mem
open Go.Sort (grow)
set_option maxHeartbeats 2000000 in
theorem ses_right (rs : List Sn.T) (ao : Option Addr) (n cap : Nat) (w0 w : World) (hw : Below w0.heap.size w0 w) (hR : Sn.Ls w ao n cap rs) :
  Calls Tryz.prog 50 #[.slice ao n cap] w fun e w' => e = .returned (.bool (Sp.rightB rs)) ∧ Below w0.heap.size w0 w' := by
 have HW := Lib.hid hw
 have HR := Lib.hid hR
 have HN := Lib.hid hR.len
 have hcap := hR.reach
 have hfit := hR.fits
 clear hw hR
 by_cases h8 : 8 < n
 ·
  have HT := Lib.hid (Sp.right_long (l := rs) (HN.out ▸ h8))
  go_enter Tryz.func50,Tryz.ntmps50
  go_wp2
  go_ret
  exact ⟨ret_bool HT.out.symm,HW.out⟩
 ·
  have HT := Lib.hid (Sp.right_short (l := rs) (by have := HN.out; omega))
  go_enter Tryz.func50,Tryz.ntmps50
  go_wp2
  go_loopw [3,5,11] (fun a _ i wr => ∃ (k : Nat) (A : Int),k ≤ n ∧ a = .int .i64 A ∧ i = .int .i64 k ∧ Hid (A = Sp.aid (Sp.prevAt rs k) ∧ 0 ≤ A) ∧ Hid (Sp.okAll (Sp.prevAt rs k) (rs.drop k) = Sp.okAll none rs) ∧ Hid (Below w.heap.size w wr)) (fun _ _ i _ => n - (intOf i).toNat)
  case atStart => exact ⟨0,0,by omega,rfl,rfl,Lib.hid ⟨rfl,Int.le_refl _⟩,Lib.hid rfl,Lib.hid (Below.refl _ _)⟩
  case round =>
   obtain ⟨k,A,hk,rfl,rfl,HA,HK,HB⟩ := hrel
   by_cases hlt : k < n
   ·
    obtain ⟨b,off,rfl⟩ := HR.out.at (by omega)
    have hkr : k < rs.length := HN.out ▸ hlt
    obtain ⟨r,hr⟩ : ∃ r,rs[k] = r := ⟨_,rfl⟩
    have hrow := (HR.out.row k hkr).below HB.out
    have HSt := Lib.hid (Sp.okAll_at rs k hkr)
    have HPv := Lib.hid (Sp.prev_at hkr hr)
    rw [hr] at hrow HSt
    have HO := Lib.hid (Sp.ok_mid (Sp.prevAt rs k) r (by rw [← HA.out.1]; exact HA.out.2))
    rw [← HA.out.1] at HO
    obtain ⟨g0,g1,g2,g3,g4⟩ := hrow
    obtain ⟨W,hW,hbW,hA⟩ := Sn.boxed1 wr r
    have HBW := Lib.hid (bchain HB.out hbW)
    have HC := Lib.hid hA
    clear hbW hr
    unfold Sn.C at hA
    obtain ⟨a0,a1,a2,a3,a4⟩ := hA
    by_cases hle : r.id ≤ A
    ·
     have hd : decide (r.id ≤ A) = true := decide_eq_true hle
     have HD : Hid (decide (A < r.id) = false) := Lib.hid (decide_eq_false (by omega))
     clear hle
     go_wp2_with fail
     go_ret
     exact ⟨ret_bool (by rw [HT.out,← HK.out,HSt.out,HO.out,HD.out,Bool.false_and,Bool.false_and]),bchain HW.out HBW.out⟩
    ·
     have hd : decide (r.id ≤ A) = false := decide_eq_false hle
     have HD : Hid (decide (A < r.id) = true) := Lib.hid (decide_eq_true (by omega))
     have HG : Hid (0 ≤ r.id) := Lib.hid (by have := HA.out.2; omega)
     clear hle
     go_wp2_with fail
     refine (ses_sound r W _ (Below.refl _ _)).mono ?_
     rintro e w1 ⟨rfl,b1⟩
     have hA := HC.out.below b1
     have HB1 := Lib.hid (bchain HBW.out b1)
     clear a0 a1 a2 a3 a4 b1 HC
     unfold Sn.C at hA
     obtain ⟨a0,a1,a2,a3,a4⟩ := hA
     cases hm : Sp.mid r
     ·
      rw [hm] at HO
      clear hm
      go_wp2_with fail
      go_ret
      exact ⟨ret_bool (by rw [HT.out,← HK.out,HSt.out,HO.out,Bool.and_false,Bool.false_and]),bchain HW.out HB1.out⟩
     ·
      rw [hm] at HO
      clear hm
      go_wp2_with fail
      go_roundw
      case rel => exact ⟨k + 1,r.id,by omega,rfl,by go_num,Lib.hid ⟨by rw [HPv.out]; rfl,HG.out⟩,Lib.hid (by rw [← HK.out,HSt.out,HO.out,HD.out,Bool.true_and,Bool.true_and]),HB1⟩
      case measure => simp [intOf]; omega
   ·
    obtain rfl : k = n := by omega
    go_wp2_with fail
    go_ret
    exact ⟨ret_bool (by rw [HT.out,← HK.out,List.drop_eq_nil_of_le (Nat.le_of_eq HN.out.symm)]; rfl),bchain HW.out HB.out⟩
end Go.Proofs.YtjpfpojbalepeabGreat
set_option maxRecDepth 100000
set_option linter.unusedVariables false
namespace Go.Proofs.YtjpfpojbalepeabGreat
open Go.RowKit
open Mem
open Go.Sort (grow)
def Bl.YesE (w0 : World) (P : Prop) (e : Ending) (w' : World) : Prop := (P ∧ e = .returned (.bool true) ∨ ¬ P ∧ e = .returned (.bool false)) ∧ Below w0.heap.size w0 w'
def Bl.AttR (l : List Sn.T) (x : Int) : Prop := (1 ≤ x ∧ x ≤ 1099511627776) ∧ Sp.rightB l = true ∧ ∀ s ∈ l,s.id < x
set_option maxHeartbeats 4000000 in
theorem bil_attended (ls : List Sn.T) (x : Int) (ao : Option Addr) (n cap : Nat) (w0 w : World) (hw : Below w0.heap.size w0 w) (hL : Sn.Ls w ao n cap ls) :
  Calls Tryz.prog 30 #[.slice ao n cap,.int .i64 x] w (Bl.YesE w0 (Bl.AttR ls x)) := by
 have HW := Lib.hid hw
 have HL := Lib.hid hL
 have HN := Lib.hid hL.len
 have hcap := hL.reach
 have hfit := hL.fits
 clear hL hw
 by_cases h1 : x < 1
 ·
  have d1 : decide (x < 1) = true := decide_eq_true h1
  have HNo : Hid (¬ Bl.AttR ls x) := Lib.hid fun z => by have := z.1; omega
  clear h1
  go_enter Tryz.func30,Tryz.ntmps30
  go_wp2_with fail
  go_ret
  exact ⟨.inr ⟨HNo.out,rfl⟩,HW.out⟩
 ·
  have d1 : decide (x < 1) = false := decide_eq_false h1
  by_cases h2 : 1099511627776 < x
  ·
   have d2 : decide (1099511627776 < x) = true := decide_eq_true h2
   have HNo : Hid (¬ Bl.AttR ls x) := Lib.hid fun z => by have := z.1; omega
   clear h1 h2
   go_enter Tryz.func30,Tryz.ntmps30
   go_wp2_with fail
   go_ret
   exact ⟨.inr ⟨HNo.out,rfl⟩,HW.out⟩
  ·
   have d2 : decide (1099511627776 < x) = false := decide_eq_false h2
   have HX : Hid (1 ≤ x ∧ x ≤ 1099511627776) := Lib.hid ⟨by omega,by omega⟩
   clear h1 h2
   go_enter Tryz.func30,Tryz.ntmps30
   go_wp2_with fail
   refine (ses_right ls ao n cap w w (Below.refl _ _) HL.out).mono ?_
   rintro e w1 ⟨rfl,b1⟩
   have HB1 := Lib.hid b1
   clear b1 d1 d2
   cases hr : Sp.rightB ls
   ·
    have HNo : Hid (¬ Bl.AttR ls x) := Lib.hid fun z => by have := z.2.1; rw [hr] at this; cases this
    clear hr
    go_wp2_with fail
    go_ret
    exact ⟨.inr ⟨HNo.out,rfl⟩,bchain HW.out HB1.out⟩
   ·
    have HRt := Lib.hid hr
    clear hr
    go_wp2_with fail
    go_loopw [6,20] (fun _ j wr => ∃ k : Nat,k ≤ n ∧ j = .int .i64 k ∧ Hid (∀ s ∈ ls.take k,s.id < x) ∧ Hid (Below w.heap.size w wr)) (fun _ j _ => n - (intOf j).toNat)
    case atStart => exact ⟨0,by omega,rfl,Lib.hid (fun _ h => by cases h),HB1⟩
    case round =>
     obtain ⟨k,hk,rfl,HT,HB⟩ := hrel
     by_cases hlt : k < n
     ·
      obtain ⟨b,off,rfl⟩ := HL.out.at (by omega)
      have hkl : k < ls.length := HN.out ▸ hlt
      have HM := Lib.hid (List.getElem_mem hkl)
      have HS := Lib.hid (List.take_succ_eq_append_getElem hkl)
      have hrow := (HL.out.row k hkl).below HB.out
      obtain ⟨r,hr⟩ : ∃ r,ls[k] = r := ⟨_,rfl⟩
      rw [hr] at hrow HM HS
      clear hr
      obtain ⟨g0,g1,g2,g3,g4⟩ := hrow
      obtain ⟨W,hW,hbW,hA⟩ := Sn.boxed1 wr r
      have HBW := Lib.hid (bchain HB.out hbW)
      clear hbW
      unfold Sn.C at hA
      obtain ⟨a0,a1,a2,a3,a4⟩ := hA
      by_cases he : x ≤ r.id
      ·
       have q : decide (x ≤ r.id) = true := decide_eq_true he
       have HNo : Hid (¬ Bl.AttR ls x) := Lib.hid fun z => by have := z.2.2 r HM.out; omega
       clear he
       go_wp2_with fail
       go_ret
       exact ⟨.inr ⟨HNo.out,rfl⟩,bchain HW.out HBW.out⟩
      ·
       have q : decide (x ≤ r.id) = false := decide_eq_false he
       have HId : Hid (r.id < x) := Lib.hid (by omega)
       clear he
       go_wp2_with fail
       go_roundw
       case rel =>
        refine ⟨k + 1,by omega,by go_num,Lib.hid ?_,HBW⟩
        rw [HS.out]
        intro y hy
        rcases List.mem_append.1 hy with h | h
        · exact HT.out y h
        ·
         rw [List.mem_singleton.1 h]
         exact HId.out
       case measure => simp [intOf]; omega
     ·
      obtain rfl : k = n := by omega
      have HYes : Hid (Bl.AttR ls x) := Lib.hid ⟨HX.out,HRt.out,by
       have h := HT.out
       rw [List.take_of_length_le (by rw [HN.out]; exact Nat.le_refl _)] at h
       exact h⟩
      go_wp2_with fail
      go_ret
      exact ⟨.inl ⟨HYes.out,rfl⟩,bchain HW.out HB.out⟩
set_option maxHeartbeats 4000000 in
theorem bil_numbered (ps : List Bl.Ps) (rs : List Pd.T) (os : List Sr.T) (ao bo : Option Addr) (n ca m cb : Nat) (w0 w : World) (hw : Below w0.heap.size w0 w) (hL : Pd.Ls w ao n ca rs) (hE : Bl.Each w rs ps) (hO : Sr.Ls w bo m cb os) (hR : Se.rightB os = true) (hn : n ≤ 1000) :
  Calls Tryz.prog 31 #[.slice ao n ca,.slice bo m cb] w (Bl.YesE w0 (Bl.NumR ps os)) := by
 have HW := Lib.hid hw
 have HL := Lib.hid hL
 have HN : Hid (n = ps.length) := Lib.hid (by rw [hL.len,hE.len])
 have HE := Lib.hid hE
 have HO := Lib.hid hO
 have HM := Lib.hid hO.len
 have HSr := Lib.hid ((Se.right_iff _).1 hR)
 have hcap := hO.reach
 have hfit := hO.fits
 have hm8 : m ≤ 8 := by have := hO.len; have := ((Se.right_iff _).1 hR).1; omega
 clear hL hw hE hO hR
 go_enter Tryz.func31,Tryz.ntmps31
 go_wp2_with fail
 go_loopw [5,7,8,9,12] (fun a _ _ _ j wr => ∃ k t : Nat,k ≤ m ∧ t ≤ k * 1000 ∧ j = .int .i64 k ∧ a = .int .i64 t ∧ Hid ((∀ r ∈ os.take k,Bl.CntOk r.name ps ∧ (Bl.cnt r.name ps : Int) = r.next - 1) ∧ Bl.cntAll ps (os.take k) = t) ∧ Hid (Below w.heap.size w wr)) (fun _ _ _ _ j _ => m - (intOf j).toNat)
 case atStart => exact ⟨0,0,by omega,by omega,rfl,rfl,Lib.hid ⟨fun _ h => (by cases h),rfl⟩,Lib.hid (Below.refl _ _)⟩
 case round =>
  obtain ⟨k,t,hk,htk,rfl,rfl,HT,HB⟩ := hrel
  by_cases hlt : k < m
  ·
   obtain ⟨b,off,rfl⟩ := HO.out.at (by omega)
   have hkl : k < os.length := HM.out ▸ hlt
   have HMe := Lib.hid (List.getElem_mem hkl)
   have HS := Lib.hid (List.take_succ_eq_append_getElem hkl)
   have HCt := Lib.hid (Bl.cntAll_take ps os k hkl)
   have hrow := (HO.out.row k hkl).below HB.out
   obtain ⟨r,hr⟩ : ∃ r,os[k] = r := ⟨_,rfl⟩
   rw [hr] at hrow HMe HS HCt
   clear hr
   obtain ⟨g0,g1,g2,g3⟩ := hrow
   obtain ⟨W,hW,hbW,hA⟩ := Sr.boxed1 wr r
   have HBW := Lib.hid (bchain HB.out hbW)
   have HCW := Lib.hid hA
   clear hbW
   unfold Sr.C at hA
   obtain ⟨a0,a1,a2,a3⟩ := hA
   have hso := Se.sound_iff.1 (HSr.out.2.1 r HMe.out)
   have hli := Se.lim_iff.1 hso.2.1
   have hb1 : -9223372036854775808 ≤ r.next - 1 := by have := hso.2.2.1; omega
   have hb2 : r.next - 1 ≤ 9223372036854775807 := by have := hso.2.2.2; omega
   clear hso hli
   go_wp2_with fail
   clear hW
   refine (bil_count ps rs r.name ao n ca W W (Below.refl _ _) (HL.out.below HBW.out) (HE.out.below HBW.out)).mono ?_
   rintro e w2 ⟨hcase,b2⟩
   have HB2 := Lib.hid (bchain HBW.out b2)
   have hA2 := HCW.out.below b2
   unfold Sr.C at hA2
   clear a0 a1 a2 a3 g0 g1 g2 g3
   obtain ⟨a0,a1,a2,a3⟩ := hA2
   have hcl := Bl.cnt_len r.name ps
   have HCl : Hid (Bl.cnt r.name ps ≤ n) := Lib.hid (by rw [HN.out]; exact hcl)
   clear b2 hcl
   rcases hcase with ⟨hok,rfl⟩ | ⟨hno,rfl⟩
   ·
    have HOk := Lib.hid hok
    clear hok
    obtain ⟨q,hq⟩ : ∃ q,Bl.cnt r.name ps = q := ⟨_,rfl⟩
    have HQ := Lib.hid hq
    rw [hq] at HCl HCt ⊢
    clear hq
    have hql := HCl.out
    have hb3 : k * 1000 ≤ 7000 := by omega
    by_cases he : (q : Int) = r.next - 1
    ·
     have qe : ((q : Int) == r.next - 1) = true := beq_iff_eq.2 he
     have HEq := Lib.hid he
     clear he
     go_wp2_with fail
     go_roundw
     case rel =>
      refine ⟨k + 1,t + q,by omega,by omega,by go_num,by go_num,Lib.hid ⟨?_,by rw [HCt.out,HT.out.2]⟩,HB2⟩
      rw [HS.out]
      intro y hy
      rcases List.mem_append.1 hy with h | h
      · exact HT.out.1 y h
      ·
       rw [List.mem_singleton.1 h]
       exact ⟨HOk.out,by rw [HQ.out]; exact HEq.out⟩
     case measure => simp [intOf]; omega
    ·
     have qe : ((q : Int) == r.next - 1) = false := beq_eq_false_iff_ne.2 he
     have HNo : Hid (¬ Bl.NumR ps os) := Lib.hid fun z => he (by rw [← HQ.out]; exact (z.each r HMe.out).2)
     clear he
     go_wp2_with fail
     go_ret
     exact ⟨.inr ⟨HNo.out,rfl⟩,bchain HW.out HB2.out⟩
   ·
    have HNo : Hid (¬ Bl.NumR ps os) := Lib.hid fun z => hno (z.each r HMe.out).1
    clear hno
    go_wp2_with fail
    go_ret
    exact ⟨.inr ⟨HNo.out,rfl⟩,bchain HW.out HB2.out⟩
  ·
   obtain rfl : k = m := by omega
   have HA : Hid ((∀ r ∈ os,Bl.CntOk r.name ps ∧ (Bl.cnt r.name ps : Int) = r.next - 1) ∧ Bl.cntAll ps os = t) := Lib.hid (by
    have h := HT.out
    rw [List.take_of_length_le (by rw [HM.out]; exact Nat.le_refl _)] at h
    exact h)
   by_cases he : t = n
   ·
    have qe : ((t : Int) == (n : Int)) = true := beq_iff_eq.2 (by omega)
    have HYes : Hid (Bl.NumR ps os) := Lib.hid ⟨HA.out.1,by rw [HA.out.2,he,HN.out]⟩
    clear he
    go_wp2_with fail
    go_ret
    exact ⟨.inl ⟨HYes.out,rfl⟩,bchain HW.out HB.out⟩
   ·
    have qe : ((t : Int) == (n : Int)) = false := beq_eq_false_iff_ne.2 (by omega)
    have HNo : Hid (¬ Bl.NumR ps os) := Lib.hid fun z => he (by rw [← HA.out.2,z.all,HN.out])
    clear he
    go_wp2_with fail
    go_ret
    exact ⟨.inr ⟨HNo.out,rfl⟩,bchain HW.out HB.out⟩
end Go.Proofs.YtjpfpojbalepeabGreat
namespace Go.Proofs.YtjpfpojbalepeabGreat.Ba
open Go.RowKit
open Mem
def Block (w : World) (g : Nat) (ts : List T) : Prop := w.heap[g]? = some (.cells (ts.flatMap rv).toArray 77 (0,0))
theorem Block.row {w : World} {g : Nat} {ts : List T} (h : Block w g ts) (k : Nat) (hk : k < ts.length) : At w g (k * 2) ts[k] := by
 have hcell : ∀ p,p < 2 → w.cell? ⟨g,k * 2 + p,none⟩ = (rv ts[k])[p]? := by
  intro p hp
  rw [cell_of_row w g _ _ _ _ h,← flat_at ts k p hk hp]
  simp
 exact ⟨hcell 0 (by omega),hcell 1 (by omega)⟩
theorem Block.ls {w : World} {g : Nat} {ts zs : List T} (h : Block w g (ts ++ zs)) (n cap : Nat) (hn : n = ts.length) (hc : n ≤ cap) (hm : cap ≤ 9223372036854775807) (hs : ∀ r ∈ ts,Short r) : Ls w (some ⟨g,0,none⟩) n cap ts := by
 refine ⟨hn,hc,hm,(fun k => by cases k),.inr ⟨g,0,rfl,fun k hk => ?_⟩,hs⟩
 have hr := h.row k (by rw [List.length_append]; omega)
 rw [List.getElem_append_left hk] at hr
 rw [Nat.zero_add]
 exact hr
def zeros (n : Nat) : Array Value := ((List.replicate n zero).flatMap rv).toArray
theorem sizeZ : (Tryz.prog.info? 77).map (·.size) = some 2 := by kernel_rfl
theorem made (n : Nat) : madeCells zeroV.cells (n * 2) = zeros n := by
 apply Array.ext_getElem?
 intro j
 by_cases hj : j < n * 2
 ·
  obtain ⟨k,p,rfl,hp⟩ : ∃ k p,j = k * 2 + p ∧ p < 2 := ⟨j / 2,j % 2,by omega,by omega⟩
  have hk : k < n := by omega
  have hz : (zeros n)[k * 2 + p]? = (rv zero)[p]? := by
   unfold zeros
   rw [List.getElem?_toArray,flat_at (List.replicate n zero) k p (by simpa using hk) hp,List.getElem_replicate]
  rw [hz]
  have e : (k * 2 + p) % 2 = p := by omega
  have hp' : p = 0 ∨ p = 1 := by omega
  unfold madeCells
  rw [Array.getElem?_map,Array.getElem?_range,if_pos hj]
  simp only [Option.map_some]
  rw [show zeroV.cells.size = 2 from rfl,e]
  rcases hp' with rfl | rfl <;> rfl
 ·
  rw [Array.getElem?_eq_none (by rw [size_madeCells]; omega),Array.getElem?_eq_none]
  unfold zeros
  rw [List.size_toArray,flat_len,List.length_replicate]
  omega
theorem make (n : Nat) (hn : n ≤ 100000) (u : World) : (Instr.makeSlice 37 (.int .i64 (n : Int)) (.int .i64 (n : Int))).run Tryz.prog u =
  .ok (.slice (some ⟨u.heap.size,0,none⟩) n n) (u.alloc (.cells (zeros n) 77)) := by
 obtain ⟨i0,hi,hz0,hz1,hz2⟩ := info_parts info
 have h := run_make (P := Tryz.prog) u 37 77 i0 zeroV Tryz.underlying37 hi hz0 .i64 .i64 (n : Int) (n : Int) (by omega) (Int.le_refl _) (by rw [hz2]; omega) (by omega)
 rw [hz1,Int.toNat_natCast,made] at h
 exact h
theorem block_made (u : World) (n : Nat) : Block (u.alloc (.cells (zeros n) 77)) u.heap.size (List.replicate n zero) := heap_alloc_new u _
theorem copy (u : World) (g : Nat) (ts : List T) (dCap : Nat) (ao : Option Addr) (n cap : Nat) (rs : List T) (hb : Block u g (List.replicate n zero ++ ts)) (hn : n = rs.length) (hs : Seg u ao rs) :
  ∃ u',(Builtin.copy_ #[37,37] 3 #[.slice (some ⟨g,0,none⟩) (n + ts.length) dCap,.slice ao n cap]).run Tryz.prog u = .ok (goInt n) u' ∧ Block u' g (rs ++ ts) ∧ (∀ B w0,Below B w0 u → B ≤ g → Below B w0 u') ∧ u'.heap.size = u.heap.size := by
 obtain ⟨i0,hi,hiK⟩ := Option.map_eq_some_iff.1 sizeZ
 have hmin : Nat.min n (n + ts.length) = n := Nat.min_eq_left (by omega)
 rcases hs with e | ⟨b,off,rfl,hc⟩
 ·
  subst e
  obtain rfl : n = 0 := hn
  refine ⟨u,?_,by simpa using hb,fun _ _ h _ => h,rfl⟩
  have hl : ∀ (x : Addr),(loadCells x 0).run Tryz.prog u = .ok #[] u := fun x => by simpa using run_loadCells_list (P := Tryz.prog) u x [] (by simp)
  cases ao <;> simp [Builtin.copy_,run_underlying Tryz.underlying37,Builtin.lenOf,Builtin.firstCells,sizeOf,typeInfo,hi,storeCells,hl]
 ·
  have hl := run_loadCells_list (P := Tryz.prog) u ⟨b,off,none⟩ (rs.flatMap rv) (fun j v hv => news_of hc j v hv)
  have hst := run_storeCells_at Tryz.prog g 0 77 (rs.flatMap rv) 0 _ u hb (by rw [List.size_toArray,flat_len,flat_len,List.length_append,List.length_replicate]; omega) (one_cell rs)
  have hlen : (rs.flatMap rv).length = n * 2 := by rw [flat_len,hn]
  have e : (((List.replicate n zero ++ ts).flatMap rv).toArray.toList.take (0 + 0) ++ rs.flatMap rv ++ ((List.replicate n zero ++ ts).flatMap rv).toArray.toList.drop (0 + 0 + (rs.flatMap rv).length)) = (rs ++ ts).flatMap rv := by
   rw [List.toList_toArray,List.take_zero,List.nil_append,Nat.zero_add,hlen,List.flatMap_append,List.flatMap_append,List.drop_left' (by rw [flat_len,List.length_replicate])]
  rw [e] at hst
  refine ⟨u.setRow g ((rs ++ ts).flatMap rv).toArray,?_,setRow_heap u g _ _ 77 _ hb,fun B w0 h hB => below_setRow h hB _,by simp [World.setRow]⟩
  rw [hlen] at hl
  simp [Builtin.copy_,run_underlying Tryz.underlying37,Builtin.lenOf,Builtin.firstCells,sizeOf,typeInfo,hi,hiK,hmin,hl,hst]
theorem set_right {a : T} (X : List Value) (k p : Nat) (v : Value) : (rv a ++ X).set ((k + 1) * 2 + p) v = rv a ++ X.set (k * 2 + p) v := by
 rw [List.set_append_right _ _ (by rw [rv_len]; omega),rv_len,show (k + 1) * 2 + p - 2 = k * 2 + p by omega]
theorem flat_set : ∀ (ts : List T) (k : Nat) (r : T),k < ts.length → (ts.set k r).flatMap rv = (((ts.flatMap rv).set (k * 2) (.string r.acct)).set (k * 2 + 1) (.int .i64 r.amt))
 | a :: l,0,r,_ => rfl
 | a :: l,k + 1,r,h => by
  have ih := flat_set l k r (by simpa using h)
  have e0 := fun (X : List Value) (v : Value) => set_right (a := a) X k 0 v
  simp only [Nat.add_zero] at e0
  rw [List.set_cons_succ,List.flatMap_cons,ih,List.flatMap_cons,e0,set_right]
theorem below_store {B g : Nat} {w0 w : World} (h : Below B w0 w) (hg : B ≤ g) (k : Nat) (x0 x1 : Value) :
  Below B w0 ((w.setCell ⟨g,k * 2,none⟩ x0).setCell ⟨g,k * 2 + 1,none⟩ x1) :=
 ((h.setCell hg x0).setCell hg x1)
theorem own_store {w : World} {B g n cap : Nat} {M : List T} (h : Own w B (.slice (some ⟨g,0,none⟩) n cap) M) (k : Nat) (hk : k < M.length) (r : T) :
  Own ((w.setCell ⟨g,k * 2,none⟩ (.string r.acct)).setCell ⟨g,k * 2 + 1,none⟩ (.int .i64 r.amt)) B (.slice (some ⟨g,0,none⟩) n cap) (M.set k r) := by
 rcases h.2 with ⟨h',_⟩ | ⟨g',cap',cur,h',hb,hg,hnc,hcm,hcs,htake⟩
 · cases h'
 ·
  simp only [Value.slice.injEq,Option.some.injEq,Addr.mk.injEq,and_true] at h'
  obtain ⟨e1,e2,e3⟩ := h'
  subst e1 e3
  have h1 := heap_setCell_same _ g (k * 2) _ _ (.string r.acct) hg
  have h2 := heap_setCell_same _ g (k * 2 + 1) _ _ (.int .i64 r.amt) h1
  refine ⟨by rw [flat_len],.inr ⟨g,cap,_,by rw [List.length_set,e2],hb,h2,by rw [List.length_set]; exact hnc,hcm,by simpa using hcs,?_⟩⟩
  rw [List.length_set,flat_set M k r hk]
  simp only [Array.toList_setIfInBounds]
  rw [← htake]
  simp only [List.take_set]
theorem own_at {w : World} {B g n cap : Nat} {M : List T} (h : Own w B (.slice (some ⟨g,0,none⟩) n cap) M) (k : Nat) (hk : k < M.length) : At w g (k * 2) M[k] ∧ (∀ o,w.frozen? ⟨g,o,none⟩ = false) ∧ B ≤ g := by
 rcases h.2 with ⟨h',_⟩ | ⟨g',cap',cur,h',hb,hg,hnc,hcm,hcs,htake⟩
 · cases h'
 ·
  simp only [Value.slice.injEq,Option.some.injEq,Addr.mk.injEq,and_true] at h'
  obtain ⟨e1,e2,e3⟩ := h'
  subst e1 e3
  have hcell : ∀ p,p < 2 → w.cell? ⟨g,k * 2 + p,none⟩ = (rv M[k])[p]? := by
   intro p hp
   rw [cell_of_row w g _ _ _ _ hg,← flat_at M k p hk hp,← htake,List.getElem?_take_of_lt (by omega)]
   simp
  exact ⟨⟨hcell 0 (by omega),hcell 1 (by omega)⟩,fun o => frozen_of_row w g o _ _ hg,hb⟩
theorem flat_put (r : T) (p : Nat) (x : Value) (hp : p < 2) : ∀ (M : List T) (k : Nat) (hk : k < M.length),rv r = (rv M[k]).set p x → (M.set k r).flatMap rv = (M.flatMap rv).set (k * 2 + p) x
 | a :: l,0,_,h => by
  have h' : rv r = (rv a).set p x := h
  rw [List.set_cons_zero,List.flatMap_cons,List.flatMap_cons,Nat.zero_mul,Nat.zero_add,List.set_append_left _ _ (by rw [rv_len]; exact hp),h']
 | a :: l,k + 1,hk,h => by
  have ih := flat_put r p x hp l k (by simpa using hk) (by simpa using h)
  rw [List.set_cons_succ,List.flatMap_cons,List.flatMap_cons,List.set_append_right _ _ (by rw [rv_len]; omega),rv_len,show (k + 1) * 2 + p - 2 = k * 2 + p by omega,ih]
theorem own_put {w : World} {B g n cap : Nat} {M : List T} (h : Own w B (.slice (some ⟨g,0,none⟩) n cap) M) (k p : Nat) (hk : k < M.length) (hp : p < 2) (x : Value) (r : T) (hr : rv r = (rv M[k]).set p x) :
  Own (w.setCell ⟨g,k * 2 + p,none⟩ x) B (.slice (some ⟨g,0,none⟩) n cap) (M.set k r) := by
 rcases h.2 with ⟨h',_⟩ | ⟨g',cap',cur,h',hb,hg,hnc,hcm,hcs,htake⟩
 · cases h'
 ·
  simp only [Value.slice.injEq,Option.some.injEq,Addr.mk.injEq,and_true] at h'
  obtain ⟨e1,e2,e3⟩ := h'
  subst e1 e3
  have h1 := heap_setCell_same _ g (k * 2 + p) _ _ x hg
  refine ⟨by rw [flat_len],.inr ⟨g,cap,_,by rw [List.length_set,e2],hb,h1,by rw [List.length_set]; exact hnc,hcm,by simpa using hcs,?_⟩⟩
  rw [List.length_set,flat_put r p x hp M k hk hr]
  simp only [Array.toList_setIfInBounds]
  rw [← htake]
  simp only [List.take_set]
theorem own_of_block {w : World} {B g n : Nat} {M : List T} (h : Block w g M) (hB : B ≤ g) (hn : n = M.length) (hm : n ≤ 100000) : Own w B (.slice (some ⟨g,0,none⟩) n n) M := by
 subst hn
 exact ⟨by rw [flat_len],.inr ⟨g,M.length,_,rfl,hB,h,Nat.le_refl _,by have : maxLen = 9223372036854775807 := rfl; omega,by rw [List.size_toArray,flat_len],List.take_of_length_le (by show (M.flatMap rv).length ≤ _; rw [flat_len]; exact Nat.le_refl _)⟩⟩
end Go.Proofs.YtjpfpojbalepeabGreat.Ba
namespace Go.Proofs.YtjpfpojbalepeabGreat
open Go.RowKit
open Mem
open Go.Sort (grow)
theorem add_two (x y c : Int) (hx : 0 ≤ x) (hy : 0 ≤ y) (hc0 : 0 ≤ c) (hc : c ≤ 1) (w : World) : (callFunc 109 #[.int .u64 x,.int .u64 y,.int .u64 c]).run Tryz.prog w = .ok (.value (.tuple #[.int .u64 ((x + y + c) % 18446744073709551616),.int .u64 ((x + y + c) / 18446744073709551616)])) w := by
 rw [run_callFunc_extern Tryz.func109 (by kernel_rfl) (by kernel_rfl) (by kernel_rfl) (e := add64Entry) (by kernel_rfl),run_add64 x y c hx hy hc0 hc]
 rfl
structure Tw2 (hi lo s : Int) : Prop where
 h0 : 0 ≤ hi
 h1 : hi < 18446744073709551616
 l0 : 0 ≤ lo
 l1 : lo < 18446744073709551616
 sum : ∃ m : Int,hi * 18446744073709551616 + lo = s + m * 340282366920938463463374607431768211456
end Go.Proofs.YtjpfpojbalepeabGreat
namespace Go.Proofs.YtjpfpojbalepeabGreat
open Go.RowKit
theorem drop_ne (s : ByteArray) (pos : Nat) (h : pos < s.size) : (txt s).drop pos ≠ [] := by
 intro e
 have := congrArg List.length e
 rw [List.length_drop,txt_len,List.length_nil] at this
 omega
theorem drop_end (s : ByteArray) (pos : Nat) (h : ¬ pos < s.size) : (txt s).drop pos = [] :=
 List.drop_eq_nil_of_le (by rw [txt_len]; omega)
theorem dec_at (s : ByteArray) (pos : Nat) : Lib.decodeL ((txt s).drop pos) = Utf8.decode s pos := Lib.decodeL_drop s pos
theorem dec_pos (s : ByteArray) (pos : Nat) : 1 ≤ (Utf8.decode s pos).2 := Lib.width_pos s pos
theorem dec_le (s : ByteArray) (pos : Nat) (h : pos < s.size) : pos + (Utf8.decode s pos).2 ≤ s.size := by
 have := Rn.dle _ (drop_ne s pos h)
 rw [dec_at,List.length_drop,txt_len] at this
 omega
theorem runes_at (s : ByteArray) (pos : Nat) (h : pos < s.size) : Rn.runes ((txt s).drop pos) = (Utf8.decode s pos).1 :: Rn.runes ((txt s).drop (pos + (Utf8.decode s pos).2)) := by
 rw [Rn.runes_step _ (drop_ne s pos h),dec_at,List.drop_drop]
theorem runes_end (s : ByteArray) (pos : Nat) (h : ¬ pos < s.size) : Rn.runes ((txt s).drop pos) = [] := by rw [drop_end s pos h]; rfl
theorem below_iter (w : World) (s : ByteArray) (pos : Nat) : Below w.heap.size w (w.iter s pos) := (Below.refl _ _).alloc (Nat.le_refl _) _
theorem name_long (s : ByteArray) (h : s.toList = [] ∨ 24 < s.size) : Rn.name (txt s) = false := by
 unfold Rn.name
 rcases h with h | h
 · rw [← tl,h]; rfl
 ·
  rw [show decide ((txt s).length ≤ 24) = false from decide_eq_false (by rw [txt_len]; omega)]
  simp
theorem name_short (s : ByteArray) (h : s.toList ≠ []) (h2 : s.size ≤ 24) : Rn.name (txt s) = Rn.nameOk true (Rn.runes (txt s)) := by
 unfold Rn.name
 rw [show decide ((txt s).length ≤ 24) = true from decide_eq_true (by rw [txt_len]; omega)]
 rw [tl] at h
 cases e : txt s with
 | nil => exact absurd e h
 | cons _ _ => rfl
end Go.Proofs.YtjpfpojbalepeabGreat
namespace Go.Proofs.YtjpfpojbalepeabGreat
open Go.RowKit
theorem sign_within (r a b : Int) (w : World) :
  Calls Tryz.prog 126 #[.int .i32 r,.int .i32 a,.int .i32 b] w fun e w' => e = .returned (.bool (decide (a ≤ r ∧ r ≤ b))) ∧ w' = w := by
 go_enter Tryz.func126,Tryz.ntmps126
 by_cases h1 : a ≤ r
 ·
  go_wp2
  go_ret
  exact ⟨ret_bool (by simp [h1]),rfl⟩
 ·
  go_wp2
  go_ret
  refine ⟨ret_bool ?_,rfl⟩
  rw [Bool.eq_iff_iff]
  simp
  omega
theorem digit_any (r : Int) (w : World) :
  Calls Tryz.prog 127 #[.int .i32 r] w fun e w' => e = .returned (.bool (Rn.digit r)) ∧ w' = w := by
 go_enter Tryz.func127,Tryz.ntmps127
 go_wp2_with fail
 refine (sign_within _ _ _ _).mono ?_
 rintro e _ ⟨rfl,rfl⟩
 go_wp2
 go_ret
 exact ⟨ret_bool (by simp [Rn.digit]),rfl⟩
theorem inner_any (r : Int) (w : World) :
  Calls Tryz.prog 104 #[.int .i32 r] w fun e w' => e = .returned (.bool (Rn.inner r)) ∧ w' = w := by
 go_enter Tryz.func104,Tryz.ntmps104
 go_wp2_with fail
 refine (digit_any _ _).mono ?_
 rintro e _ ⟨rfl,rfl⟩
 cases hd : Rn.digit r
 ·
  by_cases h1 : r = 45
  ·
   subst h1
   go_wp2
   go_ret
   exact ⟨rfl,rfl⟩
  ·
   by_cases h2 : r = 95
   ·
    subst h2
    go_wp2
    go_ret
    exact ⟨rfl,rfl⟩
   ·
    go_wp2
    go_ret
    refine ⟨ret_bool ?_,rfl⟩
    rw [Bool.eq_iff_iff]
    simp [Rn.inner,hd,h1,h2]
 ·
  go_wp2
  go_ret
  exact ⟨ret_bool (by simp [Rn.inner,hd]),rfl⟩
theorem letter_any (r : Int) (w : World) :
  Calls Tryz.prog 103 #[.int .i32 r] w fun e w' => e = .returned (.bool (Rn.letter r)) ∧ w' = w := by
 go_enter Tryz.func103,Tryz.ntmps103
 go_wp2_with fail
 refine (sign_within _ _ _ _).mono ?_
 rintro e _ ⟨rfl,rfl⟩
 by_cases h1 : 97 ≤ r ∧ r ≤ 122
 ·
  rw [show decide (97 ≤ r ∧ r ≤ 122) = true from decide_eq_true h1]
  go_wp2
  go_ret
  exact ⟨ret_bool (by simp [Rn.letter,h1]),rfl⟩
 ·
  rw [show decide (97 ≤ r ∧ r ≤ 122) = false from decide_eq_false h1]
  go_wp2_with fail
  refine (sign_within _ _ _ _).mono ?_
  rintro e _ ⟨rfl,rfl⟩
  by_cases h2 : 65 ≤ r ∧ r ≤ 90
  ·
   rw [show decide (65 ≤ r ∧ r ≤ 90) = true from decide_eq_true h2]
   go_wp2
   go_ret
   exact ⟨ret_bool (by simp [Rn.letter,h2]),rfl⟩
  ·
   rw [show decide (65 ≤ r ∧ r ≤ 90) = false from decide_eq_false h2]
   go_wp2_with fail
   refine (sign_within _ _ _ _).mono ?_
   rintro e _ ⟨rfl,rfl⟩
   by_cases h3 : 192 ≤ r ∧ r ≤ 591
   ·
    rw [show decide (192 ≤ r ∧ r ≤ 591) = true from decide_eq_true h3]
    by_cases h4 : r = 215
    ·
     subst h4
     go_wp2
     go_ret
     exact ⟨rfl,rfl⟩
    ·
     go_wp2
     go_ret
     refine ⟨ret_bool ?_,rfl⟩
     rw [Bool.eq_iff_iff]
     simp [Rn.letter]
     omega
   ·
    rw [show decide (192 ≤ r ∧ r ≤ 591) = false from decide_eq_false h3]
    go_wp2
    go_ret
    refine ⟨ret_bool ?_,rfl⟩
    symm
    simp only [Rn.letter,Bool.or_eq_false_iff,decide_eq_false_iff_not]
    omega
set_option maxHeartbeats 1000000 in
theorem name_any (s : ByteArray) (w : World) (hs : s.size ≤ 140737488355328) :
  Calls Tryz.prog 73 #[.string s] w fun e w' => e = .returned (.bool (Rn.name (txt s))) ∧ Below w.heap.size w w' := by
 by_cases hn : s.toList = []
 ·
  have HN : Hid (Rn.name (txt s) = false) := name_long s (.inl hn)
  go_enter Tryz.func73,Tryz.ntmps73
  go_wp2
  go_ret
  exact ⟨ret_bool HN.out.symm,Below.refl _ _⟩
 have hn2 : s.toList.isEmpty = false := by cases e : s.toList with | nil => exact absurd e hn | cons _ _ => rfl
 by_cases h24 : 24 < s.size
 ·
  have HN : Hid (Rn.name (txt s) = false) := name_long s (.inr h24)
  go_enter Tryz.func73,Tryz.ntmps73
  go_wp2
  go_ret
  exact ⟨ret_bool HN.out.symm,Below.refl _ _⟩
 have HN : Hid (Rn.name (txt s) = Rn.nameOk true (Rn.runes (txt s))) := name_short s hn (by omega)
 go_enter Tryz.func73,Tryz.ntmps73
 go_wp2
 clear hn hn2
 go_loopw [3,4] (fun _ _ w' => ∃ (pos : Nat),w' = w.iter s pos ∧ Hid (Rn.nameOk (decide (pos = 0)) (Rn.runes ((txt s).drop pos)) = Rn.nameOk true (Rn.runes (txt s))) ∧ pos ≤ s.size) (fun _ _ w' => s.size - w'.iterPos w.heap.size)
 case atStart => exact ⟨0,rfl,by show _ = _; simp,by omega⟩
 case round =>
  obtain ⟨pos,rfl,HC,hb⟩ := hrel
  by_cases hp : pos < s.size
  ·
   have hnx : ∀ ty,(Instr.next (.pointer (some ⟨w.heap.size,0,none⟩)) true ty).run Tryz.prog (w.iter s pos) = _ := fun ty => run_next_any w s pos ty hp
   have hwd := dec_pos s pos
   have hle := dec_le s pos hp
   have HS : Hid (Rn.nameOk (decide (pos = 0)) (Rn.runes ((txt s).drop pos)) = ((Rn.letter ((Utf8.decode s pos).1 : Int) || (!decide (pos = 0) && Rn.inner ((Utf8.decode s pos).1 : Int))) && Rn.nameOk (decide (pos + (Utf8.decode s pos).2 = 0)) (Rn.runes ((txt s).drop (pos + (Utf8.decode s pos).2))))) := by
    show _ = _
    rw [runes_at s pos hp,Rn.nameOk,show decide (pos + (Utf8.decode s pos).2 = 0) = false from decide_eq_false (by omega)]
   go_wp2_with fail
   refine (letter_any _ _).mono ?_
   rintro e _ ⟨rfl,rfl⟩
   cases hL : Rn.letter ((Utf8.decode s pos).1 : Int)
   ·
    by_cases h0 : pos = 0
    ·
     go_wp2
     go_ret
     refine ⟨ret_bool ?_,below_iter w s _⟩
     rw [HN.out,← HC.out,HS.out,hL]
     simp [h0]
    ·
     go_wp2_with fail
     refine (inner_any _ _).mono ?_
     rintro e _ ⟨rfl,rfl⟩
     cases hI : Rn.inner ((Utf8.decode s pos).1 : Int)
     ·
      go_wp2
      go_ret
      refine ⟨ret_bool ?_,below_iter w s _⟩
      rw [HN.out,← HC.out,HS.out,hL,hI]
      simp
     ·
      go_wp2
      go_roundw
      case rel =>
       refine ⟨pos + (Utf8.decode s pos).2,rfl,?_,by omega⟩
       show _ = _
       rw [← HC.out,HS.out,hL,hI]
       simp [h0]
      case measure =>
       simp
       omega
   ·
    go_wp2
    go_roundw
    case rel =>
     refine ⟨pos + (Utf8.decode s pos).2,rfl,?_,by omega⟩
     show _ = _
     rw [← HC.out,HS.out,hL]
     simp
    case measure =>
     simp
     omega
  ·
   have hnx : ∀ ty,(Instr.next (.pointer (some ⟨w.heap.size,0,none⟩)) true ty).run Tryz.prog (w.iter s pos) = _ := fun ty => run_next_end w s pos ty hp
   go_wp2
   go_ret
   refine ⟨ret_bool ?_,below_iter w s pos⟩
   rw [HN.out,← HC.out,runes_end s pos hp]
   rfl
theorem name_gen (s : ByteArray) (w0 w : World) (hb : Below w0.heap.size w0 w) (hs : s.size ≤ 140737488355328) :
  Calls Tryz.prog 73 #[.string s] w fun e w' => e = .returned (.bool (Rn.name (txt s))) ∧ Below w0.heap.size w0 w' :=
 (name_any s w hs).mono fun _ _ ⟨h1,h2⟩ => ⟨h1,hb.trans (h2.mono hb.size)⟩
end Go.Proofs.YtjpfpojbalepeabGreat
namespace Go.Proofs.YtjpfpojbalepeabGreat
open Go.RowKit
theorem right_any (bp : Int) (w : World) (hb : Fit bp) :
  Calls Tryz.prog 107 #[.int .i64 bp] w fun e w' => e = .returned (.bool (decide (Sh.Right bp))) ∧ w' = w := by
 obtain ⟨hb0,hb1⟩ := hb
 go_enter Tryz.func107,Tryz.ntmps107
 by_cases h : Sh.Right bp
 ·
  rw [decide_eq_true h]
  obtain ⟨h0,h1⟩ := h
  go_wp2
  go_ret
  exact ⟨rfl,rfl⟩
 ·
  rw [decide_eq_false h]
  by_cases h0 : 0 ≤ bp
  ·
   have h1 : ¬ bp ≤ 100000 := fun h1 => h ⟨h0,h1⟩
   clear h
   go_wp2
   go_ret
   exact ⟨rfl,rfl⟩
  ·
   clear h
   go_wp2
   go_ret
   exact ⟨rfl,rfl⟩
def told (s : Nat) : Int × Int := if s ≤ 9223372036854775807 then ((s : Int),0) else (0,7)
theorem told_fit {s : Nat} (h : s ≤ 9223372036854775807) : told s = ((s : Int),0) := if_pos h
theorem told_not {s : Nat} (h : ¬ s ≤ 9223372036854775807) : told s = (0,7) := if_neg h
set_option maxHeartbeats 1000000 in
theorem parts_any (u bp all : Nat) (w0 w : World) (hw : Below w0.heap.size w0 w) (hu : u ≤ 9223372036854775808) (hb : bp ≤ 100000) (ha0 : 10000 ≤ all) (ha1 : all ≤ 110000) :
  Calls Tryz.prog 129 #[.int .u64 u,.int .u64 bp,.int .u64 all] w fun e w' => e = both (told (Sh.sh u bp all)).1 (told (Sh.sh u bp all)).2 ∧ Below w0.heap.size w0 w' := by
 have hs := Sh.sh_split u bp all (by omega)
 have hl := Sh.last_le (u % all) bp all (Nat.mod_lt _ (by omega))
 have hq : (u : Int) / (all : Int) = ((u / all : Nat) : Int) := by omega
 have hr : (u : Int) % (all : Int) = ((u % all : Nat) : Int) := by omega
 have hr1 : u % all < all := Nat.mod_lt _ (by omega)
 have hm : (u % all) * bp ≤ 110000 * 100000 := Nat.mul_le_mul (by omega) hb
 have hq1 : u / all ≤ 922337203685477 := by
  rw [Nat.div_le_iff_le_mul_add_pred (by omega)]
  have : 10000 * 922337203685477 ≤ all * 922337203685477 := Nat.mul_le_mul_right _ ha0
  omega
 have hz : ((all : Int) == 0) = false := beq_eq_false_iff_ne.2 (by omega)
 have hz2 : ((2 * all : Int) == 0) = false := beq_eq_false_iff_ne.2 (by omega)
 generalize u / all = q at hs hq hq1
 generalize u % all = r at hs hl hr hr1 hm
 have hlast : (2 * (r : Int) * (bp : Int) + all) / (2 * (all : Int)) = (((2 * r * bp + all) / (2 * all) : Nat) : Int) := by push_cast; rfl
 generalize (2 * r * bp + all) / (2 * all) = l at hs hl hlast
 have hm2 : 2 * (r : Int) * (bp : Int) ≤ 22000000000 := by
  have h : ((r * bp : Nat) : Int) = (r : Int) * (bp : Int) := Int.natCast_mul _ _
  rw [Int.mul_assoc]
  omega
 have hm0 : 0 ≤ 2 * (r : Int) * (bp : Int) := Int.mul_nonneg (by omega) (by omega)
 have hp : ((q * bp : Nat) : Int) = (q : Int) * (bp : Int) := Int.natCast_mul _ _
 have HW := Lib.hid hw
 clear hm hw
 rw [hs]
 clear hs
 by_cases hf : q * bp + l ≤ 9223372036854775807
 ·
  rw [told_fit hf]
  have hp0 : 0 ≤ (q : Int) * (bp : Int) := by omega
  have hp1 : (q : Int) * (bp : Int) ≤ 9223372036854775807 - l := by omega
  have HE : Hid ((q : Int) * (bp : Int) + l = ((q * bp + l : Nat) : Int)) := Lib.hid (by omega)
  have hc : 0 < bp → ¬ (9223372036854775807 - (l : Int)) / (bp : Int) < (q : Int) := by
   intro h0
   rw [Int.not_lt,Int.le_ediv_iff_mul_le (by omega)]
   exact hp1
  clear hf hp
  by_cases h0 : 0 < bp
  ·
   have hc1 := hc h0
   clear hc
   go_enter Tryz.func129,Tryz.ntmps129
   go_wp2
   go_quiet (fail)
   go_wp2
   go_ret2
   exact ⟨both_eq HE.out rfl,below_drewN HW.out _⟩
  ·
   clear hc
   go_enter Tryz.func129,Tryz.ntmps129
   go_wp2
   go_quiet (fail)
   go_wp2
   go_ret2
   exact ⟨both_eq HE.out rfl,below_drewN HW.out _⟩
 ·
  rw [told_not hf]
  have h0 : 0 < bp := by
   refine Nat.pos_of_ne_zero fun h => ?_
   subst h
   omega
  have hc : (9223372036854775807 - (l : Int)) / (bp : Int) < (q : Int) := by
   rw [Int.ediv_lt_iff_lt_mul (by omega)]
   omega
  clear hf hp
  go_enter Tryz.func129,Tryz.ntmps129
  go_wp2
  go_quiet (fail)
  go_wp2
  go_ret2
  exact ⟨rfl,below_drewN HW.out _⟩
theorem told_pos (u bp all : Nat) : told (Sh.sh u bp all) = (Sh.val (u : Int) bp all,Sh.why (u : Int) bp all) := by
 unfold told Sh.val Sh.why Sh.side
 rw [Int.natAbs_natCast]
 split
 · rw [if_neg (by omega)]
 · rfl
theorem told_neg (u bp all : Nat) (hu : 0 < u) : (-(told (Sh.sh u bp all)).1,(told (Sh.sh u bp all)).2) = (Sh.val (-(u : Int)) bp all,Sh.why (-(u : Int)) bp all) := by
 unfold told Sh.val Sh.why Sh.side
 rw [Int.natAbs_neg,Int.natAbs_natCast]
 split
 · rw [if_pos (by omega)]
 · rfl
theorem told_fst (s : Nat) : 0 ≤ (told s).1 ∧ (told s).1 ≤ 9223372036854775807 := by
 unfold told
 split
 · exact ⟨by simp,by simp; omega⟩
 · exact ⟨by simp,by simp⟩
theorem wrap_turn (u : Nat) (h : u ≤ 9223372036854775808) : IntKind.u64.wrap (-IntKind.u64.wrap (-(u : Int))) = u := by
 rw [IntKind.wrap_u64,IntKind.wrap_u64]
 omega
set_option maxHeartbeats 1000000 in
theorem share_any (n : Int) (bp all : Nat) (w0 w : World) (hw : Below w0.heap.size w0 w) (hn : Fit n) (hb : bp ≤ 100000) (ha0 : 10000 ≤ all) (ha1 : all ≤ 110000) :
  Calls Tryz.prog 108 #[.int .i64 n,.int .u64 bp,.int .u64 all] w fun e w' => e = both (Sh.val n bp all) (Sh.why n bp all) ∧ Below w0.heap.size w0 w' := by
 have HW := Lib.hid hw
 clear hw
 obtain ⟨hn0,hn1⟩ := hn
 by_cases h : 0 ≤ n
 ·
  obtain ⟨u,rfl⟩ : ∃ u : Nat,n = u := ⟨n.toNat,by omega⟩
  have HT := Lib.hid (told_pos u bp all)
  go_enter Tryz.func108,Tryz.ntmps108
  go_wp2_with fail
  refine (parts_any u bp all w0 _ HW.out (by omega) hb ha0 ha1).mono ?_
  rintro e w1 ⟨rfl,b1⟩
  have HB1 := Lib.hid b1
  clear b1
  rw [HT.out]
  unfold both
  go_wp2_with fail
  go_ret2
  exact ⟨rfl,HB1.out⟩
 ·
  obtain ⟨u,rfl⟩ : ∃ u : Nat,n = -(u : Int) := ⟨n.natAbs,by omega⟩
  have hu : 0 < u := by omega
  have HT := Lib.hid (told_neg u bp all hu)
  obtain ⟨t0,t1⟩ := told_fst (Sh.sh u bp all)
  go_enter Tryz.func108,Tryz.ntmps108
  go_wp2_with fail
  rw [wrap_turn u (by omega)]
  refine (parts_any u bp all w0 _ HW.out (by omega) hb ha0 ha1).mono ?_
  rintro e w1 ⟨rfl,b1⟩
  have HB1 := Lib.hid b1
  clear b1
  obtain ⟨⟨p1,p2⟩,hp⟩ : ∃ p,told (Sh.sh u bp all) = p := ⟨_,rfl⟩
  have HP := Lib.hid (hp ▸ HT.out)
  rw [hp] at t0 t1 ⊢
  clear HT hp
  unfold both
  go_wp2_with fail
  go_ret2
  exact ⟨both_eq (congrArg Prod.fst HP.out) (congrArg Prod.snd HP.out),HB1.out⟩
theorem right_if {bp : Int} (h : Sh.Right bp) (n : Int) : both (Sh.taxV n bp) (Sh.taxE n bp) = both (Sh.val n bp.toNat 10000) (Sh.why n bp.toNat 10000) ∧ both (Sh.inV n bp) (Sh.inE n bp) = both (Sh.val n bp.toNat (10000 + bp.toNat)) (Sh.why n bp.toNat (10000 + bp.toNat)) := by
 unfold Sh.taxV Sh.taxE Sh.inV Sh.inE
 rw [if_pos h,if_pos h,if_pos h,if_pos h]
 exact ⟨rfl,rfl⟩
theorem right_not {bp : Int} (h : ¬ Sh.Right bp) (n : Int) : both (Sh.taxV n bp) (Sh.taxE n bp) = both 0 1 ∧ both (Sh.inV n bp) (Sh.inE n bp) = both 0 1 := by
 unfold Sh.taxV Sh.taxE Sh.inV Sh.inE
 rw [if_neg h,if_neg h,if_neg h,if_neg h]
 exact ⟨rfl,rfl⟩
set_option maxHeartbeats 1000000 in
theorem tax_any (n bp : Int) (w0 w : World) (hw : Below w0.heap.size w0 w) (hn : Fit n) (hb : Fit bp) :
  Calls Tryz.prog 79 #[.int .i64 n,.int .i64 bp] w fun e w' => e = both (Sh.taxV n bp) (Sh.taxE n bp) ∧ Below w0.heap.size w0 w' := by
 have HW := Lib.hid hw
 have HN := Lib.hid hn
 have HB := Lib.hid hb
 clear hw hn hb
 by_cases h : Sh.Right bp
 ·
  rw [(right_if h n).1]
  obtain ⟨u,rfl⟩ : ∃ u : Nat,bp = u := ⟨bp.toNat,by unfold Sh.Right at h; omega⟩
  have hu : u ≤ 100000 := by unfold Sh.Right at h; omega
  rw [Int.toNat_natCast]
  go_enter Tryz.func79,Tryz.ntmps79
  go_wp2_with fail
  refine (right_any u _ HB.out).mono ?_
  rintro e w1 ⟨rfl,hw1⟩
  subst hw1
  rw [decide_eq_true h]
  clear h
  go_wp2_with fail
  refine (share_any n u 10000 w0 _ HW.out HN.out hu (by omega) (by omega)).mono ?_
  rintro e w1 ⟨rfl,b1⟩
  have HB1 := Lib.hid b1
  clear b1
  unfold both
  go_wp2_with fail
  go_ret2
  exact ⟨rfl,HB1.out⟩
 ·
  rw [(right_not h n).1]
  go_enter Tryz.func79,Tryz.ntmps79
  go_wp2_with fail
  refine (right_any bp _ HB.out).mono ?_
  rintro e w1 ⟨rfl,hw1⟩
  subst hw1
  rw [decide_eq_false h]
  clear h
  go_wp2_with fail
  go_ret2
  exact ⟨rfl,HW.out⟩
end Go.Proofs.YtjpfpojbalepeabGreat
namespace Go.Proofs.YtjpfpojbalepeabGreat
open Go.RowKit
open Mem
open Go.Sort (grow)
def Bl.hiW (s : Int) : Int := (s / 18446744073709551616) % 18446744073709551616
def Bl.loW (s : Int) : Int := s % 18446744073709551616
theorem Bl.w_bd (s : Int) : 0 ≤ Bl.hiW s ∧ Bl.hiW s < 18446744073709551616 ∧ 0 ≤ Bl.loW s ∧ Bl.loW s < 18446744073709551616 := by
 unfold Bl.hiW Bl.loW
 omega
theorem Bl.w_neg (s n : Int) : (Bl.loW s + (n + 18446744073709551616)) % 18446744073709551616 = Bl.loW (s + n) ∧ (Bl.hiW s + 18446744073709551615 + (Bl.loW s + (n + 18446744073709551616)) / 18446744073709551616) % 18446744073709551616 = Bl.hiW (s + n) := by
 unfold Bl.hiW Bl.loW
 omega
theorem Bl.w_pos (s n : Int) : (Bl.loW s + n) % 18446744073709551616 = Bl.loW (s + n) ∧ (Bl.hiW s + 0 + (Bl.loW s + n) / 18446744073709551616) % 18446744073709551616 = Bl.hiW (s + n) := by
 unfold Bl.hiW Bl.loW
 omega
theorem Bl.w_inj {a b : Int} (ha : -170141183460469231731687303715884105728 ≤ a ∧ a < 170141183460469231731687303715884105728) (hb : -170141183460469231731687303715884105728 ≤ b ∧ b < 170141183460469231731687303715884105728) : (Bl.hiW a = Bl.hiW b ∧ Bl.loW a = Bl.loW b) ↔ a = b := by
 constructor
 ·
  rintro ⟨h1,h2⟩
  unfold Bl.hiW at h1
  unfold Bl.loW at h2
  omega
 ·
  rintro rfl
  exact ⟨rfl,rfl⟩
set_option maxHeartbeats 4000000 in
theorem bil_plus (s n : Int) (w0 w : World) (hw : Below w0.heap.size w0 w) (hn : Fit n) :
  Calls Tryz.prog 80 #[.agg #[.int .u64 (Bl.hiW s),.int .u64 (Bl.loW s)],.int .i64 n] w fun e w' => e = .returned (.agg #[.int .u64 (Bl.hiW (s + n)),.int .u64 (Bl.loW (s + n))]) ∧ Below w0.heap.size w0 w' := by
 have HW := Lib.hid hw
 have HF := Lib.hid hn
 obtain ⟨b0,b1,b2,b3⟩ := Bl.w_bd s
 obtain ⟨U,hU,hB,k0,k1,hs⟩ := Bl.al2 w (.cells #[.int .u64 (Bl.hiW s),.int .u64 (Bl.loW s)] 140) (.cells #[.int .u64 0,.int .u64 0] 140)
 have c0 : U.cell? ⟨w.heap.size,0,none⟩ = some (.int .u64 (Bl.hiW s)) := by rw [cell_of_row U _ 0 _ _ _ k0]; rfl
 have c1 : U.cell? ⟨w.heap.size,1,none⟩ = some (.int .u64 (Bl.loW s)) := by rw [cell_of_row U _ 1 _ _ _ k0]; rfl
 have d0 : U.cell? ⟨w.heap.size + 1,0,none⟩ = some (.int .u64 0) := by rw [cell_of_row U _ 0 _ _ _ k1]; rfl
 have d1 : U.cell? ⟨w.heap.size + 1,1,none⟩ = some (.int .u64 0) := by rw [cell_of_row U _ 1 _ _ _ k1]; rfl
 have z0 : U.frozen? ⟨w.heap.size + 1,0,none⟩ = false := frozen_of_row U _ 0 _ _ k1
 have z1 : U.frozen? ⟨w.heap.size + 1,1,none⟩ = false := frozen_of_row U _ 1 _ _ k1
 have HB := Lib.hid hB
 have HE1 := Lib.hid (Bl.w_neg s n)
 have HE2 := Lib.hid (Bl.w_pos s n)
 obtain ⟨hi,hhi⟩ : ∃ hi,Bl.hiW s = hi := ⟨_,rfl⟩
 obtain ⟨lo,hlo⟩ : ∃ lo,Bl.loW s = lo := ⟨_,rfl⟩
 obtain ⟨hi',hhi'⟩ : ∃ x,Bl.hiW (s + n) = x := ⟨_,rfl⟩
 obtain ⟨lo',hlo'⟩ : ∃ x,Bl.loW (s + n) = x := ⟨_,rfl⟩
 rw [hhi,hlo,hhi',hlo'] at HE1 HE2
 rw [hhi] at b0 b1 hU c0 ⊢
 rw [hlo] at b2 b3 hU c1 ⊢
 rw [hhi',hlo']
 clear hw hn k0 k1 hs hB hhi hlo hhi' hlo'
 by_cases hneg : n < 0
 ·
  have e1 : IntKind.u64.wrap n = n + 18446744073709551616 := by
   rw [IntKind.wrap_u64]
   have := HF.out.1
   omega
  have e2 : n / 9223372036854775808 = -1 := by
   have := HF.out.1
   omega
  have e3 : IntKind.u64.wrap (-1) = 18446744073709551615 := by rw [IntKind.wrap_u64]; rfl
  have add1 := add_two lo (n + 18446744073709551616) 0 b2 (by have := HF.out.1; omega) (by omega) (by omega)
  have add2 := add_two hi 18446744073709551615 ((lo + (n + 18446744073709551616)) / 18446744073709551616) b0 (by omega) (by have := HF.out.1; omega) (by omega)
  rw [Int.add_zero] at add1
  rw [HE1.out.1] at add1
  rw [HE1.out.2] at add2
  obtain ⟨c,hc⟩ : ∃ c,(lo + (n + 18446744073709551616)) / 18446744073709551616 = c := ⟨_,rfl⟩
  rw [hc] at add1 add2
  clear hc HE1 HE2 hneg
  go_enter Tryz.func80,Tryz.ntmps80
  go_wp2_with (simp only [e3,add1,add2])
  exact bodyPost_ret (v := .agg #[.int .u64 hi',.int .u64 lo']) (by simp [results,Tryz.results80,go_sem,d0,d1]) rfl ⟨rfl,bset (bset (bchain HW.out HB.out) (by have := HW.out.size; omega) _ _) (by have := HW.out.size; omega) _ _⟩
 ·
  have e1 : IntKind.u64.wrap n = n := by
   rw [IntKind.wrap_u64]
   have := HF.out.2
   omega
  have e2 : n / 9223372036854775808 = 0 := by
   have := HF.out.2
   omega
  have add1 := add_two lo n 0 b2 (by omega) (by omega) (by omega)
  have add2 := add_two hi 0 ((lo + n) / 18446744073709551616) b0 (by omega) (by omega) (by have := HF.out.2; omega)
  rw [Int.add_zero] at add1
  rw [HE2.out.1] at add1
  rw [HE2.out.2] at add2
  obtain ⟨c,hc⟩ : ∃ c,(lo + n) / 18446744073709551616 = c := ⟨_,rfl⟩
  rw [hc] at add1 add2
  clear hc HE1 HE2 hneg
  go_enter Tryz.func80,Tryz.ntmps80
  go_wp2_with (simp only [add1,add2])
  exact bodyPost_ret (v := .agg #[.int .u64 hi',.int .u64 lo']) (by simp [results,Tryz.results80,go_sem,d0,d1]) rfl ⟨rfl,bset (bset (bchain HW.out HB.out) (by have := HW.out.size; omega) _ _) (by have := HW.out.size; omega) _ _⟩
end Go.Proofs.YtjpfpojbalepeabGreat
namespace Go.Proofs.YtjpfpojbalepeabGreat
open Go.RowKit
open Mem
open Go.Sort (grow)
structure Bl.PartOk (l : List Pt.T) (i : Nat) (h : i < l.length) : Prop where
 a : Rn.name (txt l[i].cat) = true
 b : ∀ q : 0 < i,Iv.lt (l[i - 1]'(by omega)).cat l[i].cat = true
 c : Sh.taxE l[i].net l[i].bp = 0
 d : Sh.taxV l[i].net l[i].bp = l[i].tax
def Bl.PartR (l : List Pt.T) : Prop := l ≠ [] ∧ l.length ≤ 12 ∧ ∀ i (h : i < l.length),Rn.name (txt l[i].cat) = true ∧ (∀ q : 0 < i,Iv.lt (l[i - 1]'(by omega)).cat l[i].cat = true) ∧ Sh.taxE l[i].net l[i].bp = 0 ∧ Sh.taxV l[i].net l[i].bp = l[i].tax
def Bl.PartK (l : List Pt.T) (k : Nat) : Prop := ∀ i (h : i < l.length),i < k → Rn.name (txt l[i].cat) = true ∧ (∀ q : 0 < i,Iv.lt (l[i - 1]'(by omega)).cat l[i].cat = true) ∧ Sh.taxE l[i].net l[i].bp = 0 ∧ Sh.taxV l[i].net l[i].bp = l[i].tax
theorem Bl.part_step {l : List Pt.T} {k : Nat} (h : Bl.PartK l k) (hk : k < l.length) (p : Rn.name (txt l[k].cat) = true ∧ (∀ q : 0 < k,Iv.lt (l[k - 1]'(by omega)).cat l[k].cat = true)) (t : Sh.taxE l[k].net l[k].bp = 0 ∧ Sh.taxV l[k].net l[k].bp = l[k].tax) : Bl.PartK l (k + 1) := by
 intro i hi hik
 by_cases e : i = k
 ·
  subst e
  exact ⟨p.1,p.2,t.1,t.2⟩
 · exact h i hi (by omega)
theorem Bl.sorted_adj {l : List Pt.T} : (∀ i (h : i < l.length),∀ q : 0 < i,Iv.lt (l[i - 1]'(by omega)).cat l[i].cat = true) ↔ Iv.Sorted l := by
 constructor
 ·
  intro h
  have key : ∀ d i (hi : i + d + 1 < l.length),Iv.lt (l[i]'(by omega)).cat l[i + d + 1].cat = true := by
   intro d
   induction d with
   | zero =>
    intro i hi
    exact h (i + 0 + 1) hi (by omega)
   | succ d ih =>
    intro i hi
    exact Iv.lt_trans (ih i (by omega)) (h (i + (d + 1) + 1) hi (by omega))
  refine List.pairwise_iff_getElem.2 fun i j hi hj hij => ?_
  have := key (j - i - 1) i (by omega)
  have e : i + (j - i - 1) + 1 = j := by omega
  simp only [e] at this
  exact this
 ·
  intro h i hi q
  exact List.pairwise_iff_getElem.1 h (i - 1) i (by omega) hi (by omega)
theorem Bl.part_tot {t : Iv.Tot} : Bl.TotR t ↔ Bl.PartR t.parts ∧ t.net = Bl.netsP t.parts ∧ t.tax = Bl.taxesP t.parts ∧ t.gross = t.net + t.tax ∧ Mn.Fit t.net ∧ Mn.Fit t.tax ∧ Mn.Fit t.gross := by
 constructor
 ·
  intro h
  refine ⟨⟨h.some,h.few,fun i hi => ?_⟩,h.net,h.tax,h.gross,h.fit.1,h.fit.2.1,h.fit.2.2⟩
  have he := h.each _ (List.getElem_mem hi)
  exact ⟨he.1,Bl.sorted_adj.2 h.so i hi,he.2.2.2.1,he.2.2.2.2⟩
 ·
  rintro ⟨⟨h1,h2,h3⟩,h4,h5,h6,h7⟩
  refine ⟨h1,h2,fun p hp => ?_,Bl.sorted_adj.1 fun i hi => (h3 i hi).2.1,h4,h5,h6,h7⟩
  obtain ⟨i,hi,rfl⟩ := List.getElem_of_mem hp
  have he := h3 i hi
  have hr : Sh.Right t.parts[i].bp := by
   have := he.2.2.1
   unfold Sh.taxE at this
   split at this
   · assumption
   · omega
  exact ⟨he.1,hr.1,hr.2,he.2.2.1,he.2.2.2⟩
def AnsU (f : FuncId) (args : Array Value) (u : World) (i : Nat) (os : Array Obj) (v : Value) : Prop :=
 Calls Tryz.prog f args (grow (redrawn u i) os) fun e w'' => e = .returned v ∧ ∃ p : Regrown,w'' = grow (redrawn u p.d) p.os
theorem name_agU (s : ByteArray) (hs : s.size ≤ 140737488355328) (u : World) (i : Nat) (os : Array Obj) : AnsU 73 #[.string s] u i os (.bool (Rn.name (txt s))) :=
 Calls.regrown_of (name_gen s _ _ (Below.refl _ _) hs)
set_option maxHeartbeats 4000000 in
theorem bil_parted (ls : List Pt.T) (ao : Option Addr) (n cap : Nat) (w0 w : World) (hw : Below w0.heap.size w0 w) (hL : Pt.Ls w ao n cap ls) :
  Calls Tryz.prog 53 #[.slice ao n cap] w (Bl.YesE w0 (Bl.PartR ls)) := by
 have HW := Lib.hid hw
 have HL := Lib.hid hL
 have HN := Lib.hid hL.len
 have hcap := hL.reach
 have hfit := hL.fits
 clear hL hw
 by_cases hn1 : n < 1
 ·
  have d1 : decide ((n : Int) < 1) = true := decide_eq_true (by omega)
  have HNo : Hid (¬ Bl.PartR ls) := Lib.hid fun z => z.1 (List.length_eq_zero_iff.1 (by have := HN.out; omega))
  clear hn1
  go_enter Tryz.func53,Tryz.ntmps53
  go_wp2
  go_ret
  exact ⟨.inr ⟨HNo.out,rfl⟩,HW.out⟩
 ·
  have d1 : decide ((n : Int) < 1) = false := decide_eq_false (by omega)
  by_cases hn2 : 12 < n
  ·
   have d2 : decide ((12 : Int) < n) = true := decide_eq_true (by omega)
   have HNo : Hid (¬ Bl.PartR ls) := Lib.hid fun z => by have := z.2.1; have := HN.out; omega
   go_enter Tryz.func53,Tryz.ntmps53
   go_wp2
   go_ret
   exact ⟨.inr ⟨HNo.out,rfl⟩,HW.out⟩
  ·
   have d2 : decide ((12 : Int) < n) = false := decide_eq_false (by omega)
   have HLe : Hid (0 < n ∧ n ≤ 12) := Lib.hid ⟨by omega,by omega⟩
   go_enter Tryz.func53,Tryz.ntmps53
   go_wp2
   go_loopw [3,4,5,6,17] (fun _ _ _ _ j wr => ∃ k : Nat,k ≤ n ∧ j = .int .i64 k ∧ Hid (Bl.PartK ls k) ∧ Hid (Below w.heap.size w wr)) (fun _ _ _ _ j _ => n - (intOf j).toNat)
   case atStart => exact ⟨0,by omega,rfl,Lib.hid (fun i _ h => absurd h (Nat.not_lt_zero _)),Lib.hid (Below.refl _ _)⟩
   case round =>
    obtain ⟨k,hk,rfl,HT,HB⟩ := hrel
    by_cases hlt : k < n
    ·
     obtain ⟨b,off,rfl⟩ := HL.out.at (by omega)
     have hkl : k < ls.length := HN.out ▸ hlt
     obtain ⟨r,hr⟩ : ∃ r,ls[k] = r := ⟨_,rfl⟩
     have HRr := Lib.hid hr
     have hrow := (HL.out.row k hkl).below HB.out
     have HSh := Lib.hid (HL.out.short _ (List.getElem_mem hkl))
     rw [hr] at hrow HSh
     clear hr
     obtain ⟨g0,g1,g2,g3⟩ := hrow
     obtain ⟨W,hW,hbW,hA⟩ := Pt.boxed1 wr r
     have HBW := Lib.hid (bchain HB.out hbW)
     have HCW := Lib.hid hA
     clear hbW
     unfold Pt.C at hA
     obtain ⟨a0,a1,a2,a3⟩ := hA
     have k0 := cell_regrown a0
     have k1 := cell_regrown a1
     have k2 := cell_regrown a2
     have k3 := cell_regrown a3
     have c1 := fun i os => name_agU r.cat HSh.out.1 W i os
     cases he : Rn.name (txt r.cat)
     ·
      rw [he] at c1
      have HNo : Hid (¬ Bl.PartR ls) := Lib.hid fun z => by have := (z.2.2 _ hkl).1; rw [HRr.out,he] at this; cases this
      clear he
      go_wp2
      refine wp_region_quiet_below (by kernel_rfl) (by kernel_rfl) ?_
      repeat (first | go_big_quiet_step (first | (go_at_call 73; exact c1 _ _)) | quiet_step (first | (go_at_call 73; exact c1 _ _)))
      refine wpQuiet_nil ?_
      intro _ hw'
      obtain ⟨⟨dq,osq⟩,hw''⟩ := hw'
      subst hw''
      have HBv := Lib.hid (bchain HBW.out (below_regrown W dq osq))
      have HCv := Lib.hid (HCW.out.below (below_regrown W dq osq))
      go_wp2
      go_ret
      exact ⟨.inr ⟨HNo.out,rfl⟩,bchain HW.out HBv.out⟩
     ·
      rw [he] at c1
      have HNm := Lib.hid he
      clear he
      by_cases hk0 : k = 0
      ·
       subst hk0
       simp only [Nat.zero_mul,Nat.add_zero] at g0 g1 g2 g3
       have HP : Hid (Rn.name (txt ls[0].cat) = true ∧ (∀ q : 0 < 0,Iv.lt (ls[0 - 1]'(by omega)).cat ls[0].cat = true)) := Lib.hid ⟨by rw [HRr.out]; exact HNm.out,fun q => absurd q (Nat.lt_irrefl _)⟩
       go_wp2
       refine wp_region_quiet_below (by kernel_rfl) (by kernel_rfl) ?_
       repeat (first | go_big_quiet_step (first | (go_at_call 73; exact c1 _ _)) | quiet_step (first | (go_at_call 73; exact c1 _ _)))
       refine wpQuiet_nil ?_
       intro _ hw'
       obtain ⟨⟨dq,osq⟩,hw''⟩ := hw'
       subst hw''
       have HBv := Lib.hid (bchain HBW.out (below_regrown W dq osq))
       have HCv := Lib.hid (HCW.out.below (below_regrown W dq osq))
       clear a0 a1 a2 a3 k0 k1 k2 k3 g0 g1 g2 g3 c1
       have hCv := HCv.out
       unfold Pt.C at hCv
       obtain ⟨e0,e1,e2,e3⟩ := hCv
       generalize grow (redrawn W dq) osq = V at *
       go_wp2_with fail
       refine (tax_any r.net r.bp V V (Below.refl _ _) HSh.out.2.2.1 HSh.out.2.1).mono ?_
       rintro e w2 ⟨rfl,b2⟩
       have HB2 := Lib.hid (bchain HBv.out b2)
       have hC2 := HCv.out.below b2
       unfold Pt.C at hC2
       clear e0 e1 e2 e3 b2
       obtain ⟨e0,e1,e2,e3⟩ := hC2
       unfold both
       by_cases t0 : Sh.taxE r.net r.bp = 0
       ·
        rw [t0]
        by_cases t1 : Sh.taxV r.net r.bp = r.tax
        ·
         have q1 : (Sh.taxV r.net r.bp == r.tax) = true := beq_iff_eq.2 t1
         have HYes := Lib.hid (Bl.part_step HT.out hkl HP.out (by rw [HRr.out]; exact ⟨t0,t1⟩))
         obtain ⟨tv,htv⟩ : ∃ tv,Sh.taxV r.net r.bp = tv := ⟨_,rfl⟩
         rw [htv] at q1 ⊢
         clear htv t0 t1
         go_wp2
         go_roundw
         case rel => exact ⟨1,by omega,by go_num,HYes,HB2⟩
         case measure => simp [intOf]; omega
        ·
         have q1 : (Sh.taxV r.net r.bp == r.tax) = false := beq_eq_false_iff_ne.2 t1
         have HNo : Hid (¬ Bl.PartR ls) := Lib.hid fun z => t1 (by have := (z.2.2 _ hkl).2.2.2; rw [HRr.out] at this; exact this)
         obtain ⟨tv,htv⟩ : ∃ tv,Sh.taxV r.net r.bp = tv := ⟨_,rfl⟩
         rw [htv] at q1 ⊢
         clear htv t0 t1
         go_wp2
         go_ret
         exact ⟨.inr ⟨HNo.out,rfl⟩,bchain HW.out HB2.out⟩
       ·
        have q1 : (Sh.taxE r.net r.bp == 0) = false := beq_eq_false_iff_ne.2 t0
        have HNo : Hid (¬ Bl.PartR ls) := Lib.hid fun z => t0 (by have := (z.2.2 _ hkl).2.2.1; rw [HRr.out] at this; exact this)
        obtain ⟨te,hte⟩ : ∃ te,Sh.taxE r.net r.bp = te := ⟨_,rfl⟩
        rw [hte] at q1 ⊢
        obtain ⟨tv,htv⟩ : ∃ tv,Sh.taxV r.net r.bp = tv := ⟨_,rfl⟩
        rw [htv]
        clear htv hte t0
        go_wp2
        go_ret
        exact ⟨.inr ⟨HNo.out,rfl⟩,bchain HW.out HB2.out⟩
      ·
       obtain ⟨j,rfl⟩ : ∃ j,k = j + 1 := ⟨k - 1,by omega⟩
       have hjr : j < ls.length := by omega
       obtain ⟨q,hq⟩ : ∃ q,ls[j] = q := ⟨_,rfl⟩
       have hrow2 := (HL.out.row j hjr).below HBW.out
       rw [hq] at hrow2
       have HQ := Lib.hid hq
       obtain ⟨f0,f1,f2,f3⟩ := hrow2
       have m0 := cell_regrown f0
       have m1 := cell_regrown f1
       have m2 := cell_regrown f2
       have m3 := cell_regrown f3
       have hjs : ((j + 1 : Nat) : Int) - 1 = (j : Int) := by omega
       clear hq hk0
       cases hlt2 : Op.bytesLess q.cat.toList r.cat.toList
       ·
        have HNo : Hid (¬ Bl.PartR ls) := Lib.hid fun z => by
         have h := (z.2.2 _ hkl).2.1 (by omega)
         simp only [Nat.add_sub_cancel,HQ.out,HRr.out] at h
         unfold Iv.lt at h
         rw [hlt2] at h
         cases h
        go_wp2
        refine wp_region_quiet_below (by kernel_rfl) (by kernel_rfl) ?_
        repeat (first | go_big_quiet_step (first | (go_at_call 73; exact c1 _ _)) | quiet_step (first | (go_at_call 73; exact c1 _ _)))
        refine wpQuiet_nil ?_
        intro _ hw'
        obtain ⟨⟨dq,osq⟩,hw''⟩ := hw'
        subst hw''
        have HBv := Lib.hid (bchain HBW.out (below_regrown W dq osq))
        have HCv := Lib.hid (HCW.out.below (below_regrown W dq osq))
        go_wp2
        go_ret
        exact ⟨.inr ⟨HNo.out,rfl⟩,bchain HW.out HBv.out⟩
       ·
        have HP : Hid (Rn.name (txt ls[j + 1].cat) = true ∧ (∀ q : 0 < j + 1,Iv.lt (ls[j + 1 - 1]'(by omega)).cat ls[j + 1].cat = true)) := Lib.hid ⟨by rw [HRr.out]; exact HNm.out,fun _ => by
         simp only [Nat.add_sub_cancel,HQ.out,HRr.out]
         exact hlt2⟩
        go_wp2
        refine wp_region_quiet_below (by kernel_rfl) (by kernel_rfl) ?_
        repeat (first | go_big_quiet_step (first | (go_at_call 73; exact c1 _ _)) | quiet_step (first | (go_at_call 73; exact c1 _ _)))
        refine wpQuiet_nil ?_
        intro _ hw'
        obtain ⟨⟨dq,osq⟩,hw''⟩ := hw'
        subst hw''
        have HBv := Lib.hid (bchain HBW.out (below_regrown W dq osq))
        have HCv := Lib.hid (HCW.out.below (below_regrown W dq osq))
        clear a0 a1 a2 a3 k0 k1 k2 k3 g0 g1 g2 g3 c1
        have hCv := HCv.out
        unfold Pt.C at hCv
        obtain ⟨e0,e1,e2,e3⟩ := hCv
        generalize grow (redrawn W dq) osq = V at *
        go_wp2_with fail
        refine (tax_any r.net r.bp V V (Below.refl _ _) HSh.out.2.2.1 HSh.out.2.1).mono ?_
        rintro e w2 ⟨rfl,b2⟩
        have HB2 := Lib.hid (bchain HBv.out b2)
        have hC2 := HCv.out.below b2
        unfold Pt.C at hC2
        clear e0 e1 e2 e3 b2
        obtain ⟨e0,e1,e2,e3⟩ := hC2
        unfold both
        by_cases t0 : Sh.taxE r.net r.bp = 0
        ·
         rw [t0]
         by_cases t1 : Sh.taxV r.net r.bp = r.tax
         ·
          have q1 : (Sh.taxV r.net r.bp == r.tax) = true := beq_iff_eq.2 t1
          have HYes := Lib.hid (Bl.part_step HT.out hkl HP.out (by rw [HRr.out]; exact ⟨t0,t1⟩))
          obtain ⟨tv,htv⟩ : ∃ tv,Sh.taxV r.net r.bp = tv := ⟨_,rfl⟩
          rw [htv] at q1 ⊢
          clear htv t0 t1
          go_wp2
          go_roundw
          case rel => exact ⟨j + 1 + 1,by omega,by go_num,HYes,HB2⟩
          case measure => simp [intOf]; omega
         ·
          have q1 : (Sh.taxV r.net r.bp == r.tax) = false := beq_eq_false_iff_ne.2 t1
          have HNo : Hid (¬ Bl.PartR ls) := Lib.hid fun z => t1 (by have := (z.2.2 _ hkl).2.2.2; rw [HRr.out] at this; exact this)
          obtain ⟨tv,htv⟩ : ∃ tv,Sh.taxV r.net r.bp = tv := ⟨_,rfl⟩
          rw [htv] at q1 ⊢
          clear htv t0 t1
          go_wp2
          go_ret
          exact ⟨.inr ⟨HNo.out,rfl⟩,bchain HW.out HB2.out⟩
        ·
         have q1 : (Sh.taxE r.net r.bp == 0) = false := beq_eq_false_iff_ne.2 t0
         have HNo : Hid (¬ Bl.PartR ls) := Lib.hid fun z => t0 (by have := (z.2.2 _ hkl).2.2.1; rw [HRr.out] at this; exact this)
         obtain ⟨te,hte⟩ : ∃ te,Sh.taxE r.net r.bp = te := ⟨_,rfl⟩
         rw [hte] at q1 ⊢
         obtain ⟨tv,htv⟩ : ∃ tv,Sh.taxV r.net r.bp = tv := ⟨_,rfl⟩
         rw [htv]
         clear htv hte t0
         go_wp2
         go_ret
         exact ⟨.inr ⟨HNo.out,rfl⟩,bchain HW.out HB2.out⟩
    ·
     obtain rfl : k = n := by omega
     have HYes : Hid (Bl.PartR ls) := Lib.hid ⟨fun z => (by have h := HN.out; have h2 := HLe.out.1; rw [z] at h; have h3 : k = 0 := h; omega),by have := HN.out; have := HLe.out; omega,fun i hi => HT.out i hi (by have := HN.out; omega)⟩
     go_wp2
     go_ret
     exact ⟨.inl ⟨HYes.out,rfl⟩,bchain HW.out HB.out⟩
end Go.Proofs.YtjpfpojbalepeabGreat
namespace Go.Proofs.YtjpfpojbalepeabGreat
open Go.RowKit
open Mem
open Go.Sort (grow)
def Bl.Wk (u : World) (g : Nat) (s : Int) : Prop := u.heap[g]? = some (.cells #[.int .u64 (Bl.hiW s),.int .u64 (Bl.loW s)] 140 (0,0))
theorem Bl.Wk.lt {u : World} {g : Nat} {s : Int} (h : Bl.Wk u g s) : g < u.heap.size := by
 obtain ⟨hl,_⟩ := Array.getElem?_eq_some_iff.1 h
 exact hl
theorem Bl.Wk.below {u v : World} {g : Nat} {s : Int} (h : Bl.Wk u g s) (b : Below u.heap.size u v) : Bl.Wk v g s := (b.block g h.lt).trans h
theorem Bl.infoW : (Tryz.prog.info? 140).map (·.size) = some 2 := by kernel_rfl
theorem Bl.Wk.cells {u : World} {g : Nat} {s : Int} (h : Bl.Wk u g s) : u.cell? ⟨g,0,none⟩ = some (.int .u64 (Bl.hiW s)) ∧ u.cell? ⟨g,1,none⟩ = some (.int .u64 (Bl.loW s)) := by
 refine ⟨?_,?_⟩
 all_goals
  rw [cell_of_row u g _ _ _ _ h]
  rfl
def Bl.layW (w : World) (g : Nat) (s : Int) : World := w.setRow g #[.int .u64 (Bl.hiW s),.int .u64 (Bl.loW s)]
theorem Bl.Wk.lay {w : World} {g : Nat} {s0 : Int} (h : Bl.Wk w g s0) (s : Int) : Bl.Wk (Bl.layW w g s) g s := setRow_heap w g _ _ 140 _ h
theorem Bl.Wk.other {w : World} {g b : Nat} {s : Int} (hA : Bl.Wk w g s) (hne : g ≠ b) (vs : Array Value) : Bl.Wk (w.setRow b vs) g s := (setRow_other w b g vs hne).trans hA
section
variable {ops : Array Oper} {o : Oper} {a : Act} {w : World} {K : Act → World → Prop} {Q : Exit → Act → World → Prop} {E : Prop} {S : World → Prop} {t : Tmp} {g : Nat}
theorem Bl.y_wide {s : Int} (hgd : o.guard = none) (ho : o.op = .load 140 (.tmp t)) (hp : a.tmps.toList[t]? = some (.pointer (some ⟨g,0,none⟩))) (hS : ∀ u,S u → Bl.Wk u g s) : YieldsIf Tryz.prog ops S o (.agg #[.int .u64 (Bl.hiW s),.int .u64 (Bl.loW s)]) a := by
 refine .inl ⟨by simp [Region.wanted,hgd],fun u hu => ?_⟩
 have e := run_loadVar_row (P := Tryz.prog) u g 140 140 #[.int .u64 (Bl.hiW s),.int .u64 (Bl.loW s)] (0,0) _ (hS u hu) Tryz.underlying140 rfl (by rw [Bl.infoW]; rfl)
 simp only [execOp,ho,Ca.evT hp,Instr.loadAt,Instr.sureAddr,Sem.run_bind,Sem.run_pure,Result.andThen_ok,e]
theorem Bl.y_pnet (hgd : o.guard = none) (ho : o.op = .fieldAddr 101 (.tmp t) 2) (hp : a.tmps.toList[t]? = some (.pointer (some ⟨g,0,none⟩))) : YieldsIf Tryz.prog ops S o (.pointer (some ⟨g,2,none⟩)) a := by
 refine .inl ⟨by simp [Region.wanted,hgd],fun u _ => ?_⟩
 simp only [execOp,ho,Ca.evT hp]
 simp [go_sem]
theorem Bl.y_ptax (hgd : o.guard = none) (ho : o.op = .fieldAddr 101 (.tmp t) 3) (hp : a.tmps.toList[t]? = some (.pointer (some ⟨g,0,none⟩))) : YieldsIf Tryz.prog ops S o (.pointer (some ⟨g,3,none⟩)) a := by
 refine .inl ⟨by simp [Region.wanted,hgd],fun u _ => ?_⟩
 simp only [execOp,ho,Ca.evT hp]
 simp [go_sem]
theorem Bl.y_intT {k : Nat} {n : Int} (hgd : o.guard = none) (ho : o.op = .load 3 (.tmp t)) (hp : a.tmps.toList[t]? = some (.pointer (some ⟨g,k,none⟩))) (hS : ∀ u,S u → u.cell? ⟨g,k,none⟩ = some (.int .i64 n)) : YieldsIf Tryz.prog ops S o (.int .i64 n) a := by
 refine .inl ⟨by simp [Region.wanted,hgd],fun u hu => ?_⟩
 have h := hS u hu
 simp only [execOp,ho,Ca.evT hp]
 simp [go_sem,h]
theorem Bl.step_wide {x y : Tmp} {s0 s : Int} (hgd : o.guard = none) (ho : o.op = .store 140 (.tmp x) (.tmp y)) (hd : o.dst = none) (hx : a.tmps.toList[x]? = some (.pointer (some ⟨g,0,none⟩))) (hy : a.tmps.toList[y]? = some (.agg #[.int .u64 (Bl.hiW s),.int .u64 (Bl.loW s)])) (hA : Bl.Wk w g s0)
  (k : K a (Bl.layW w g s)) : if Region.wanted o (yielded ops a.tmps) = true then Oper.wp Tryz.prog o a w K Q else E := by
 have hw : Region.wanted o (yielded ops a.tmps) = true := by simp [Region.wanted,hgd]
 rw [if_pos hw]
 refine wp_store_row 140 (.tmp x) (.tmp y) ho g #[.int .u64 (Bl.hiW s),.int .u64 (Bl.loW s)] (Ca.evT hx) (Ca.evT hy) 140 #[.int .u64 (Bl.hiW s0),.int .u64 (Bl.loW s0)] hA (by rw [Bl.infoW]; rfl) rfl (by simp [Value.oneCell']) ?_
 rw [hd]
 exact k
end
def Bl.wG (ops : Array Oper) (i : Nat) (l : List Bool) (D : List Nat) : Bool := waitsG .any ops 8 i D && openG l.toArray D
def Bl.chk10 (ops : Array Oper) : Bool := Region.noSelect ops && Bl.tk ops [false,false,false,false,false,false,false,false,false,false] 0 && Bl.tk ops [true,false,false,false,false,false,false,false,false,false] 1 && Bl.tk ops [true,true,false,false,false,false,false,false,false,false] 2 && Bl.tk ops [true,true,true,false,false,false,false,false,false,false] 4 && Bl.tk ops [true,true,true,false,true,false,false,false,false,false] 5 && Bl.tk ops [true,true,true,false,true,true,false,false,false,false] 6 && Bl.wG ops 0 [false,false,false,false,false,false,false,false,false,false] [8,9] && Bl.wG ops 1 [true,false,false,false,false,false,false,false,false,false] [8,9] && Bl.wG ops 2 [true,true,false,false,false,false,false,false,false,false] [8,9] && Bl.wG ops 4 [true,true,true,false,false,false,false,false,false,false] [7,8,9] && Bl.wG ops 5 [true,true,true,false,true,false,false,false,false,false] [6,7,8,9] && Bl.wG ops 6 [true,true,true,false,true,true,false,false,false,false] [7,8,9] && (Region.ready .any ops [true,true,true,false,true,true,true,false,false,false].toArray == [3]) && (Region.ready .any ops [true,true,true,true,true,true,true,false,false,false].toArray == [7]) && (Region.ready .any ops [true,true,true,true,true,true,true,true,false,false].toArray == [8]) && (Region.ready .any ops [true,true,true,true,true,true,true,true,true,false].toArray == [9]) && (Region.ready .any ops [true,true,true,true,true,true,true,true,true,true].toArray == [])
theorem Bl.chk10_iff (ops : Array Oper) : Bl.chk10 ops = true ↔ (((((((((((((((((Region.noSelect ops = true) ∧ (Bl.tk ops [false,false,false,false,false,false,false,false,false,false] 0 = true)) ∧ (Bl.tk ops [true,false,false,false,false,false,false,false,false,false] 1 = true)) ∧ (Bl.tk ops [true,true,false,false,false,false,false,false,false,false] 2 = true)) ∧ (Bl.tk ops [true,true,true,false,false,false,false,false,false,false] 4 = true)) ∧ (Bl.tk ops [true,true,true,false,true,false,false,false,false,false] 5 = true)) ∧ (Bl.tk ops [true,true,true,false,true,true,false,false,false,false] 6 = true)) ∧ (Bl.wG ops 0 [false,false,false,false,false,false,false,false,false,false] [8,9] = true)) ∧ (Bl.wG ops 1 [true,false,false,false,false,false,false,false,false,false] [8,9] = true)) ∧ (Bl.wG ops 2 [true,true,false,false,false,false,false,false,false,false] [8,9] = true)) ∧ (Bl.wG ops 4 [true,true,true,false,false,false,false,false,false,false] [7,8,9] = true)) ∧ (Bl.wG ops 5 [true,true,true,false,true,false,false,false,false,false] [6,7,8,9] = true)) ∧ (Bl.wG ops 6 [true,true,true,false,true,true,false,false,false,false] [7,8,9] = true)) ∧ (Region.ready .any ops [true,true,true,false,true,true,true,false,false,false].toArray = [3])) ∧ (Region.ready .any ops [true,true,true,true,true,true,true,false,false,false].toArray = [7])) ∧ (Region.ready .any ops [true,true,true,true,true,true,true,true,false,false].toArray = [8])) ∧ (Region.ready .any ops [true,true,true,true,true,true,true,true,true,false].toArray = [9])) ∧ (Region.ready .any ops [true,true,true,true,true,true,true,true,true,true].toArray = []) := by
 unfold Bl.chk10
 repeat rw [Bool.and_eq_true]
 simp only [beq_iff_eq]
theorem Bl.wp_sum {id : Nat} {o0 o1 o2 o3 o4 o5 o6 o7 o8 o9 : Oper} {a : Act} {w : World} {Q : Exit → Act → World → Prop} {S : World → Prop} (N T x y : Int) (v1 v5 : Value) (g3 g4 : Nat) {ty3 ty7 : Array TypeId} {a3 b3 a7 b7 x8 y8 x9 y9 : Tmp} (hx : Fit x) (hy : Fit y) (hSB : ∀ u,Below w.heap.size w u → S u) (hA : Bl.Wk w g3 N) (hB : Bl.Wk w g4 T) (hn : g3 ≠ g4) (hc : Bl.chk10 #[o0,o1,o2,o3,o4,o5,o6,o7,o8,o9] = true)
  (y0h : YieldsIf Tryz.prog #[o0,o1,o2,o3,o4,o5,o6,o7,o8,o9] S o0 (.agg #[.int .u64 (Bl.hiW N),.int .u64 (Bl.loW N)]) a) (q0 : ∀ c a w,Q (.panic c) (Act.put a o0.dst (.agg #[.int .u64 (Bl.hiW N),.int .u64 (Bl.loW N)])) w → Q (.panic c) a w) (y1h : YieldsIf Tryz.prog #[o0,o1,o2,o3,o4,o5,o6,o7,o8,o9] S o1 v1 (a.put o0.dst (.agg #[.int .u64 (Bl.hiW N),.int .u64 (Bl.loW N)]))) (q1 : ∀ c a w,Q (.panic c) (Act.put a o1.dst v1) w → Q (.panic c) a w) (y2h : YieldsIf Tryz.prog #[o0,o1,o2,o3,o4,o5,o6,o7,o8,o9] S o2 (.int .i64 x) ((a.put o0.dst (.agg #[.int .u64 (Bl.hiW N),.int .u64 (Bl.loW N)])).put o1.dst v1)) (q2 : ∀ c a w,Q (.panic c) (Act.put a o2.dst (.int .i64 x)) w → Q (.panic c) a w) (y4h : YieldsIf Tryz.prog #[o0,o1,o2,o3,o4,o5,o6,o7,o8,o9] S o4 (.agg #[.int .u64 (Bl.hiW T),.int .u64 (Bl.loW T)]) (((a.put o0.dst (.agg #[.int .u64 (Bl.hiW N),.int .u64 (Bl.loW N)])).put o1.dst v1).put o2.dst (.int .i64 x))) (q4 : ∀ c a w,Q (.panic c) (Act.put a o4.dst (.agg #[.int .u64 (Bl.hiW T),.int .u64 (Bl.loW T)])) w → Q (.panic c) a w) (y5h : YieldsIf Tryz.prog #[o0,o1,o2,o3,o4,o5,o6,o7,o8,o9] S o5 v5 ((((a.put o0.dst (.agg #[.int .u64 (Bl.hiW N),.int .u64 (Bl.loW N)])).put o1.dst v1).put o2.dst (.int .i64 x)).put o4.dst (.agg #[.int .u64 (Bl.hiW T),.int .u64 (Bl.loW T)]))) (q5 : ∀ c a w,Q (.panic c) (Act.put a o5.dst v5) w → Q (.panic c) a w) (y6h : YieldsIf Tryz.prog #[o0,o1,o2,o3,o4,o5,o6,o7,o8,o9] S o6 (.int .i64 y) (((((a.put o0.dst (.agg #[.int .u64 (Bl.hiW N),.int .u64 (Bl.loW N)])).put o1.dst v1).put o2.dst (.int .i64 x)).put o4.dst (.agg #[.int .u64 (Bl.hiW T),.int .u64 (Bl.loW T)])).put o5.dst v5)) (q6 : ∀ c a w,Q (.panic c) (Act.put a o6.dst (.int .i64 y)) w → Q (.panic c) a w)
  (hg3 : o3.guard = none) (ho3 : o3.op = .call { callee := .value (.func 80),args := #[.tmp a3,.tmp b3],argTypes := ty3 }) (e3 : ((((((a.put o0.dst (.agg #[.int .u64 (Bl.hiW N),.int .u64 (Bl.loW N)])).put o1.dst v1).put o2.dst (.int .i64 x)).put o4.dst (.agg #[.int .u64 (Bl.hiW T),.int .u64 (Bl.loW T)])).put o5.dst v5).put o6.dst (.int .i64 y)).tmps.toList[a3]? = some (.agg #[.int .u64 (Bl.hiW N),.int .u64 (Bl.loW N)])) (f3 : ((((((a.put o0.dst (.agg #[.int .u64 (Bl.hiW N),.int .u64 (Bl.loW N)])).put o1.dst v1).put o2.dst (.int .i64 x)).put o4.dst (.agg #[.int .u64 (Bl.hiW T),.int .u64 (Bl.loW T)])).put o5.dst v5).put o6.dst (.int .i64 y)).tmps.toList[b3]? = some (.int .i64 x))
  (hg7 : o7.guard = none) (ho7 : o7.op = .call { callee := .value (.func 80),args := #[.tmp a7,.tmp b7],argTypes := ty7 }) (e7 : (((((((a.put o0.dst (.agg #[.int .u64 (Bl.hiW N),.int .u64 (Bl.loW N)])).put o1.dst v1).put o2.dst (.int .i64 x)).put o4.dst (.agg #[.int .u64 (Bl.hiW T),.int .u64 (Bl.loW T)])).put o5.dst v5).put o6.dst (.int .i64 y)).put o3.dst (.agg #[.int .u64 (Bl.hiW (N + x)),.int .u64 (Bl.loW (N + x))])).tmps.toList[a7]? = some (.agg #[.int .u64 (Bl.hiW T),.int .u64 (Bl.loW T)])) (f7 : (((((((a.put o0.dst (.agg #[.int .u64 (Bl.hiW N),.int .u64 (Bl.loW N)])).put o1.dst v1).put o2.dst (.int .i64 x)).put o4.dst (.agg #[.int .u64 (Bl.hiW T),.int .u64 (Bl.loW T)])).put o5.dst v5).put o6.dst (.int .i64 y)).put o3.dst (.agg #[.int .u64 (Bl.hiW (N + x)),.int .u64 (Bl.loW (N + x))])).tmps.toList[b7]? = some (.int .i64 y))
  (hg8 : o8.guard = none) (ho8 : o8.op = .store 140 (.tmp x8) (.tmp y8)) (hd8 : o8.dst = none) (e8 : ((((((((a.put o0.dst (.agg #[.int .u64 (Bl.hiW N),.int .u64 (Bl.loW N)])).put o1.dst v1).put o2.dst (.int .i64 x)).put o4.dst (.agg #[.int .u64 (Bl.hiW T),.int .u64 (Bl.loW T)])).put o5.dst v5).put o6.dst (.int .i64 y)).put o3.dst (.agg #[.int .u64 (Bl.hiW (N + x)),.int .u64 (Bl.loW (N + x))])).put o7.dst (.agg #[.int .u64 (Bl.hiW (T + y)),.int .u64 (Bl.loW (T + y))])).tmps.toList[x8]? = some (.pointer (some ⟨g3,0,none⟩))) (f8 : ((((((((a.put o0.dst (.agg #[.int .u64 (Bl.hiW N),.int .u64 (Bl.loW N)])).put o1.dst v1).put o2.dst (.int .i64 x)).put o4.dst (.agg #[.int .u64 (Bl.hiW T),.int .u64 (Bl.loW T)])).put o5.dst v5).put o6.dst (.int .i64 y)).put o3.dst (.agg #[.int .u64 (Bl.hiW (N + x)),.int .u64 (Bl.loW (N + x))])).put o7.dst (.agg #[.int .u64 (Bl.hiW (T + y)),.int .u64 (Bl.loW (T + y))])).tmps.toList[y8]? = some (.agg #[.int .u64 (Bl.hiW (N + x)),.int .u64 (Bl.loW (N + x))]))
  (hg9 : o9.guard = none) (ho9 : o9.op = .store 140 (.tmp x9) (.tmp y9)) (hd9 : o9.dst = none) (e9 : ((((((((a.put o0.dst (.agg #[.int .u64 (Bl.hiW N),.int .u64 (Bl.loW N)])).put o1.dst v1).put o2.dst (.int .i64 x)).put o4.dst (.agg #[.int .u64 (Bl.hiW T),.int .u64 (Bl.loW T)])).put o5.dst v5).put o6.dst (.int .i64 y)).put o3.dst (.agg #[.int .u64 (Bl.hiW (N + x)),.int .u64 (Bl.loW (N + x))])).put o7.dst (.agg #[.int .u64 (Bl.hiW (T + y)),.int .u64 (Bl.loW (T + y))])).tmps.toList[x9]? = some (.pointer (some ⟨g4,0,none⟩))) (f9 : ((((((((a.put o0.dst (.agg #[.int .u64 (Bl.hiW N),.int .u64 (Bl.loW N)])).put o1.dst v1).put o2.dst (.int .i64 x)).put o4.dst (.agg #[.int .u64 (Bl.hiW T),.int .u64 (Bl.loW T)])).put o5.dst v5).put o6.dst (.int .i64 y)).put o3.dst (.agg #[.int .u64 (Bl.hiW (N + x)),.int .u64 (Bl.loW (N + x))])).put o7.dst (.agg #[.int .u64 (Bl.hiW (T + y)),.int .u64 (Bl.loW (T + y))])).tmps.toList[y9]? = some (.agg #[.int .u64 (Bl.hiW (T + y)),.int .u64 (Bl.loW (T + y))]))
  (k : ∀ u,Below w.heap.size w u → Q .normal ((((((((a.put o0.dst (.agg #[.int .u64 (Bl.hiW N),.int .u64 (Bl.loW N)])).put o1.dst v1).put o2.dst (.int .i64 x)).put o4.dst (.agg #[.int .u64 (Bl.hiW T),.int .u64 (Bl.loW T)])).put o5.dst v5).put o6.dst (.int .i64 y)).put o3.dst (.agg #[.int .u64 (Bl.hiW (N + x)),.int .u64 (Bl.loW (N + x))])).put o7.dst (.agg #[.int .u64 (Bl.hiW (T + y)),.int .u64 (Bl.loW (T + y))])) (Bl.layW (Bl.layW u g3 (N + x)) g4 (T + y))) :
  (Code.region id #[o0,o1,o2,o3,o4,o5,o6,o7,o8,o9] true).wp Tryz.prog Q a w := by
 rw [Bl.chk10_iff] at hc
 obtain ⟨⟨⟨⟨⟨⟨⟨⟨⟨⟨⟨⟨⟨⟨⟨⟨⟨c0,c1⟩,c2⟩,c3⟩,c4⟩,c5⟩,c6⟩,c7⟩,c8⟩,c9⟩,c10⟩,c11⟩,c12⟩,c13⟩,c14⟩,c15⟩,c16⟩,c17⟩ := hc
 have hw0 : Below w.heap.size w w.drew := (Below.refl _ _).drew
 have hH := hSB _ hw0
 refine Bl.startG (S := S) (x := 8) ?_
 show anyG Tryz.prog .any #[o0,o1,o2,o3,o4,o5,o6,o7,o8,o9] Q S 8 10 [false,false,false,false,false,false,false,false,false,false].toArray a w.drew
 refine Bl.tkG (i := 0) (oi := o0) rfl c0 c1 c7 q0 y0h hH ?_
 show anyG Tryz.prog .any #[o0,o1,o2,o3,o4,o5,o6,o7,o8,o9] Q S 8 9 [true,false,false,false,false,false,false,false,false,false].toArray _ _
 refine Bl.tkG (i := 1) (oi := o1) rfl c0 c2 c8 q1 y1h hH ?_
 show anyG Tryz.prog .any #[o0,o1,o2,o3,o4,o5,o6,o7,o8,o9] Q S 8 8 [true,true,false,false,false,false,false,false,false,false].toArray _ _
 refine Bl.tkG (i := 2) (oi := o2) rfl c0 c3 c9 q2 y2h hH ?_
 show anyG Tryz.prog .any #[o0,o1,o2,o3,o4,o5,o6,o7,o8,o9] Q S 8 7 [true,true,true,false,false,false,false,false,false,false].toArray _ _
 refine Bl.tkG (i := 4) (oi := o4) rfl c0 c4 c10 q4 y4h hH ?_
 show anyG Tryz.prog .any #[o0,o1,o2,o3,o4,o5,o6,o7,o8,o9] Q S 8 6 [true,true,true,false,true,false,false,false,false,false].toArray _ _
 refine Bl.tkG (i := 5) (oi := o5) rfl c0 c5 c11 q5 y5h hH ?_
 show anyG Tryz.prog .any #[o0,o1,o2,o3,o4,o5,o6,o7,o8,o9] Q S 8 5 [true,true,true,false,true,true,false,false,false,false].toArray _ _
 refine Bl.tkG (i := 6) (oi := o6) rfl c0 c6 c12 q6 y6h hH ?_
 show anyG Tryz.prog .any #[o0,o1,o2,o3,o4,o5,o6,o7,o8,o9] Q S 8 4 [true,true,true,false,true,true,true,false,false,false].toArray _ _
 refine Bl.oneG (i := 3) (oi := o3) rfl c13 (fun K hK => ?_)
 refine Bl.step_call hg3 (Bl.enters ho3 (vs := #[.agg #[.int .u64 (Bl.hiW N),.int .u64 (Bl.loW N)],.int .i64 x]) (by simp only [List.map_toArray,List.map_cons,List.map_nil,Ca.evT e3,Ca.evT f3]) Tryz.func80 (by kernel_rfl) rfl _) ((bil_plus N x w w.drew hw0 hx).mono ?_)
 rintro e u1 ⟨rfl,b1⟩
 refine ⟨_,rfl,hK.out _ _ (.inr (hSB _ b1)) ?_⟩
 clear hK K
 show anyG Tryz.prog .any #[o0,o1,o2,o3,o4,o5,o6,o7,o8,o9] Q S 8 3 [true,true,true,true,true,true,true,false,false,false].toArray _ _
 refine Bl.oneG (i := 7) (oi := o7) rfl c14 (fun K hK => ?_)
 refine Bl.step_call hg7 (Bl.enters ho7 (vs := #[.agg #[.int .u64 (Bl.hiW T),.int .u64 (Bl.loW T)],.int .i64 y]) (by simp only [List.map_toArray,List.map_cons,List.map_nil,Ca.evT e7,Ca.evT f7]) Tryz.func80 (by kernel_rfl) rfl _) ((bil_plus T y w u1 b1 hy).mono ?_)
 rintro e u2 ⟨rfl,b2⟩
 refine ⟨_,rfl,hK.out _ _ (.inr (hSB _ b2)) ?_⟩
 clear hK K
 show anyG Tryz.prog .any #[o0,o1,o2,o3,o4,o5,o6,o7,o8,o9] Q S 8 2 [true,true,true,true,true,true,true,true,false,false].toArray _ _
 refine Bl.oneG (i := 8) (oi := o8) rfl c15 (fun K hK => ?_)
 refine Bl.step_wide hg8 ho8 hd8 e8 f8 (hA.below b2) (hK.out _ _ (.inl (Nat.le_refl _)) ?_)
 clear hK K
 show anyG Tryz.prog .any #[o0,o1,o2,o3,o4,o5,o6,o7,o8,o9] Q S 8 1 [true,true,true,true,true,true,true,true,true,false].toArray _ _
 refine Bl.oneG (i := 9) (oi := o9) rfl c16 (fun K hK => ?_)
 refine Bl.step_wide hg9 ho9 hd9 e9 f9 ((hB.below b2).other (Ne.symm hn) _) (hK.out _ _ (.inl (by omega)) ?_)
 clear hK K
 exact anyG_done c17 (k u2 b2) _
def Bl.SumR (t : Iv.Tot) : Prop := t.net = Bl.netsP t.parts ∧ t.tax = Bl.taxesP t.parts ∧ t.gross = t.net + t.tax
theorem Bl.nets_take (l : List Pt.T) (k : Nat) (h : k < l.length) : Bl.netsP (l.take (k + 1)) = Bl.netsP (l.take k) + l[k].net := by
 induction l generalizing k with
 | nil => exact absurd h (Nat.not_lt_zero _)
 | cons p l ih =>
  cases k with
  | zero => simp [Bl.netsP]
  | succ k =>
   rw [List.take_succ_cons,List.take_succ_cons,Bl.netsP,Bl.netsP,ih k (by simpa using h),List.getElem_cons_succ]
   omega
theorem Bl.taxes_take (l : List Pt.T) (k : Nat) (h : k < l.length) : Bl.taxesP (l.take (k + 1)) = Bl.taxesP (l.take k) + l[k].tax := by
 induction l generalizing k with
 | nil => exact absurd h (Nat.not_lt_zero _)
 | cons p l ih =>
  cases k with
  | zero => simp [Bl.taxesP]
  | succ k =>
   rw [List.take_succ_cons,List.take_succ_cons,Bl.taxesP,Bl.taxesP,ih k (by simpa using h),List.getElem_cons_succ]
   omega
structure Bl.SmSt (w wr : World) (N X G : Int) (v : Value) (a b : Int) : Prop where
 bel : Below w.heap.size w wr
 tot : Tt.At wr w.heap.size N X G v
 s1 : Bl.Wk wr (w.heap.size + 1) a
 s2 : Bl.Wk wr (w.heap.size + 1 + 1) b
theorem Bl.SmSt.below {w wr v : World} {N X G : Int} {t : Value} {a b : Int} (h : Bl.SmSt w wr N X G t a b) (k : Below wr.heap.size wr v) : Bl.SmSt w v N X G t a b := ⟨bchain h.bel k,h.tot.below k,h.s1.below k,h.s2.below k⟩
theorem Bl.SmSt.lay {w wr : World} {N X G : Int} {t : Value} {a b : Int} (h : Bl.SmSt w wr N X G t a b) (a' b' : Int) : Bl.SmSt w (Bl.layW (Bl.layW wr (w.heap.size + 1) a') (w.heap.size + 1 + 1) b') N X G t a' b' :=
 ⟨below_setRow (below_setRow h.bel (by omega) _) (by omega) _,(setRow_other _ _ _ _ (by omega)).trans ((setRow_other _ _ _ _ (by omega)).trans h.tot),(h.s1.lay a').other (by omega) _,(h.s2.other (by omega) _).lay b'⟩
theorem plus_agU (s n : Int) (hn : Fit n) (u : World) (i : Nat) (os : Array Obj) : AnsU 80 #[.agg #[.int .u64 (Bl.hiW s),.int .u64 (Bl.loW s)],.int .i64 n] u i os (.agg #[.int .u64 (Bl.hiW (s + n)),.int .u64 (Bl.loW (s + n))]) :=
 Calls.regrown_of (bil_plus s n _ _ (Below.refl _ _) hn)
end Go.Proofs.YtjpfpojbalepeabGreat
namespace Go.Proofs.YtjpfpojbalepeabGreat
open Go.RowKit
open Mem
open Go.Sort (grow)
theorem Bl.w_zero : Bl.hiW 0 = 0 ∧ Bl.loW 0 = 0 := ⟨rfl,rfl⟩
theorem Bl.w_beq {a b : Int} (h : ¬ a = b) (ha : -170141183460469231731687303715884105728 ≤ a ∧ a < 170141183460469231731687303715884105728) (hb : -170141183460469231731687303715884105728 ≤ b ∧ b < 170141183460469231731687303715884105728) : (Bl.hiW a == Bl.hiW b) = false ∨ ((Bl.hiW a == Bl.hiW b) = true ∧ (Bl.loW a == Bl.loW b) = false) := by
 by_cases h1 : Bl.hiW a = Bl.hiW b
 · refine .inr ⟨beq_iff_eq.2 h1,beq_eq_false_iff_ne.2 fun h2 => h ((Bl.w_inj ha hb).1 ⟨h1,h2⟩)⟩
 · exact .inl (beq_eq_false_iff_ne.2 h1)
set_option maxHeartbeats 8000000 in
theorem bil_summed (t : Iv.Tot) (ao : Option Addr) (n cap : Nat) (w0 w : World) (hw : Below w0.heap.size w0 w) (hL : Pt.Ls w ao n cap t.parts) (hf : Fit t.net ∧ Fit t.tax ∧ Fit t.gross) (hn : n ≤ 1000) :
  Calls Tryz.prog 54 #[Tt.val t.net t.tax t.gross (.slice ao n cap)] w (Bl.YesE w0 (Bl.SumR t)) := by
 have HW := Lib.hid hw
 have HL := Lib.hid hL
 have HN := Lib.hid hL.len
 have HF := Lib.hid hf
 have hcap := hL.reach
 have hfit := hL.fits
 obtain ⟨U,hU,hB,k0,k1,k2,hs⟩ := Bl.al3 w (.cells #[.int .i64 t.net,.int .i64 t.tax,.int .i64 t.gross,.slice ao n cap] 57) (.cells #[.int .u64 0,.int .u64 0] 140) (.cells #[.int .u64 0,.int .u64 0] 140)
 have HS0 : Hid (Bl.SmSt w U t.net t.tax t.gross (.slice ao n cap) 0 0) := Lib.hid ⟨hB,k0,k1,k2⟩
 obtain ⟨x0,x1,x2,x3⟩ := HS0.out.tot.cells
 clear hL hw hf hB k0 k1 k2 hs
 unfold Tt.val
 go_enter Tryz.func54,Tryz.ntmps54
 go_wp2_with fail
 clear hU x0 x1 x2 x3
 go_loopw [6,10] (fun _ j wr => ∃ k : Nat,k ≤ n ∧ j = .int .i64 k ∧ Hid (Bl.SmSt w wr t.net t.tax t.gross (.slice ao n cap) (Bl.netsP (t.parts.take k)) (Bl.taxesP (t.parts.take k)) ∧ -((k : Int) * 9223372036854775808) ≤ Bl.netsP (t.parts.take k) ∧ Bl.netsP (t.parts.take k) ≤ (k : Int) * 9223372036854775808 ∧ -((k : Int) * 9223372036854775808) ≤ Bl.taxesP (t.parts.take k) ∧ Bl.taxesP (t.parts.take k) ≤ (k : Int) * 9223372036854775808)) (fun _ j _ => n - (intOf j).toNat)
 case atStart => exact ⟨0,by omega,rfl,Lib.hid ⟨HS0.out,by show -((0 : Int) * _) ≤ 0; omega,by show (0 : Int) ≤ 0 * _; omega,by show -((0 : Int) * _) ≤ 0; omega,by show (0 : Int) ≤ 0 * _; omega⟩⟩
 case round =>
  obtain ⟨k,hk,rfl,HR⟩ := hrel
  by_cases hlt : k < n
  ·
   obtain ⟨b,off,rfl⟩ := HL.out.at (by omega)
   have hkl : k < t.parts.length := HN.out ▸ hlt
   have HT1 := Lib.hid (Bl.nets_take t.parts k hkl)
   have HT2 := Lib.hid (Bl.taxes_take t.parts k hkl)
   have HSh := Lib.hid (HL.out.short _ (List.getElem_mem hkl))
   have hrow := (HL.out.row k hkl).below HR.out.1.bel
   obtain ⟨r,hr⟩ : ∃ r,t.parts[k] = r := ⟨_,rfl⟩
   rw [hr] at hrow HSh HT1 HT2
   clear hr
   obtain ⟨g0,g1,g2,g3⟩ := hrow
   obtain ⟨W,hW,hbW,hA⟩ := Pt.boxed1 wr r
   have HSW := Lib.hid (HR.out.1.below hbW)
   have HBd := Lib.hid HR.out.2
   have HCW := Lib.hid hA
   clear hbW hA
   generalize Bl.netsP (t.parts.take k) = A0 at *
   generalize Bl.taxesP (t.parts.take k) = B0 at *
   go_wp2_with fail
   clear hW
   refine Bl.wp_sum (S := fun u => Bl.Wk u (w.heap.size + 1) A0 ∧ Bl.Wk u (w.heap.size + 1 + 1) B0 ∧ Pt.C u wr.heap.size r) A0 B0 r.net r.tax (.pointer (some ⟨wr.heap.size,2,none⟩)) (.pointer (some ⟨wr.heap.size,3,none⟩)) (w.heap.size + 1) (w.heap.size + 1 + 1) HSh.out.2.2.1 HSh.out.2.2.2 ?_ HSW.out.s1 HSW.out.s2 (by omega) ?_ ?_ ?_ ?_ ?_ ?_ ?_ ?_ ?_ ?_ ?_ ?_ ?_ rfl rfl ?_ ?_ rfl rfl ?_ ?_ rfl rfl rfl ?_ ?_ rfl rfl rfl ?_ ?_ ?_
   ·
    intro u hb
    exact ⟨HSW.out.s1.below hb,HSW.out.s2.below hb,HCW.out.below hb⟩
   · kernel_rfl
   · exact Bl.y_wide (t := 3) rfl rfl (by kernel_rfl) fun u hu => hu.1
   · exact fun _ _ _ h => h
   · exact Bl.y_pnet (t := 6) rfl rfl (by kernel_rfl)
   · exact fun _ _ _ h => h
   · exact Bl.y_intT (t := 15) rfl rfl (by kernel_rfl) fun u hu => by have h := hu.2.2; unfold Pt.C at h; exact h.2.2.1
   · exact fun _ _ _ h => h
   · exact Bl.y_wide (t := 4) rfl rfl (by kernel_rfl) fun u hu => hu.2.1
   · exact fun _ _ _ h => h
   · exact Bl.y_ptax (t := 6) rfl rfl (by kernel_rfl)
   · exact fun _ _ _ h => h
   · exact Bl.y_intT (t := 19) rfl rfl (by kernel_rfl) fun u hu => by have h := hu.2.2; unfold Pt.C at h; exact h.2.2.2
   · exact fun _ _ _ h => h
   · kernel_rfl
   · kernel_rfl
   · kernel_rfl
   · kernel_rfl
   · kernel_rfl
   · kernel_rfl
   · kernel_rfl
   · kernel_rfl
   intro u hb
   have HS2 := Lib.hid ((HSW.out.below hb).lay (A0 + r.net) (B0 + r.tax))
   clear hb
   generalize Bl.layW (Bl.layW u (w.heap.size + 1) (A0 + r.net)) (w.heap.size + 1 + 1) (B0 + r.tax) = V at *
   go_wp2_with fail
   go_roundw
   case rel => exact ⟨k + 1,by omega,by go_num,Lib.hid ⟨by rw [HT1.out,HT2.out]; exact HS2.out,by rw [HT1.out]; have h1 := HBd.out; have h2 := HSh.out.2.2.1.1; omega,by rw [HT1.out]; have h1 := HBd.out; have h2 := HSh.out.2.2.1.2; omega,by rw [HT2.out]; have h1 := HBd.out; have h2 := HSh.out.2.2.2.1; omega,by rw [HT2.out]; have h1 := HBd.out; have h2 := HSh.out.2.2.2.2; omega⟩⟩
   case measure => simp [intOf]; omega
  ·
   obtain rfl : k = n := by omega
   have hEnd := HR.out
   rw [List.take_of_length_le (by rw [HN.out]; exact Nat.le_refl _)] at hEnd
   have HSt := Lib.hid hEnd.1
   have hbd : (-170141183460469231731687303715884105728 ≤ Bl.netsP t.parts ∧ Bl.netsP t.parts < 170141183460469231731687303715884105728) ∧ (-170141183460469231731687303715884105728 ≤ Bl.taxesP t.parts ∧ Bl.taxesP t.parts < 170141183460469231731687303715884105728) := by
    have h2 := hEnd.2
    have h3 : (k : Int) ≤ 1000 := by omega
    omega
   have HBn := Lib.hid hbd
   clear hEnd hbd
   obtain ⟨s0,s1⟩ := HSt.out.s1.cells
   obtain ⟨t0,t1⟩ := HSt.out.s2.cells
   obtain ⟨x0,x1,x2,x3⟩ := HSt.out.tot.cells
   have K0 := cell_regrown s0
   have K1 := cell_regrown s1
   have K2 := cell_regrown t0
   have K3 := cell_regrown t1
   have K4 := cell_regrown x0
   have K5 := cell_regrown x1
   have K6 := cell_regrown x2
   have K7 := cell_regrown x3
   have cN := fun i os => plus_agU 0 t.net HF.out.1 wr i os
   have cT := fun i os => plus_agU 0 t.tax HF.out.2.1 wr i os
   have cG := fun i os => plus_agU 0 t.gross HF.out.2.2 wr i os
   have cNT := fun i os => plus_agU (0 + t.net) t.tax HF.out.2.1 wr i os
   rw [Bl.w_zero.1,Bl.w_zero.2] at cN cT cG
   rw [Int.zero_add] at cN cT cG cNT
   have fn := HF.out.1
   have ft := HF.out.2.1
   have fg := HF.out.2.2
   have bn : -170141183460469231731687303715884105728 ≤ t.net ∧ t.net < 170141183460469231731687303715884105728 := ⟨by have := fn.1; omega,by have := fn.2; omega⟩
   have bt : -170141183460469231731687303715884105728 ≤ t.tax ∧ t.tax < 170141183460469231731687303715884105728 := ⟨by have := ft.1; omega,by have := ft.2; omega⟩
   have bg : -170141183460469231731687303715884105728 ≤ t.gross ∧ t.gross < 170141183460469231731687303715884105728 := ⟨by have := fg.1; omega,by have := fg.2; omega⟩
   have bs : -170141183460469231731687303715884105728 ≤ t.net + t.tax ∧ t.net + t.tax < 170141183460469231731687303715884105728 := ⟨by have := fn.1; have := ft.1; omega,by have := fn.2; have := ft.2; omega⟩
   clear s0 s1 t0 t1 x0 x1 x2 x3 fn ft fg
   have HX1 : Hid (¬ Bl.netsP t.parts = t.net → (Bl.hiW (Bl.netsP t.parts) == Bl.hiW t.net) = false ∨ ((Bl.hiW (Bl.netsP t.parts) == Bl.hiW t.net) = true ∧ (Bl.loW (Bl.netsP t.parts) == Bl.loW t.net) = false)) := Lib.hid fun z => Bl.w_beq z HBn.out.1 bn
   have HX2 : Hid (¬ Bl.taxesP t.parts = t.tax → (Bl.hiW (Bl.taxesP t.parts) == Bl.hiW t.tax) = false ∨ ((Bl.hiW (Bl.taxesP t.parts) == Bl.hiW t.tax) = true ∧ (Bl.loW (Bl.taxesP t.parts) == Bl.loW t.tax) = false)) := Lib.hid fun z => Bl.w_beq z HBn.out.2 bt
   have HX3 : Hid (¬ t.net + t.tax = t.gross → (Bl.hiW (t.net + t.tax) == Bl.hiW t.gross) = false ∨ ((Bl.hiW (t.net + t.tax) == Bl.hiW t.gross) = true ∧ (Bl.loW (t.net + t.tax) == Bl.loW t.gross) = false)) := Lib.hid fun z => Bl.w_beq z bs bg
   clear bn bt bg bs
   by_cases h1 : Bl.netsP t.parts = t.net
   ·
    rw [h1] at K0 K1
    by_cases h2 : Bl.taxesP t.parts = t.tax
    ·
     rw [h2] at K2 K3
     by_cases h3 : t.net + t.tax = t.gross
     ·
      have HYes : Hid (Bl.SumR t) := Lib.hid ⟨h1.symm,h2.symm,h3.symm⟩
      rw [h3] at cNT
      clear h1 h2 h3 HX1 HX2 HX3
      obtain ⟨a1,ha1⟩ : ∃ a1,Bl.hiW t.net = a1 := ⟨_,rfl⟩
      obtain ⟨b1,hb1⟩ : ∃ b1,Bl.loW t.net = b1 := ⟨_,rfl⟩
      obtain ⟨a2,ha2⟩ : ∃ a1,Bl.hiW t.tax = a1 := ⟨_,rfl⟩
      obtain ⟨b2,hb2⟩ : ∃ b1,Bl.loW t.tax = b1 := ⟨_,rfl⟩
      obtain ⟨a3,ha3⟩ : ∃ a1,Bl.hiW t.gross = a1 := ⟨_,rfl⟩
      obtain ⟨b3,hb3⟩ : ∃ b1,Bl.loW t.gross = b1 := ⟨_,rfl⟩
      rw [ha1] at K0
      rw [hb1] at K1
      rw [ha2] at K2
      rw [hb2] at K3
      rw [ha1,hb1] at cN cNT
      rw [ha2,hb2] at cT
      rw [ha3,hb3] at cNT cG
      clear ha1 hb1 ha2 hb2 ha3 hb3
      have r1 : (a1 == a1) = true := beq_self_eq_true _
      have r2 : (b1 == b1) = true := beq_self_eq_true _
      have r3 : (a2 == a2) = true := beq_self_eq_true _
      have r4 : (b2 == b2) = true := beq_self_eq_true _
      have r5 : (a3 == a3) = true := beq_self_eq_true _
      have r6 : (b3 == b3) = true := beq_self_eq_true _
      go_wp2
      refine wp_region_quiet_below (by kernel_rfl) (by kernel_rfl) ?_
      repeat (first | go_big_quiet_step (first | (go_at_call_of 80 a1; exact cNT _ _) | (go_at_call_of 80 (Value.int .i64 t.net); exact cN _ _) | (go_at_call_of 80 (Value.int .i64 t.tax); exact cT _ _) | (go_at_call_of 80 (Value.int .i64 t.gross); exact cG _ _)) | quiet_step (first | (go_at_call_of 80 a1; exact cNT _ _) | (go_at_call_of 80 (Value.int .i64 t.net); exact cN _ _) | (go_at_call_of 80 (Value.int .i64 t.tax); exact cT _ _) | (go_at_call_of 80 (Value.int .i64 t.gross); exact cG _ _)))
      refine wpQuiet_nil ?_
      intro _ hw'
      obtain ⟨⟨dq,osq⟩,hw''⟩ := hw'
      subst hw''
      have HBv := Lib.hid (bchain HSt.out.bel (below_regrown wr dq osq))
      go_wp2
      go_ret
      exact ⟨.inl ⟨HYes.out,rfl⟩,bchain HW.out HBv.out⟩
     ·
      have hx := HX3.out h3
      clear HX1 HX2 HX3
      obtain ⟨a1,ha1⟩ : ∃ a1,Bl.hiW t.net = a1 := ⟨_,rfl⟩
      obtain ⟨b1,hb1⟩ : ∃ b1,Bl.loW t.net = b1 := ⟨_,rfl⟩
      obtain ⟨a2,ha2⟩ : ∃ a1,Bl.hiW t.tax = a1 := ⟨_,rfl⟩
      obtain ⟨b2,hb2⟩ : ∃ b1,Bl.loW t.tax = b1 := ⟨_,rfl⟩
      rw [ha1] at K0
      rw [hb1] at K1
      rw [ha2] at K2
      rw [hb2] at K3
      rw [ha1,hb1] at cN cNT
      rw [ha2,hb2] at cT
      clear ha1 hb1 ha2 hb2
      have r1 : (a1 == a1) = true := beq_self_eq_true _
      have r2 : (b1 == b1) = true := beq_self_eq_true _
      have r3 : (a2 == a2) = true := beq_self_eq_true _
      have r4 : (b2 == b2) = true := beq_self_eq_true _
      have HNo : Hid (¬ Bl.SumR t) := Lib.hid fun z => h3 z.2.2.symm
      clear h1 h2 h3
      rcases hx with r5 | ⟨r5,r6⟩
      ·
       go_wp2
       refine wp_region_quiet_below (by kernel_rfl) (by kernel_rfl) ?_
       repeat (first | go_big_quiet_step (first | (go_at_call_of 80 a1; exact cNT _ _) | (go_at_call_of 80 (Value.int .i64 t.net); exact cN _ _) | (go_at_call_of 80 (Value.int .i64 t.tax); exact cT _ _) | (go_at_call_of 80 (Value.int .i64 t.gross); exact cG _ _)) | quiet_step (first | (go_at_call_of 80 a1; exact cNT _ _) | (go_at_call_of 80 (Value.int .i64 t.net); exact cN _ _) | (go_at_call_of 80 (Value.int .i64 t.tax); exact cT _ _) | (go_at_call_of 80 (Value.int .i64 t.gross); exact cG _ _)))
       refine wpQuiet_nil ?_
       intro _ hw'
       obtain ⟨⟨dq,osq⟩,hw''⟩ := hw'
       subst hw''
       have HBv := Lib.hid (bchain HSt.out.bel (below_regrown wr dq osq))
       go_wp2
       go_ret
       exact ⟨.inr ⟨HNo.out,rfl⟩,bchain HW.out HBv.out⟩
      ·
       go_wp2
       refine wp_region_quiet_below (by kernel_rfl) (by kernel_rfl) ?_
       repeat (first | go_big_quiet_step (first | (go_at_call_of 80 a1; exact cNT _ _) | (go_at_call_of 80 (Value.int .i64 t.net); exact cN _ _) | (go_at_call_of 80 (Value.int .i64 t.tax); exact cT _ _) | (go_at_call_of 80 (Value.int .i64 t.gross); exact cG _ _)) | quiet_step (first | (go_at_call_of 80 a1; exact cNT _ _) | (go_at_call_of 80 (Value.int .i64 t.net); exact cN _ _) | (go_at_call_of 80 (Value.int .i64 t.tax); exact cT _ _) | (go_at_call_of 80 (Value.int .i64 t.gross); exact cG _ _)))
       refine wpQuiet_nil ?_
       intro _ hw'
       obtain ⟨⟨dq,osq⟩,hw''⟩ := hw'
       subst hw''
       have HBv := Lib.hid (bchain HSt.out.bel (below_regrown wr dq osq))
       go_wp2
       go_ret
       exact ⟨.inr ⟨HNo.out,rfl⟩,bchain HW.out HBv.out⟩
    ·
     have hx := HX2.out h2
     clear HX1 HX2 HX3
     obtain ⟨a1,ha1⟩ : ∃ a1,Bl.hiW t.net = a1 := ⟨_,rfl⟩
     obtain ⟨b1,hb1⟩ : ∃ b1,Bl.loW t.net = b1 := ⟨_,rfl⟩
     rw [ha1] at K0
     rw [hb1] at K1
     rw [ha1,hb1] at cN cNT
     clear ha1 hb1
     have r1 : (a1 == a1) = true := beq_self_eq_true _
     have r2 : (b1 == b1) = true := beq_self_eq_true _
     have HNo : Hid (¬ Bl.SumR t) := Lib.hid fun z => h2 z.2.1.symm
     clear h1 h2
     rcases hx with r5 | ⟨r5,r6⟩
     ·
      go_wp2
      refine wp_region_quiet_below (by kernel_rfl) (by kernel_rfl) ?_
      repeat (first | go_big_quiet_step (first | (go_at_call_of 80 a1; exact cNT _ _) | (go_at_call_of 80 (Value.int .i64 t.net); exact cN _ _) | (go_at_call_of 80 (Value.int .i64 t.tax); exact cT _ _) | (go_at_call_of 80 (Value.int .i64 t.gross); exact cG _ _)) | quiet_step (first | (go_at_call_of 80 a1; exact cNT _ _) | (go_at_call_of 80 (Value.int .i64 t.net); exact cN _ _) | (go_at_call_of 80 (Value.int .i64 t.tax); exact cT _ _) | (go_at_call_of 80 (Value.int .i64 t.gross); exact cG _ _)))
      refine wpQuiet_nil ?_
      intro _ hw'
      obtain ⟨⟨dq,osq⟩,hw''⟩ := hw'
      subst hw''
      have HBv := Lib.hid (bchain HSt.out.bel (below_regrown wr dq osq))
      go_wp2
      go_ret
      exact ⟨.inr ⟨HNo.out,rfl⟩,bchain HW.out HBv.out⟩
     ·
      go_wp2
      refine wp_region_quiet_below (by kernel_rfl) (by kernel_rfl) ?_
      repeat (first | go_big_quiet_step (first | (go_at_call_of 80 a1; exact cNT _ _) | (go_at_call_of 80 (Value.int .i64 t.net); exact cN _ _) | (go_at_call_of 80 (Value.int .i64 t.tax); exact cT _ _) | (go_at_call_of 80 (Value.int .i64 t.gross); exact cG _ _)) | quiet_step (first | (go_at_call_of 80 a1; exact cNT _ _) | (go_at_call_of 80 (Value.int .i64 t.net); exact cN _ _) | (go_at_call_of 80 (Value.int .i64 t.tax); exact cT _ _) | (go_at_call_of 80 (Value.int .i64 t.gross); exact cG _ _)))
      refine wpQuiet_nil ?_
      intro _ hw'
      obtain ⟨⟨dq,osq⟩,hw''⟩ := hw'
      subst hw''
      have HBv := Lib.hid (bchain HSt.out.bel (below_regrown wr dq osq))
      go_wp2
      go_ret
      exact ⟨.inr ⟨HNo.out,rfl⟩,bchain HW.out HBv.out⟩
   ·
    have hx := HX1.out h1
    clear HX1 HX2 HX3
    obtain ⟨a1,ha1⟩ : ∃ a1,a1 = Bl.hiW t.net := ⟨_,rfl⟩
    have HNo : Hid (¬ Bl.SumR t) := Lib.hid fun z => h1 z.1.symm
    clear h1
    rcases hx with r5 | ⟨r5,r6⟩
    ·
     go_wp2
     refine wp_region_quiet_below (by kernel_rfl) (by kernel_rfl) ?_
     repeat (first | go_big_quiet_step (first | (fail; exact cNT _ _) | (go_at_call_of 80 (Value.int .i64 t.net); exact cN _ _) | (go_at_call_of 80 (Value.int .i64 t.tax); exact cT _ _) | (go_at_call_of 80 (Value.int .i64 t.gross); exact cG _ _)) | quiet_step (first | (fail; exact cNT _ _) | (go_at_call_of 80 (Value.int .i64 t.net); exact cN _ _) | (go_at_call_of 80 (Value.int .i64 t.tax); exact cT _ _) | (go_at_call_of 80 (Value.int .i64 t.gross); exact cG _ _)))
     refine wpQuiet_nil ?_
     intro _ hw'
     obtain ⟨⟨dq,osq⟩,hw''⟩ := hw'
     subst hw''
     have HBv := Lib.hid (bchain HSt.out.bel (below_regrown wr dq osq))
     go_wp2
     go_ret
     exact ⟨.inr ⟨HNo.out,rfl⟩,bchain HW.out HBv.out⟩
    ·
     go_wp2
     refine wp_region_quiet_below (by kernel_rfl) (by kernel_rfl) ?_
     repeat (first | go_big_quiet_step (first | (fail; exact cNT _ _) | (go_at_call_of 80 (Value.int .i64 t.net); exact cN _ _) | (go_at_call_of 80 (Value.int .i64 t.tax); exact cT _ _) | (go_at_call_of 80 (Value.int .i64 t.gross); exact cG _ _)) | quiet_step (first | (fail; exact cNT _ _) | (go_at_call_of 80 (Value.int .i64 t.net); exact cN _ _) | (go_at_call_of 80 (Value.int .i64 t.tax); exact cT _ _) | (go_at_call_of 80 (Value.int .i64 t.gross); exact cG _ _)))
     refine wpQuiet_nil ?_
     intro _ hw'
     obtain ⟨⟨dq,osq⟩,hw''⟩ := hw'
     subst hw''
     have HBv := Lib.hid (bchain HSt.out.bel (below_regrown wr dq osq))
     go_wp2
     go_ret
     exact ⟨.inr ⟨HNo.out,rfl⟩,bchain HW.out HBv.out⟩
end Go.Proofs.YtjpfpojbalepeabGreat
