import Derived.Deep.RegionHeld3
import Derived.Laws.CopyOwn
import Derived.Laws.MakeOwn
import Derived.Deep.RegionLaw
import Derived.Deep.DeepCutAuto
import Derived.Deep.CutBlock
import Derived.Test.YtillcleccjgocaaGreatZIr1
import Derived.Test.YtillcleccjgocaaGreatZIr2
import Derived.Test.YtillcleccjgocaaGreatZIr3
import Derived.Test.YtillcleccjgocaaGreatZIr4
import Derived.Test.YtillcleccjgocaaGreatZIr5
import Derived.Test.YtillcleccjgocaaGreatZIr6
import Derived.Test.YtillcleccjgocaaGreatZIr7
set_option maxRecDepth 100000
set_option linter.unusedVariables false
namespace Go.Proofs.YtillcleccjgocaaGreat
open Go.RowKit
open Mem
open Go.Sort (grow)
structure Bl.PartOk (l : List Pt.T) (i : Nat) (h : i < l.length) : Prop where
 a : Rn.name (txt l[i].cat) = true
 b : ∀ q : 0 < i,Iv.lt (l[i - 1]'(by omega)).cat l[i].cat = true
 c : Sh.taxE l[i].net l[i].bp = 0
 d : Sh.taxV l[i].net l[i].bp = l[i].tax
def Bl.PartR (l : List Pt.T) : Prop := l ≠ [] ∧ l.length ≤ 12 ∧ ∀ i (h : i < l.length),Rn.name (txt l[i].cat) = true ∧ (∀ q : 0 < i,Iv.lt (l[i - 1]'(by omega)).cat l[i].cat = true) ∧ Sh.taxE l[i].net l[i].bp = 0 ∧ Sh.taxV l[i].net l[i].bp = l[i].tax
def Bl.PartK (l : List Pt.T) (k : Nat) : Prop := ∀ i (h : i < l.length),i < k → Rn.name (txt l[i].cat) = true ∧ (∀ q : 0 < i,Iv.lt (l[i - 1]'(by omega)).cat l[i].cat = true) ∧ Sh.taxE l[i].net l[i].bp = 0 ∧ Sh.taxV l[i].net l[i].bp = l[i].tax
theorem Bl.part_step {l : List Pt.T} {k : Nat} (h : Bl.PartK l k) (hk : k < l.length) (p : Rn.name (txt l[k].cat) = true ∧ (∀ q : 0 < k,Iv.lt (l[k - 1]'(by omega)).cat l[k].cat = true)) (t : Sh.taxE l[k].net l[k].bp = 0 ∧ Sh.taxV l[k].net l[k].bp = l[k].tax) : Bl.PartK l (k + 1) := by
 intro i hi hik
 by_cases e : i = k
 ·
  subst e
  exact ⟨p.1,p.2,t.1,t.2⟩
 · exact h i hi (by omega)
theorem Bl.sorted_adj {l : List Pt.T} : (∀ i (h : i < l.length),∀ q : 0 < i,Iv.lt (l[i - 1]'(by omega)).cat l[i].cat = true) ↔ Iv.Sorted l := by
 constructor
 ·
  intro h
  have key : ∀ d i (hi : i + d + 1 < l.length),Iv.lt (l[i]'(by omega)).cat l[i + d + 1].cat = true := by
   intro d
   induction d with
   | zero =>
    intro i hi
    exact h (i + 0 + 1) hi (by omega)
   | succ d ih =>
    intro i hi
    exact Iv.lt_trans (ih i (by omega)) (h (i + (d + 1) + 1) hi (by omega))
  refine List.pairwise_iff_getElem.2 fun i j hi hj hij => ?_
  have := key (j - i - 1) i (by omega)
  have e : i + (j - i - 1) + 1 = j := by omega
  simp only [e] at this
  exact this
 ·
  intro h i hi q
  exact List.pairwise_iff_getElem.1 h (i - 1) i (by omega) hi (by omega)
theorem Bl.part_tot {t : Iv.Tot} : Bl.TotR t ↔ Bl.PartR t.parts ∧ t.net = Bl.netsP t.parts ∧ t.tax = Bl.taxesP t.parts ∧ t.gross = t.net + t.tax ∧ Mn.Fit t.net ∧ Mn.Fit t.tax ∧ Mn.Fit t.gross := by
 constructor
 ·
  intro h
  refine ⟨⟨h.some,h.few,fun i hi => ?_⟩,h.net,h.tax,h.gross,h.fit.1,h.fit.2.1,h.fit.2.2⟩
  have he := h.each _ (List.getElem_mem hi)
  exact ⟨he.1,Bl.sorted_adj.2 h.so i hi,he.2.2.2.1,he.2.2.2.2⟩
 ·
  rintro ⟨⟨h1,h2,h3⟩,h4,h5,h6,h7⟩
  refine ⟨h1,h2,fun p hp => ?_,Bl.sorted_adj.1 fun i hi => (h3 i hi).2.1,h4,h5,h6,h7⟩
  obtain ⟨i,hi,rfl⟩ := List.getElem_of_mem hp
  have he := h3 i hi
  have hr : Sh.Right t.parts[i].bp := by
   have := he.2.2.1
   unfold Sh.taxE at this
   split at this
   · assumption
   · omega
  exact ⟨he.1,hr.1,hr.2,he.2.2.1,he.2.2.2⟩
def AnsU (f : FuncId) (args : Array Value) (u : World) (i : Nat) (os : Array Obj) (v : Value) : Prop :=
 Calls Tryz.prog f args (grow (redrawn u i) os) fun e w'' => e = .returned v ∧ ∃ p : Regrown,w'' = grow (redrawn u p.d) p.os
theorem name_agU (s : ByteArray) (hs : s.size ≤ 140737488355328) (u : World) (i : Nat) (os : Array Obj) : AnsU 112 #[.string s] u i os (.bool (Rn.name (txt s))) :=
 Calls.regrown_of (name_gen s _ _ (Below.refl _ _) hs)
set_option maxHeartbeats 4000000 in
theorem bil_parted (ls : List Pt.T) (ao : Option Addr) (n cap : Nat) (w0 w : World) (hw : Below w0.heap.size w0 w) (hL : Pt.Ls w ao n cap ls) :
  Calls Tryz.prog 76 #[.slice ao n cap] w (Bl.YesE w0 (Bl.PartR ls)) := by
 have HW := Lib.hid hw
 have HL := Lib.hid hL
 have HN := Lib.hid hL.len
 have hcap := hL.reach
 have hfit := hL.fits
 clear hL hw
 by_cases hn1 : n < 1
 ·
  have d1 : decide ((n : Int) < 1) = true := decide_eq_true (by omega)
  have HNo : Hid (¬ Bl.PartR ls) := Lib.hid fun z => z.1 (List.length_eq_zero_iff.1 (by have := HN.out; omega))
  clear hn1
  go_enter Tryz.func76,Tryz.ntmps76
  go_wp2
  go_ret
  exact ⟨.inr ⟨HNo.out,rfl⟩,HW.out⟩
 ·
  have d1 : decide ((n : Int) < 1) = false := decide_eq_false (by omega)
  by_cases hn2 : 12 < n
  ·
   have d2 : decide ((12 : Int) < n) = true := decide_eq_true (by omega)
   have HNo : Hid (¬ Bl.PartR ls) := Lib.hid fun z => by have := z.2.1; have := HN.out; omega
   go_enter Tryz.func76,Tryz.ntmps76
   go_wp2
   go_ret
   exact ⟨.inr ⟨HNo.out,rfl⟩,HW.out⟩
  ·
   have d2 : decide ((12 : Int) < n) = false := decide_eq_false (by omega)
   have HLe : Hid (0 < n ∧ n ≤ 12) := Lib.hid ⟨by omega,by omega⟩
   go_enter Tryz.func76,Tryz.ntmps76
   go_wp2
   go_loopw [3,4,5,6,17] (fun _ _ _ _ j wr => ∃ k : Nat,k ≤ n ∧ j = .int .i64 k ∧ Hid (Bl.PartK ls k) ∧ Hid (Below w.heap.size w wr)) (fun _ _ _ _ j _ => n - (intOf j).toNat)
   case atStart => exact ⟨0,by omega,rfl,Lib.hid (fun i _ h => absurd h (Nat.not_lt_zero _)),Lib.hid (Below.refl _ _)⟩
   case round =>
    obtain ⟨k,hk,rfl,HT,HB⟩ := hrel
    by_cases hlt : k < n
    ·
     obtain ⟨b,off,rfl⟩ := HL.out.at (by omega)
     have hkl : k < ls.length := HN.out ▸ hlt
     obtain ⟨r,hr⟩ : ∃ r,ls[k] = r := ⟨_,rfl⟩
     have HRr := Lib.hid hr
     have hrow := (HL.out.row k hkl).below HB.out
     have HSh := Lib.hid (HL.out.short _ (List.getElem_mem hkl))
     rw [hr] at hrow HSh
     clear hr
     obtain ⟨g0,g1,g2,g3⟩ := hrow
     obtain ⟨W,hW,hbW,hA⟩ := Pt.boxed1 wr r
     have HBW := Lib.hid (bchain HB.out hbW)
     have HCW := Lib.hid hA
     clear hbW
     unfold Pt.C at hA
     obtain ⟨a0,a1,a2,a3⟩ := hA
     have k0 := cell_regrown a0
     have k1 := cell_regrown a1
     have k2 := cell_regrown a2
     have k3 := cell_regrown a3
     have c1 := fun i os => name_agU r.cat HSh.out.1 W i os
     cases he : Rn.name (txt r.cat)
     ·
      rw [he] at c1
      have HNo : Hid (¬ Bl.PartR ls) := Lib.hid fun z => by have := (z.2.2 _ hkl).1; rw [HRr.out,he] at this; cases this
      clear he
      go_wp2
      refine wp_region_quiet_below (by kernel_rfl) (by kernel_rfl) ?_
      repeat (first | go_big_quiet_step (first | (go_at_call 112; exact c1 _ _)) | quiet_step (first | (go_at_call 112; exact c1 _ _)))
      refine wpQuiet_nil ?_
      intro _ hw'
      obtain ⟨⟨dq,osq⟩,hw''⟩ := hw'
      subst hw''
      have HBv := Lib.hid (bchain HBW.out (below_regrown W dq osq))
      have HCv := Lib.hid (HCW.out.below (below_regrown W dq osq))
      go_wp2
      go_ret
      exact ⟨.inr ⟨HNo.out,rfl⟩,bchain HW.out HBv.out⟩
     ·
      rw [he] at c1
      have HNm := Lib.hid he
      clear he
      by_cases hk0 : k = 0
      ·
       subst hk0
       simp only [Nat.zero_mul,Nat.add_zero] at g0 g1 g2 g3
       have HP : Hid (Rn.name (txt ls[0].cat) = true ∧ (∀ q : 0 < 0,Iv.lt (ls[0 - 1]'(by omega)).cat ls[0].cat = true)) := Lib.hid ⟨by rw [HRr.out]; exact HNm.out,fun q => absurd q (Nat.lt_irrefl _)⟩
       go_wp2
       refine wp_region_quiet_below (by kernel_rfl) (by kernel_rfl) ?_
       repeat (first | go_big_quiet_step (first | (go_at_call 112; exact c1 _ _)) | quiet_step (first | (go_at_call 112; exact c1 _ _)))
       refine wpQuiet_nil ?_
       intro _ hw'
       obtain ⟨⟨dq,osq⟩,hw''⟩ := hw'
       subst hw''
       have HBv := Lib.hid (bchain HBW.out (below_regrown W dq osq))
       have HCv := Lib.hid (HCW.out.below (below_regrown W dq osq))
       clear a0 a1 a2 a3 k0 k1 k2 k3 g0 g1 g2 g3 c1
       have hCv := HCv.out
       unfold Pt.C at hCv
       obtain ⟨e0,e1,e2,e3⟩ := hCv
       generalize grow (redrawn W dq) osq = V at *
       go_wp2_with fail
       refine (tax_any r.net r.bp V V (Below.refl _ _) HSh.out.2.2.1 HSh.out.2.1).mono ?_
       rintro e w2 ⟨rfl,b2⟩
       have HB2 := Lib.hid (bchain HBv.out b2)
       have hC2 := HCv.out.below b2
       unfold Pt.C at hC2
       clear e0 e1 e2 e3 b2
       obtain ⟨e0,e1,e2,e3⟩ := hC2
       unfold both
       by_cases t0 : Sh.taxE r.net r.bp = 0
       ·
        rw [t0]
        by_cases t1 : Sh.taxV r.net r.bp = r.tax
        ·
         have q1 : (Sh.taxV r.net r.bp == r.tax) = true := beq_iff_eq.2 t1
         have HYes := Lib.hid (Bl.part_step HT.out hkl HP.out (by rw [HRr.out]; exact ⟨t0,t1⟩))
         obtain ⟨tv,htv⟩ : ∃ tv,Sh.taxV r.net r.bp = tv := ⟨_,rfl⟩
         rw [htv] at q1 ⊢
         clear htv t0 t1
         go_wp2
         go_roundw
         case rel => exact ⟨1,by omega,by go_num,HYes,HB2⟩
         case measure => simp [intOf]; omega
        ·
         have q1 : (Sh.taxV r.net r.bp == r.tax) = false := beq_eq_false_iff_ne.2 t1
         have HNo : Hid (¬ Bl.PartR ls) := Lib.hid fun z => t1 (by have := (z.2.2 _ hkl).2.2.2; rw [HRr.out] at this; exact this)
         obtain ⟨tv,htv⟩ : ∃ tv,Sh.taxV r.net r.bp = tv := ⟨_,rfl⟩
         rw [htv] at q1 ⊢
         clear htv t0 t1
         go_wp2
         go_ret
         exact ⟨.inr ⟨HNo.out,rfl⟩,bchain HW.out HB2.out⟩
       ·
        have q1 : (Sh.taxE r.net r.bp == 0) = false := beq_eq_false_iff_ne.2 t0
        have HNo : Hid (¬ Bl.PartR ls) := Lib.hid fun z => t0 (by have := (z.2.2 _ hkl).2.2.1; rw [HRr.out] at this; exact this)
        obtain ⟨te,hte⟩ : ∃ te,Sh.taxE r.net r.bp = te := ⟨_,rfl⟩
        rw [hte] at q1 ⊢
        obtain ⟨tv,htv⟩ : ∃ tv,Sh.taxV r.net r.bp = tv := ⟨_,rfl⟩
        rw [htv]
        clear htv hte t0
        go_wp2
        go_ret
        exact ⟨.inr ⟨HNo.out,rfl⟩,bchain HW.out HB2.out⟩
      ·
       obtain ⟨j,rfl⟩ : ∃ j,k = j + 1 := ⟨k - 1,by omega⟩
       have hjr : j < ls.length := by omega
       obtain ⟨q,hq⟩ : ∃ q,ls[j] = q := ⟨_,rfl⟩
       have hrow2 := (HL.out.row j hjr).below HBW.out
       rw [hq] at hrow2
       have HQ := Lib.hid hq
       obtain ⟨f0,f1,f2,f3⟩ := hrow2
       have m0 := cell_regrown f0
       have m1 := cell_regrown f1
       have m2 := cell_regrown f2
       have m3 := cell_regrown f3
       have hjs : ((j + 1 : Nat) : Int) - 1 = (j : Int) := by omega
       clear hq hk0
       cases hlt2 : Op.bytesLess q.cat.toList r.cat.toList
       ·
        have HNo : Hid (¬ Bl.PartR ls) := Lib.hid fun z => by
         have h := (z.2.2 _ hkl).2.1 (by omega)
         simp only [Nat.add_sub_cancel,HQ.out,HRr.out] at h
         unfold Iv.lt at h
         rw [hlt2] at h
         cases h
        go_wp2
        refine wp_region_quiet_below (by kernel_rfl) (by kernel_rfl) ?_
        repeat (first | go_big_quiet_step (first | (go_at_call 112; exact c1 _ _)) | quiet_step (first | (go_at_call 112; exact c1 _ _)))
        refine wpQuiet_nil ?_
        intro _ hw'
        obtain ⟨⟨dq,osq⟩,hw''⟩ := hw'
        subst hw''
        have HBv := Lib.hid (bchain HBW.out (below_regrown W dq osq))
        have HCv := Lib.hid (HCW.out.below (below_regrown W dq osq))
        go_wp2
        go_ret
        exact ⟨.inr ⟨HNo.out,rfl⟩,bchain HW.out HBv.out⟩
       ·
        have HP : Hid (Rn.name (txt ls[j + 1].cat) = true ∧ (∀ q : 0 < j + 1,Iv.lt (ls[j + 1 - 1]'(by omega)).cat ls[j + 1].cat = true)) := Lib.hid ⟨by rw [HRr.out]; exact HNm.out,fun _ => by
         simp only [Nat.add_sub_cancel,HQ.out,HRr.out]
         exact hlt2⟩
        go_wp2
        refine wp_region_quiet_below (by kernel_rfl) (by kernel_rfl) ?_
        repeat (first | go_big_quiet_step (first | (go_at_call 112; exact c1 _ _)) | quiet_step (first | (go_at_call 112; exact c1 _ _)))
        refine wpQuiet_nil ?_
        intro _ hw'
        obtain ⟨⟨dq,osq⟩,hw''⟩ := hw'
        subst hw''
        have HBv := Lib.hid (bchain HBW.out (below_regrown W dq osq))
        have HCv := Lib.hid (HCW.out.below (below_regrown W dq osq))
        clear a0 a1 a2 a3 k0 k1 k2 k3 g0 g1 g2 g3 c1
        have hCv := HCv.out
        unfold Pt.C at hCv
        obtain ⟨e0,e1,e2,e3⟩ := hCv
        generalize grow (redrawn W dq) osq = V at *
        go_wp2_with fail
        refine (tax_any r.net r.bp V V (Below.refl _ _) HSh.out.2.2.1 HSh.out.2.1).mono ?_
        rintro e w2 ⟨rfl,b2⟩
        have HB2 := Lib.hid (bchain HBv.out b2)
        have hC2 := HCv.out.below b2
        unfold Pt.C at hC2
        clear e0 e1 e2 e3 b2
        obtain ⟨e0,e1,e2,e3⟩ := hC2
        unfold both
        by_cases t0 : Sh.taxE r.net r.bp = 0
        ·
         rw [t0]
         by_cases t1 : Sh.taxV r.net r.bp = r.tax
         ·
          have q1 : (Sh.taxV r.net r.bp == r.tax) = true := beq_iff_eq.2 t1
          have HYes := Lib.hid (Bl.part_step HT.out hkl HP.out (by rw [HRr.out]; exact ⟨t0,t1⟩))
          obtain ⟨tv,htv⟩ : ∃ tv,Sh.taxV r.net r.bp = tv := ⟨_,rfl⟩
          rw [htv] at q1 ⊢
          clear htv t0 t1
          go_wp2
          go_roundw
          case rel => exact ⟨j + 1 + 1,by omega,by go_num,HYes,HB2⟩
          case measure => simp [intOf]; omega
         ·
          have q1 : (Sh.taxV r.net r.bp == r.tax) = false := beq_eq_false_iff_ne.2 t1
          have HNo : Hid (¬ Bl.PartR ls) := Lib.hid fun z => t1 (by have := (z.2.2 _ hkl).2.2.2; rw [HRr.out] at this; exact this)
          obtain ⟨tv,htv⟩ : ∃ tv,Sh.taxV r.net r.bp = tv := ⟨_,rfl⟩
          rw [htv] at q1 ⊢
          clear htv t0 t1
          go_wp2
          go_ret
          exact ⟨.inr ⟨HNo.out,rfl⟩,bchain HW.out HB2.out⟩
        ·
         have q1 : (Sh.taxE r.net r.bp == 0) = false := beq_eq_false_iff_ne.2 t0
         have HNo : Hid (¬ Bl.PartR ls) := Lib.hid fun z => t0 (by have := (z.2.2 _ hkl).2.2.1; rw [HRr.out] at this; exact this)
         obtain ⟨te,hte⟩ : ∃ te,Sh.taxE r.net r.bp = te := ⟨_,rfl⟩
         rw [hte] at q1 ⊢
         obtain ⟨tv,htv⟩ : ∃ tv,Sh.taxV r.net r.bp = tv := ⟨_,rfl⟩
         rw [htv]
         clear htv hte t0
         go_wp2
         go_ret
         exact ⟨.inr ⟨HNo.out,rfl⟩,bchain HW.out HB2.out⟩
    ·
     obtain rfl : k = n := by omega
     have HYes : Hid (Bl.PartR ls) := Lib.hid ⟨fun z => (by have h := HN.out; have h2 := HLe.out.1; rw [z] at h; have h3 : k = 0 := h; omega),by have := HN.out; have := HLe.out; omega,fun i hi => HT.out i hi (by have := HN.out; omega)⟩
     go_wp2
     go_ret
     exact ⟨.inl ⟨HYes.out,rfl⟩,bchain HW.out HB.out⟩
end Go.Proofs.YtillcleccjgocaaGreat
namespace Go.Proofs.YtillcleccjgocaaGreat
open Go.RowKit
open Mem
open Go.Sort (grow)
def Bl.Wk (u : World) (g : Nat) (s : Int) : Prop := u.heap[g]? = some (.cells #[.int .u64 (Bl.hiW s),.int .u64 (Bl.loW s)] 188 (0,0))
theorem Bl.Wk.lt {u : World} {g : Nat} {s : Int} (h : Bl.Wk u g s) : g < u.heap.size := by
 obtain ⟨hl,_⟩ := Array.getElem?_eq_some_iff.1 h
 exact hl
theorem Bl.Wk.below {u v : World} {g : Nat} {s : Int} (h : Bl.Wk u g s) (b : Below u.heap.size u v) : Bl.Wk v g s := (b.block g h.lt).trans h
theorem Bl.infoW : (Tryz.prog.info? 188).map (·.size) = some 2 := by kernel_rfl
theorem Bl.Wk.cells {u : World} {g : Nat} {s : Int} (h : Bl.Wk u g s) : u.cell? ⟨g,0,none⟩ = some (.int .u64 (Bl.hiW s)) ∧ u.cell? ⟨g,1,none⟩ = some (.int .u64 (Bl.loW s)) := by
 refine ⟨?_,?_⟩
 all_goals
  rw [cell_of_row u g _ _ _ _ h]
  rfl
def Bl.layW (w : World) (g : Nat) (s : Int) : World := w.setRow g #[.int .u64 (Bl.hiW s),.int .u64 (Bl.loW s)]
theorem Bl.Wk.lay {w : World} {g : Nat} {s0 : Int} (h : Bl.Wk w g s0) (s : Int) : Bl.Wk (Bl.layW w g s) g s := setRow_heap w g _ _ 188 _ h
theorem Bl.Wk.other {w : World} {g b : Nat} {s : Int} (hA : Bl.Wk w g s) (hne : g ≠ b) (vs : Array Value) : Bl.Wk (w.setRow b vs) g s := (setRow_other w b g vs hne).trans hA
section
variable {ops : Array Oper} {o : Oper} {a : Act} {w : World} {K : Act → World → Prop} {Q : Exit → Act → World → Prop} {E : Prop} {S : World → Prop} {t : Tmp} {g : Nat}
theorem Bl.y_wide {s : Int} (hgd : o.guard = none) (ho : o.op = .load 188 (.tmp t)) (hp : a.tmps.toList[t]? = some (.pointer (some ⟨g,0,none⟩))) (hS : ∀ u,S u → Bl.Wk u g s) : YieldsIf Tryz.prog ops S o (.agg #[.int .u64 (Bl.hiW s),.int .u64 (Bl.loW s)]) a := by
 refine .inl ⟨by simp [Region.wanted,hgd],fun u hu => ?_⟩
 have e := run_loadVar_row (P := Tryz.prog) u g 188 188 #[.int .u64 (Bl.hiW s),.int .u64 (Bl.loW s)] (0,0) _ (hS u hu) Tryz.underlying188 rfl (by rw [Bl.infoW]; rfl)
 simp only [execOp,ho,Ca.evT hp,Instr.loadAt,Instr.sureAddr,Sem.run_bind,Sem.run_pure,Result.andThen_ok,e]
theorem Bl.y_pnet (hgd : o.guard = none) (ho : o.op = .fieldAddr 134 (.tmp t) 2) (hp : a.tmps.toList[t]? = some (.pointer (some ⟨g,0,none⟩))) : YieldsIf Tryz.prog ops S o (.pointer (some ⟨g,2,none⟩)) a := by
 refine .inl ⟨by simp [Region.wanted,hgd],fun u _ => ?_⟩
 simp only [execOp,ho,Ca.evT hp]
 simp [go_sem]
theorem Bl.y_ptax (hgd : o.guard = none) (ho : o.op = .fieldAddr 134 (.tmp t) 3) (hp : a.tmps.toList[t]? = some (.pointer (some ⟨g,0,none⟩))) : YieldsIf Tryz.prog ops S o (.pointer (some ⟨g,3,none⟩)) a := by
 refine .inl ⟨by simp [Region.wanted,hgd],fun u _ => ?_⟩
 simp only [execOp,ho,Ca.evT hp]
 simp [go_sem]
theorem Bl.y_intT {k : Nat} {n : Int} (hgd : o.guard = none) (ho : o.op = .load 3 (.tmp t)) (hp : a.tmps.toList[t]? = some (.pointer (some ⟨g,k,none⟩))) (hS : ∀ u,S u → u.cell? ⟨g,k,none⟩ = some (.int .i64 n)) : YieldsIf Tryz.prog ops S o (.int .i64 n) a := by
 refine .inl ⟨by simp [Region.wanted,hgd],fun u hu => ?_⟩
 have h := hS u hu
 simp only [execOp,ho,Ca.evT hp]
 simp [go_sem,h]
theorem Bl.step_wide {x y : Tmp} {s0 s : Int} (hgd : o.guard = none) (ho : o.op = .store 188 (.tmp x) (.tmp y)) (hd : o.dst = none) (hx : a.tmps.toList[x]? = some (.pointer (some ⟨g,0,none⟩))) (hy : a.tmps.toList[y]? = some (.agg #[.int .u64 (Bl.hiW s),.int .u64 (Bl.loW s)])) (hA : Bl.Wk w g s0)
  (k : K a (Bl.layW w g s)) : if Region.wanted o (yielded ops a.tmps) = true then Oper.wp Tryz.prog o a w K Q else E := by
 have hw : Region.wanted o (yielded ops a.tmps) = true := by simp [Region.wanted,hgd]
 rw [if_pos hw]
 refine wp_store_row 188 (.tmp x) (.tmp y) ho g #[.int .u64 (Bl.hiW s),.int .u64 (Bl.loW s)] (Ca.evT hx) (Ca.evT hy) 188 #[.int .u64 (Bl.hiW s0),.int .u64 (Bl.loW s0)] hA (by rw [Bl.infoW]; rfl) rfl (by simp [Value.oneCell']) ?_
 rw [hd]
 exact k
end
def Bl.wG (ops : Array Oper) (i : Nat) (l : List Bool) (D : List Nat) : Bool := waitsG .any ops 8 i D && openG l.toArray D
def Bl.chk10 (ops : Array Oper) : Bool := Region.noSelect ops && Bl.tk ops [false,false,false,false,false,false,false,false,false,false] 0 && Bl.tk ops [true,false,false,false,false,false,false,false,false,false] 1 && Bl.tk ops [true,true,false,false,false,false,false,false,false,false] 2 && Bl.tk ops [true,true,true,false,false,false,false,false,false,false] 4 && Bl.tk ops [true,true,true,false,true,false,false,false,false,false] 5 && Bl.tk ops [true,true,true,false,true,true,false,false,false,false] 6 && Bl.wG ops 0 [false,false,false,false,false,false,false,false,false,false] [8,9] && Bl.wG ops 1 [true,false,false,false,false,false,false,false,false,false] [8,9] && Bl.wG ops 2 [true,true,false,false,false,false,false,false,false,false] [8,9] && Bl.wG ops 4 [true,true,true,false,false,false,false,false,false,false] [7,8,9] && Bl.wG ops 5 [true,true,true,false,true,false,false,false,false,false] [6,7,8,9] && Bl.wG ops 6 [true,true,true,false,true,true,false,false,false,false] [7,8,9] && (Region.ready .any ops [true,true,true,false,true,true,true,false,false,false].toArray == [3]) && (Region.ready .any ops [true,true,true,true,true,true,true,false,false,false].toArray == [7]) && (Region.ready .any ops [true,true,true,true,true,true,true,true,false,false].toArray == [8]) && (Region.ready .any ops [true,true,true,true,true,true,true,true,true,false].toArray == [9]) && (Region.ready .any ops [true,true,true,true,true,true,true,true,true,true].toArray == [])
theorem Bl.chk10_iff (ops : Array Oper) : Bl.chk10 ops = true ↔ (((((((((((((((((Region.noSelect ops = true) ∧ (Bl.tk ops [false,false,false,false,false,false,false,false,false,false] 0 = true)) ∧ (Bl.tk ops [true,false,false,false,false,false,false,false,false,false] 1 = true)) ∧ (Bl.tk ops [true,true,false,false,false,false,false,false,false,false] 2 = true)) ∧ (Bl.tk ops [true,true,true,false,false,false,false,false,false,false] 4 = true)) ∧ (Bl.tk ops [true,true,true,false,true,false,false,false,false,false] 5 = true)) ∧ (Bl.tk ops [true,true,true,false,true,true,false,false,false,false] 6 = true)) ∧ (Bl.wG ops 0 [false,false,false,false,false,false,false,false,false,false] [8,9] = true)) ∧ (Bl.wG ops 1 [true,false,false,false,false,false,false,false,false,false] [8,9] = true)) ∧ (Bl.wG ops 2 [true,true,false,false,false,false,false,false,false,false] [8,9] = true)) ∧ (Bl.wG ops 4 [true,true,true,false,false,false,false,false,false,false] [7,8,9] = true)) ∧ (Bl.wG ops 5 [true,true,true,false,true,false,false,false,false,false] [6,7,8,9] = true)) ∧ (Bl.wG ops 6 [true,true,true,false,true,true,false,false,false,false] [7,8,9] = true)) ∧ (Region.ready .any ops [true,true,true,false,true,true,true,false,false,false].toArray = [3])) ∧ (Region.ready .any ops [true,true,true,true,true,true,true,false,false,false].toArray = [7])) ∧ (Region.ready .any ops [true,true,true,true,true,true,true,true,false,false].toArray = [8])) ∧ (Region.ready .any ops [true,true,true,true,true,true,true,true,true,false].toArray = [9])) ∧ (Region.ready .any ops [true,true,true,true,true,true,true,true,true,true].toArray = []) := by
 unfold Bl.chk10
 repeat rw [Bool.and_eq_true]
 simp only [beq_iff_eq]
theorem Bl.wp_sum {id : Nat} {o0 o1 o2 o3 o4 o5 o6 o7 o8 o9 : Oper} {a : Act} {w : World} {Q : Exit → Act → World → Prop} {S : World → Prop} (N T x y : Int) (v1 v5 : Value) (g3 g4 : Nat) {ty3 ty7 : Array TypeId} {a3 b3 a7 b7 x8 y8 x9 y9 : Tmp} (hx : Fit x) (hy : Fit y) (hSB : ∀ u,Below w.heap.size w u → S u) (hA : Bl.Wk w g3 N) (hB : Bl.Wk w g4 T) (hn : g3 ≠ g4) (hc : Bl.chk10 #[o0,o1,o2,o3,o4,o5,o6,o7,o8,o9] = true)
  (y0h : YieldsIf Tryz.prog #[o0,o1,o2,o3,o4,o5,o6,o7,o8,o9] S o0 (.agg #[.int .u64 (Bl.hiW N),.int .u64 (Bl.loW N)]) a) (q0 : ∀ c a w,Q (.panic c) (Act.put a o0.dst (.agg #[.int .u64 (Bl.hiW N),.int .u64 (Bl.loW N)])) w → Q (.panic c) a w) (y1h : YieldsIf Tryz.prog #[o0,o1,o2,o3,o4,o5,o6,o7,o8,o9] S o1 v1 (a.put o0.dst (.agg #[.int .u64 (Bl.hiW N),.int .u64 (Bl.loW N)]))) (q1 : ∀ c a w,Q (.panic c) (Act.put a o1.dst v1) w → Q (.panic c) a w) (y2h : YieldsIf Tryz.prog #[o0,o1,o2,o3,o4,o5,o6,o7,o8,o9] S o2 (.int .i64 x) ((a.put o0.dst (.agg #[.int .u64 (Bl.hiW N),.int .u64 (Bl.loW N)])).put o1.dst v1)) (q2 : ∀ c a w,Q (.panic c) (Act.put a o2.dst (.int .i64 x)) w → Q (.panic c) a w) (y4h : YieldsIf Tryz.prog #[o0,o1,o2,o3,o4,o5,o6,o7,o8,o9] S o4 (.agg #[.int .u64 (Bl.hiW T),.int .u64 (Bl.loW T)]) (((a.put o0.dst (.agg #[.int .u64 (Bl.hiW N),.int .u64 (Bl.loW N)])).put o1.dst v1).put o2.dst (.int .i64 x))) (q4 : ∀ c a w,Q (.panic c) (Act.put a o4.dst (.agg #[.int .u64 (Bl.hiW T),.int .u64 (Bl.loW T)])) w → Q (.panic c) a w) (y5h : YieldsIf Tryz.prog #[o0,o1,o2,o3,o4,o5,o6,o7,o8,o9] S o5 v5 ((((a.put o0.dst (.agg #[.int .u64 (Bl.hiW N),.int .u64 (Bl.loW N)])).put o1.dst v1).put o2.dst (.int .i64 x)).put o4.dst (.agg #[.int .u64 (Bl.hiW T),.int .u64 (Bl.loW T)]))) (q5 : ∀ c a w,Q (.panic c) (Act.put a o5.dst v5) w → Q (.panic c) a w) (y6h : YieldsIf Tryz.prog #[o0,o1,o2,o3,o4,o5,o6,o7,o8,o9] S o6 (.int .i64 y) (((((a.put o0.dst (.agg #[.int .u64 (Bl.hiW N),.int .u64 (Bl.loW N)])).put o1.dst v1).put o2.dst (.int .i64 x)).put o4.dst (.agg #[.int .u64 (Bl.hiW T),.int .u64 (Bl.loW T)])).put o5.dst v5)) (q6 : ∀ c a w,Q (.panic c) (Act.put a o6.dst (.int .i64 y)) w → Q (.panic c) a w)
  (hg3 : o3.guard = none) (ho3 : o3.op = .call { callee := .value (.func 118),args := #[.tmp a3,.tmp b3],argTypes := ty3 }) (e3 : ((((((a.put o0.dst (.agg #[.int .u64 (Bl.hiW N),.int .u64 (Bl.loW N)])).put o1.dst v1).put o2.dst (.int .i64 x)).put o4.dst (.agg #[.int .u64 (Bl.hiW T),.int .u64 (Bl.loW T)])).put o5.dst v5).put o6.dst (.int .i64 y)).tmps.toList[a3]? = some (.agg #[.int .u64 (Bl.hiW N),.int .u64 (Bl.loW N)])) (f3 : ((((((a.put o0.dst (.agg #[.int .u64 (Bl.hiW N),.int .u64 (Bl.loW N)])).put o1.dst v1).put o2.dst (.int .i64 x)).put o4.dst (.agg #[.int .u64 (Bl.hiW T),.int .u64 (Bl.loW T)])).put o5.dst v5).put o6.dst (.int .i64 y)).tmps.toList[b3]? = some (.int .i64 x))
  (hg7 : o7.guard = none) (ho7 : o7.op = .call { callee := .value (.func 118),args := #[.tmp a7,.tmp b7],argTypes := ty7 }) (e7 : (((((((a.put o0.dst (.agg #[.int .u64 (Bl.hiW N),.int .u64 (Bl.loW N)])).put o1.dst v1).put o2.dst (.int .i64 x)).put o4.dst (.agg #[.int .u64 (Bl.hiW T),.int .u64 (Bl.loW T)])).put o5.dst v5).put o6.dst (.int .i64 y)).put o3.dst (.agg #[.int .u64 (Bl.hiW (N + x)),.int .u64 (Bl.loW (N + x))])).tmps.toList[a7]? = some (.agg #[.int .u64 (Bl.hiW T),.int .u64 (Bl.loW T)])) (f7 : (((((((a.put o0.dst (.agg #[.int .u64 (Bl.hiW N),.int .u64 (Bl.loW N)])).put o1.dst v1).put o2.dst (.int .i64 x)).put o4.dst (.agg #[.int .u64 (Bl.hiW T),.int .u64 (Bl.loW T)])).put o5.dst v5).put o6.dst (.int .i64 y)).put o3.dst (.agg #[.int .u64 (Bl.hiW (N + x)),.int .u64 (Bl.loW (N + x))])).tmps.toList[b7]? = some (.int .i64 y))
  (hg8 : o8.guard = none) (ho8 : o8.op = .store 188 (.tmp x8) (.tmp y8)) (hd8 : o8.dst = none) (e8 : ((((((((a.put o0.dst (.agg #[.int .u64 (Bl.hiW N),.int .u64 (Bl.loW N)])).put o1.dst v1).put o2.dst (.int .i64 x)).put o4.dst (.agg #[.int .u64 (Bl.hiW T),.int .u64 (Bl.loW T)])).put o5.dst v5).put o6.dst (.int .i64 y)).put o3.dst (.agg #[.int .u64 (Bl.hiW (N + x)),.int .u64 (Bl.loW (N + x))])).put o7.dst (.agg #[.int .u64 (Bl.hiW (T + y)),.int .u64 (Bl.loW (T + y))])).tmps.toList[x8]? = some (.pointer (some ⟨g3,0,none⟩))) (f8 : ((((((((a.put o0.dst (.agg #[.int .u64 (Bl.hiW N),.int .u64 (Bl.loW N)])).put o1.dst v1).put o2.dst (.int .i64 x)).put o4.dst (.agg #[.int .u64 (Bl.hiW T),.int .u64 (Bl.loW T)])).put o5.dst v5).put o6.dst (.int .i64 y)).put o3.dst (.agg #[.int .u64 (Bl.hiW (N + x)),.int .u64 (Bl.loW (N + x))])).put o7.dst (.agg #[.int .u64 (Bl.hiW (T + y)),.int .u64 (Bl.loW (T + y))])).tmps.toList[y8]? = some (.agg #[.int .u64 (Bl.hiW (N + x)),.int .u64 (Bl.loW (N + x))]))
  (hg9 : o9.guard = none) (ho9 : o9.op = .store 188 (.tmp x9) (.tmp y9)) (hd9 : o9.dst = none) (e9 : ((((((((a.put o0.dst (.agg #[.int .u64 (Bl.hiW N),.int .u64 (Bl.loW N)])).put o1.dst v1).put o2.dst (.int .i64 x)).put o4.dst (.agg #[.int .u64 (Bl.hiW T),.int .u64 (Bl.loW T)])).put o5.dst v5).put o6.dst (.int .i64 y)).put o3.dst (.agg #[.int .u64 (Bl.hiW (N + x)),.int .u64 (Bl.loW (N + x))])).put o7.dst (.agg #[.int .u64 (Bl.hiW (T + y)),.int .u64 (Bl.loW (T + y))])).tmps.toList[x9]? = some (.pointer (some ⟨g4,0,none⟩))) (f9 : ((((((((a.put o0.dst (.agg #[.int .u64 (Bl.hiW N),.int .u64 (Bl.loW N)])).put o1.dst v1).put o2.dst (.int .i64 x)).put o4.dst (.agg #[.int .u64 (Bl.hiW T),.int .u64 (Bl.loW T)])).put o5.dst v5).put o6.dst (.int .i64 y)).put o3.dst (.agg #[.int .u64 (Bl.hiW (N + x)),.int .u64 (Bl.loW (N + x))])).put o7.dst (.agg #[.int .u64 (Bl.hiW (T + y)),.int .u64 (Bl.loW (T + y))])).tmps.toList[y9]? = some (.agg #[.int .u64 (Bl.hiW (T + y)),.int .u64 (Bl.loW (T + y))]))
  (k : ∀ u,Below w.heap.size w u → Q .normal ((((((((a.put o0.dst (.agg #[.int .u64 (Bl.hiW N),.int .u64 (Bl.loW N)])).put o1.dst v1).put o2.dst (.int .i64 x)).put o4.dst (.agg #[.int .u64 (Bl.hiW T),.int .u64 (Bl.loW T)])).put o5.dst v5).put o6.dst (.int .i64 y)).put o3.dst (.agg #[.int .u64 (Bl.hiW (N + x)),.int .u64 (Bl.loW (N + x))])).put o7.dst (.agg #[.int .u64 (Bl.hiW (T + y)),.int .u64 (Bl.loW (T + y))])) (Bl.layW (Bl.layW u g3 (N + x)) g4 (T + y))) :
  (Code.region id #[o0,o1,o2,o3,o4,o5,o6,o7,o8,o9] true).wp Tryz.prog Q a w := by
 rw [Bl.chk10_iff] at hc
 obtain ⟨⟨⟨⟨⟨⟨⟨⟨⟨⟨⟨⟨⟨⟨⟨⟨⟨c0,c1⟩,c2⟩,c3⟩,c4⟩,c5⟩,c6⟩,c7⟩,c8⟩,c9⟩,c10⟩,c11⟩,c12⟩,c13⟩,c14⟩,c15⟩,c16⟩,c17⟩ := hc
 have hw0 : Below w.heap.size w w.drew := (Below.refl _ _).drew
 have hH := hSB _ hw0
 refine Bl.startG (S := S) (x := 8) ?_
 show anyG Tryz.prog .any #[o0,o1,o2,o3,o4,o5,o6,o7,o8,o9] Q S 8 10 [false,false,false,false,false,false,false,false,false,false].toArray a w.drew
 refine Bl.tkG (i := 0) (oi := o0) rfl c0 c1 c7 q0 y0h hH ?_
 show anyG Tryz.prog .any #[o0,o1,o2,o3,o4,o5,o6,o7,o8,o9] Q S 8 9 [true,false,false,false,false,false,false,false,false,false].toArray _ _
 refine Bl.tkG (i := 1) (oi := o1) rfl c0 c2 c8 q1 y1h hH ?_
 show anyG Tryz.prog .any #[o0,o1,o2,o3,o4,o5,o6,o7,o8,o9] Q S 8 8 [true,true,false,false,false,false,false,false,false,false].toArray _ _
 refine Bl.tkG (i := 2) (oi := o2) rfl c0 c3 c9 q2 y2h hH ?_
 show anyG Tryz.prog .any #[o0,o1,o2,o3,o4,o5,o6,o7,o8,o9] Q S 8 7 [true,true,true,false,false,false,false,false,false,false].toArray _ _
 refine Bl.tkG (i := 4) (oi := o4) rfl c0 c4 c10 q4 y4h hH ?_
 show anyG Tryz.prog .any #[o0,o1,o2,o3,o4,o5,o6,o7,o8,o9] Q S 8 6 [true,true,true,false,true,false,false,false,false,false].toArray _ _
 refine Bl.tkG (i := 5) (oi := o5) rfl c0 c5 c11 q5 y5h hH ?_
 show anyG Tryz.prog .any #[o0,o1,o2,o3,o4,o5,o6,o7,o8,o9] Q S 8 5 [true,true,true,false,true,true,false,false,false,false].toArray _ _
 refine Bl.tkG (i := 6) (oi := o6) rfl c0 c6 c12 q6 y6h hH ?_
 show anyG Tryz.prog .any #[o0,o1,o2,o3,o4,o5,o6,o7,o8,o9] Q S 8 4 [true,true,true,false,true,true,true,false,false,false].toArray _ _
 refine Bl.oneG (i := 3) (oi := o3) rfl c13 (fun K hK => ?_)
 refine Bl.step_call hg3 (Bl.enters ho3 (vs := #[.agg #[.int .u64 (Bl.hiW N),.int .u64 (Bl.loW N)],.int .i64 x]) (by simp only [List.map_toArray,List.map_cons,List.map_nil,Ca.evT e3,Ca.evT f3]) Tryz.func118 (by kernel_rfl) rfl _) ((bil_plus N x w w.drew hw0 hx).mono ?_)
 rintro e u1 ⟨rfl,b1⟩
 refine ⟨_,rfl,hK.out _ _ (.inr (hSB _ b1)) ?_⟩
 clear hK K
 show anyG Tryz.prog .any #[o0,o1,o2,o3,o4,o5,o6,o7,o8,o9] Q S 8 3 [true,true,true,true,true,true,true,false,false,false].toArray _ _
 refine Bl.oneG (i := 7) (oi := o7) rfl c14 (fun K hK => ?_)
 refine Bl.step_call hg7 (Bl.enters ho7 (vs := #[.agg #[.int .u64 (Bl.hiW T),.int .u64 (Bl.loW T)],.int .i64 y]) (by simp only [List.map_toArray,List.map_cons,List.map_nil,Ca.evT e7,Ca.evT f7]) Tryz.func118 (by kernel_rfl) rfl _) ((bil_plus T y w u1 b1 hy).mono ?_)
 rintro e u2 ⟨rfl,b2⟩
 refine ⟨_,rfl,hK.out _ _ (.inr (hSB _ b2)) ?_⟩
 clear hK K
 show anyG Tryz.prog .any #[o0,o1,o2,o3,o4,o5,o6,o7,o8,o9] Q S 8 2 [true,true,true,true,true,true,true,true,false,false].toArray _ _
 refine Bl.oneG (i := 8) (oi := o8) rfl c15 (fun K hK => ?_)
 refine Bl.step_wide hg8 ho8 hd8 e8 f8 (hA.below b2) (hK.out _ _ (.inl (Nat.le_refl _)) ?_)
 clear hK K
 show anyG Tryz.prog .any #[o0,o1,o2,o3,o4,o5,o6,o7,o8,o9] Q S 8 1 [true,true,true,true,true,true,true,true,true,false].toArray _ _
 refine Bl.oneG (i := 9) (oi := o9) rfl c16 (fun K hK => ?_)
 refine Bl.step_wide hg9 ho9 hd9 e9 f9 ((hB.below b2).other (Ne.symm hn) _) (hK.out _ _ (.inl (by omega)) ?_)
 clear hK K
 exact anyG_done c17 (k u2 b2) _
def Bl.SumR (t : Iv.Tot) : Prop := t.net = Bl.netsP t.parts ∧ t.tax = Bl.taxesP t.parts ∧ t.gross = t.net + t.tax
theorem Bl.nets_take (l : List Pt.T) (k : Nat) (h : k < l.length) : Bl.netsP (l.take (k + 1)) = Bl.netsP (l.take k) + l[k].net := by
 induction l generalizing k with
 | nil => exact absurd h (Nat.not_lt_zero _)
 | cons p l ih =>
  cases k with
  | zero => simp [Bl.netsP]
  | succ k =>
   rw [List.take_succ_cons,List.take_succ_cons,Bl.netsP,Bl.netsP,ih k (by simpa using h),List.getElem_cons_succ]
   omega
theorem Bl.taxes_take (l : List Pt.T) (k : Nat) (h : k < l.length) : Bl.taxesP (l.take (k + 1)) = Bl.taxesP (l.take k) + l[k].tax := by
 induction l generalizing k with
 | nil => exact absurd h (Nat.not_lt_zero _)
 | cons p l ih =>
  cases k with
  | zero => simp [Bl.taxesP]
  | succ k =>
   rw [List.take_succ_cons,List.take_succ_cons,Bl.taxesP,Bl.taxesP,ih k (by simpa using h),List.getElem_cons_succ]
   omega
structure Bl.SmSt (w wr : World) (N X G : Int) (v : Value) (a b : Int) : Prop where
 bel : Below w.heap.size w wr
 tot : Tt.At wr w.heap.size N X G v
 s1 : Bl.Wk wr (w.heap.size + 1) a
 s2 : Bl.Wk wr (w.heap.size + 1 + 1) b
theorem Bl.SmSt.below {w wr v : World} {N X G : Int} {t : Value} {a b : Int} (h : Bl.SmSt w wr N X G t a b) (k : Below wr.heap.size wr v) : Bl.SmSt w v N X G t a b := ⟨bchain h.bel k,h.tot.below k,h.s1.below k,h.s2.below k⟩
theorem Bl.SmSt.lay {w wr : World} {N X G : Int} {t : Value} {a b : Int} (h : Bl.SmSt w wr N X G t a b) (a' b' : Int) : Bl.SmSt w (Bl.layW (Bl.layW wr (w.heap.size + 1) a') (w.heap.size + 1 + 1) b') N X G t a' b' :=
 ⟨below_setRow (below_setRow h.bel (by omega) _) (by omega) _,(setRow_other _ _ _ _ (by omega)).trans ((setRow_other _ _ _ _ (by omega)).trans h.tot),(h.s1.lay a').other (by omega) _,(h.s2.other (by omega) _).lay b'⟩
theorem plus_agU (s n : Int) (hn : Fit n) (u : World) (i : Nat) (os : Array Obj) : AnsU 118 #[.agg #[.int .u64 (Bl.hiW s),.int .u64 (Bl.loW s)],.int .i64 n] u i os (.agg #[.int .u64 (Bl.hiW (s + n)),.int .u64 (Bl.loW (s + n))]) :=
 Calls.regrown_of (bil_plus s n _ _ (Below.refl _ _) hn)
end Go.Proofs.YtillcleccjgocaaGreat
namespace Go.Proofs.YtillcleccjgocaaGreat
open Go.RowKit
open Mem
open Go.Sort (grow)
theorem Bl.w_zero : Bl.hiW 0 = 0 ∧ Bl.loW 0 = 0 := ⟨rfl,rfl⟩
theorem Bl.w_beq {a b : Int} (h : ¬ a = b) (ha : -170141183460469231731687303715884105728 ≤ a ∧ a < 170141183460469231731687303715884105728) (hb : -170141183460469231731687303715884105728 ≤ b ∧ b < 170141183460469231731687303715884105728) : (Bl.hiW a == Bl.hiW b) = false ∨ ((Bl.hiW a == Bl.hiW b) = true ∧ (Bl.loW a == Bl.loW b) = false) := by
 by_cases h1 : Bl.hiW a = Bl.hiW b
 · refine .inr ⟨beq_iff_eq.2 h1,beq_eq_false_iff_ne.2 fun h2 => h ((Bl.w_inj ha hb).1 ⟨h1,h2⟩)⟩
 · exact .inl (beq_eq_false_iff_ne.2 h1)
set_option maxHeartbeats 8000000 in
theorem bil_summed (t : Iv.Tot) (ao : Option Addr) (n cap : Nat) (w0 w : World) (hw : Below w0.heap.size w0 w) (hL : Pt.Ls w ao n cap t.parts) (hf : Fit t.net ∧ Fit t.tax ∧ Fit t.gross) (hn : n ≤ 1000) :
  Calls Tryz.prog 77 #[Tt.val t.net t.tax t.gross (.slice ao n cap)] w (Bl.YesE w0 (Bl.SumR t)) := by
 have HW := Lib.hid hw
 have HL := Lib.hid hL
 have HN := Lib.hid hL.len
 have HF := Lib.hid hf
 have hcap := hL.reach
 have hfit := hL.fits
 obtain ⟨U,hU,hB,k0,k1,k2,hs⟩ := Bl.al3 w (.cells #[.int .i64 t.net,.int .i64 t.tax,.int .i64 t.gross,.slice ao n cap] 98) (.cells #[.int .u64 0,.int .u64 0] 188) (.cells #[.int .u64 0,.int .u64 0] 188)
 have HS0 : Hid (Bl.SmSt w U t.net t.tax t.gross (.slice ao n cap) 0 0) := Lib.hid ⟨hB,k0,k1,k2⟩
 obtain ⟨x0,x1,x2,x3⟩ := HS0.out.tot.cells
 clear hL hw hf hB k0 k1 k2 hs
 unfold Tt.val
 go_enter Tryz.func77,Tryz.ntmps77
 go_wp2_with fail
 clear hU x0 x1 x2 x3
 go_loopw [6,10] (fun _ j wr => ∃ k : Nat,k ≤ n ∧ j = .int .i64 k ∧ Hid (Bl.SmSt w wr t.net t.tax t.gross (.slice ao n cap) (Bl.netsP (t.parts.take k)) (Bl.taxesP (t.parts.take k)) ∧ -((k : Int) * 9223372036854775808) ≤ Bl.netsP (t.parts.take k) ∧ Bl.netsP (t.parts.take k) ≤ (k : Int) * 9223372036854775808 ∧ -((k : Int) * 9223372036854775808) ≤ Bl.taxesP (t.parts.take k) ∧ Bl.taxesP (t.parts.take k) ≤ (k : Int) * 9223372036854775808)) (fun _ j _ => n - (intOf j).toNat)
 case atStart => exact ⟨0,by omega,rfl,Lib.hid ⟨HS0.out,by show -((0 : Int) * _) ≤ 0; omega,by show (0 : Int) ≤ 0 * _; omega,by show -((0 : Int) * _) ≤ 0; omega,by show (0 : Int) ≤ 0 * _; omega⟩⟩
 case round =>
  obtain ⟨k,hk,rfl,HR⟩ := hrel
  by_cases hlt : k < n
  ·
   obtain ⟨b,off,rfl⟩ := HL.out.at (by omega)
   have hkl : k < t.parts.length := HN.out ▸ hlt
   have HT1 := Lib.hid (Bl.nets_take t.parts k hkl)
   have HT2 := Lib.hid (Bl.taxes_take t.parts k hkl)
   have HSh := Lib.hid (HL.out.short _ (List.getElem_mem hkl))
   have hrow := (HL.out.row k hkl).below HR.out.1.bel
   obtain ⟨r,hr⟩ : ∃ r,t.parts[k] = r := ⟨_,rfl⟩
   rw [hr] at hrow HSh HT1 HT2
   clear hr
   obtain ⟨g0,g1,g2,g3⟩ := hrow
   obtain ⟨W,hW,hbW,hA⟩ := Pt.boxed1 wr r
   have HSW := Lib.hid (HR.out.1.below hbW)
   have HBd := Lib.hid HR.out.2
   have HCW := Lib.hid hA
   clear hbW hA
   generalize Bl.netsP (t.parts.take k) = A0 at *
   generalize Bl.taxesP (t.parts.take k) = B0 at *
   go_wp2_with fail
   clear hW
   refine Bl.wp_sum (S := fun u => Bl.Wk u (w.heap.size + 1) A0 ∧ Bl.Wk u (w.heap.size + 1 + 1) B0 ∧ Pt.C u wr.heap.size r) A0 B0 r.net r.tax (.pointer (some ⟨wr.heap.size,2,none⟩)) (.pointer (some ⟨wr.heap.size,3,none⟩)) (w.heap.size + 1) (w.heap.size + 1 + 1) HSh.out.2.2.1 HSh.out.2.2.2 ?_ HSW.out.s1 HSW.out.s2 (by omega) ?_ ?_ ?_ ?_ ?_ ?_ ?_ ?_ ?_ ?_ ?_ ?_ ?_ rfl rfl ?_ ?_ rfl rfl ?_ ?_ rfl rfl rfl ?_ ?_ rfl rfl rfl ?_ ?_ ?_
   ·
    intro u hb
    exact ⟨HSW.out.s1.below hb,HSW.out.s2.below hb,HCW.out.below hb⟩
   · kernel_rfl
   · exact Bl.y_wide (t := 3) rfl rfl (by kernel_rfl) fun u hu => hu.1
   · exact fun _ _ _ h => h
   · exact Bl.y_pnet (t := 6) rfl rfl (by kernel_rfl)
   · exact fun _ _ _ h => h
   · exact Bl.y_intT (t := 15) rfl rfl (by kernel_rfl) fun u hu => by have h := hu.2.2; unfold Pt.C at h; exact h.2.2.1
   · exact fun _ _ _ h => h
   · exact Bl.y_wide (t := 4) rfl rfl (by kernel_rfl) fun u hu => hu.2.1
   · exact fun _ _ _ h => h
   · exact Bl.y_ptax (t := 6) rfl rfl (by kernel_rfl)
   · exact fun _ _ _ h => h
   · exact Bl.y_intT (t := 19) rfl rfl (by kernel_rfl) fun u hu => by have h := hu.2.2; unfold Pt.C at h; exact h.2.2.2
   · exact fun _ _ _ h => h
   · kernel_rfl
   · kernel_rfl
   · kernel_rfl
   · kernel_rfl
   · kernel_rfl
   · kernel_rfl
   · kernel_rfl
   · kernel_rfl
   intro u hb
   have HS2 := Lib.hid ((HSW.out.below hb).lay (A0 + r.net) (B0 + r.tax))
   clear hb
   generalize Bl.layW (Bl.layW u (w.heap.size + 1) (A0 + r.net)) (w.heap.size + 1 + 1) (B0 + r.tax) = V at *
   go_wp2_with fail
   go_roundw
   case rel => exact ⟨k + 1,by omega,by go_num,Lib.hid ⟨by rw [HT1.out,HT2.out]; exact HS2.out,by rw [HT1.out]; have h1 := HBd.out; have h2 := HSh.out.2.2.1.1; omega,by rw [HT1.out]; have h1 := HBd.out; have h2 := HSh.out.2.2.1.2; omega,by rw [HT2.out]; have h1 := HBd.out; have h2 := HSh.out.2.2.2.1; omega,by rw [HT2.out]; have h1 := HBd.out; have h2 := HSh.out.2.2.2.2; omega⟩⟩
   case measure => simp [intOf]; omega
  ·
   obtain rfl : k = n := by omega
   have hEnd := HR.out
   rw [List.take_of_length_le (by rw [HN.out]; exact Nat.le_refl _)] at hEnd
   have HSt := Lib.hid hEnd.1
   have hbd : (-170141183460469231731687303715884105728 ≤ Bl.netsP t.parts ∧ Bl.netsP t.parts < 170141183460469231731687303715884105728) ∧ (-170141183460469231731687303715884105728 ≤ Bl.taxesP t.parts ∧ Bl.taxesP t.parts < 170141183460469231731687303715884105728) := by
    have h2 := hEnd.2
    have h3 : (k : Int) ≤ 1000 := by omega
    omega
   have HBn := Lib.hid hbd
   clear hEnd hbd
   obtain ⟨s0,s1⟩ := HSt.out.s1.cells
   obtain ⟨t0,t1⟩ := HSt.out.s2.cells
   obtain ⟨x0,x1,x2,x3⟩ := HSt.out.tot.cells
   have K0 := cell_regrown s0
   have K1 := cell_regrown s1
   have K2 := cell_regrown t0
   have K3 := cell_regrown t1
   have K4 := cell_regrown x0
   have K5 := cell_regrown x1
   have K6 := cell_regrown x2
   have K7 := cell_regrown x3
   have cN := fun i os => plus_agU 0 t.net HF.out.1 wr i os
   have cT := fun i os => plus_agU 0 t.tax HF.out.2.1 wr i os
   have cG := fun i os => plus_agU 0 t.gross HF.out.2.2 wr i os
   have cNT := fun i os => plus_agU (0 + t.net) t.tax HF.out.2.1 wr i os
   rw [Bl.w_zero.1,Bl.w_zero.2] at cN cT cG
   rw [Int.zero_add] at cN cT cG cNT
   have fn := HF.out.1
   have ft := HF.out.2.1
   have fg := HF.out.2.2
   have bn : -170141183460469231731687303715884105728 ≤ t.net ∧ t.net < 170141183460469231731687303715884105728 := ⟨by have := fn.1; omega,by have := fn.2; omega⟩
   have bt : -170141183460469231731687303715884105728 ≤ t.tax ∧ t.tax < 170141183460469231731687303715884105728 := ⟨by have := ft.1; omega,by have := ft.2; omega⟩
   have bg : -170141183460469231731687303715884105728 ≤ t.gross ∧ t.gross < 170141183460469231731687303715884105728 := ⟨by have := fg.1; omega,by have := fg.2; omega⟩
   have bs : -170141183460469231731687303715884105728 ≤ t.net + t.tax ∧ t.net + t.tax < 170141183460469231731687303715884105728 := ⟨by have := fn.1; have := ft.1; omega,by have := fn.2; have := ft.2; omega⟩
   clear s0 s1 t0 t1 x0 x1 x2 x3 fn ft fg
   have HX1 : Hid (¬ Bl.netsP t.parts = t.net → (Bl.hiW (Bl.netsP t.parts) == Bl.hiW t.net) = false ∨ ((Bl.hiW (Bl.netsP t.parts) == Bl.hiW t.net) = true ∧ (Bl.loW (Bl.netsP t.parts) == Bl.loW t.net) = false)) := Lib.hid fun z => Bl.w_beq z HBn.out.1 bn
   have HX2 : Hid (¬ Bl.taxesP t.parts = t.tax → (Bl.hiW (Bl.taxesP t.parts) == Bl.hiW t.tax) = false ∨ ((Bl.hiW (Bl.taxesP t.parts) == Bl.hiW t.tax) = true ∧ (Bl.loW (Bl.taxesP t.parts) == Bl.loW t.tax) = false)) := Lib.hid fun z => Bl.w_beq z HBn.out.2 bt
   have HX3 : Hid (¬ t.net + t.tax = t.gross → (Bl.hiW (t.net + t.tax) == Bl.hiW t.gross) = false ∨ ((Bl.hiW (t.net + t.tax) == Bl.hiW t.gross) = true ∧ (Bl.loW (t.net + t.tax) == Bl.loW t.gross) = false)) := Lib.hid fun z => Bl.w_beq z bs bg
   clear bn bt bg bs
   by_cases h1 : Bl.netsP t.parts = t.net
   ·
    rw [h1] at K0 K1
    by_cases h2 : Bl.taxesP t.parts = t.tax
    ·
     rw [h2] at K2 K3
     by_cases h3 : t.net + t.tax = t.gross
     ·
      have HYes : Hid (Bl.SumR t) := Lib.hid ⟨h1.symm,h2.symm,h3.symm⟩
      rw [h3] at cNT
      clear h1 h2 h3 HX1 HX2 HX3
      obtain ⟨a1,ha1⟩ : ∃ a1,Bl.hiW t.net = a1 := ⟨_,rfl⟩
      obtain ⟨b1,hb1⟩ : ∃ b1,Bl.loW t.net = b1 := ⟨_,rfl⟩
      obtain ⟨a2,ha2⟩ : ∃ a1,Bl.hiW t.tax = a1 := ⟨_,rfl⟩
      obtain ⟨b2,hb2⟩ : ∃ b1,Bl.loW t.tax = b1 := ⟨_,rfl⟩
      obtain ⟨a3,ha3⟩ : ∃ a1,Bl.hiW t.gross = a1 := ⟨_,rfl⟩
      obtain ⟨b3,hb3⟩ : ∃ b1,Bl.loW t.gross = b1 := ⟨_,rfl⟩
      rw [ha1] at K0
      rw [hb1] at K1
      rw [ha2] at K2
      rw [hb2] at K3
      rw [ha1,hb1] at cN cNT
      rw [ha2,hb2] at cT
      rw [ha3,hb3] at cNT cG
      clear ha1 hb1 ha2 hb2 ha3 hb3
      have r1 : (a1 == a1) = true := beq_self_eq_true _
      have r2 : (b1 == b1) = true := beq_self_eq_true _
      have r3 : (a2 == a2) = true := beq_self_eq_true _
      have r4 : (b2 == b2) = true := beq_self_eq_true _
      have r5 : (a3 == a3) = true := beq_self_eq_true _
      have r6 : (b3 == b3) = true := beq_self_eq_true _
      go_wp2
      refine wp_region_quiet_below (by kernel_rfl) (by kernel_rfl) ?_
      repeat (first | go_big_quiet_step (first | (go_at_call_of 118 a1; exact cNT _ _) | (go_at_call_of 118 (Value.int .i64 t.net); exact cN _ _) | (go_at_call_of 118 (Value.int .i64 t.tax); exact cT _ _) | (go_at_call_of 118 (Value.int .i64 t.gross); exact cG _ _)) | quiet_step (first | (go_at_call_of 118 a1; exact cNT _ _) | (go_at_call_of 118 (Value.int .i64 t.net); exact cN _ _) | (go_at_call_of 118 (Value.int .i64 t.tax); exact cT _ _) | (go_at_call_of 118 (Value.int .i64 t.gross); exact cG _ _)))
      refine wpQuiet_nil ?_
      intro _ hw'
      obtain ⟨⟨dq,osq⟩,hw''⟩ := hw'
      subst hw''
      have HBv := Lib.hid (bchain HSt.out.bel (below_regrown wr dq osq))
      go_wp2
      go_ret
      exact ⟨.inl ⟨HYes.out,rfl⟩,bchain HW.out HBv.out⟩
     ·
      have hx := HX3.out h3
      clear HX1 HX2 HX3
      obtain ⟨a1,ha1⟩ : ∃ a1,Bl.hiW t.net = a1 := ⟨_,rfl⟩
      obtain ⟨b1,hb1⟩ : ∃ b1,Bl.loW t.net = b1 := ⟨_,rfl⟩
      obtain ⟨a2,ha2⟩ : ∃ a1,Bl.hiW t.tax = a1 := ⟨_,rfl⟩
      obtain ⟨b2,hb2⟩ : ∃ b1,Bl.loW t.tax = b1 := ⟨_,rfl⟩
      rw [ha1] at K0
      rw [hb1] at K1
      rw [ha2] at K2
      rw [hb2] at K3
      rw [ha1,hb1] at cN cNT
      rw [ha2,hb2] at cT
      clear ha1 hb1 ha2 hb2
      have r1 : (a1 == a1) = true := beq_self_eq_true _
      have r2 : (b1 == b1) = true := beq_self_eq_true _
      have r3 : (a2 == a2) = true := beq_self_eq_true _
      have r4 : (b2 == b2) = true := beq_self_eq_true _
      have HNo : Hid (¬ Bl.SumR t) := Lib.hid fun z => h3 z.2.2.symm
      clear h1 h2 h3
      rcases hx with r5 | ⟨r5,r6⟩
      ·
       go_wp2
       refine wp_region_quiet_below (by kernel_rfl) (by kernel_rfl) ?_
       repeat (first | go_big_quiet_step (first | (go_at_call_of 118 a1; exact cNT _ _) | (go_at_call_of 118 (Value.int .i64 t.net); exact cN _ _) | (go_at_call_of 118 (Value.int .i64 t.tax); exact cT _ _) | (go_at_call_of 118 (Value.int .i64 t.gross); exact cG _ _)) | quiet_step (first | (go_at_call_of 118 a1; exact cNT _ _) | (go_at_call_of 118 (Value.int .i64 t.net); exact cN _ _) | (go_at_call_of 118 (Value.int .i64 t.tax); exact cT _ _) | (go_at_call_of 118 (Value.int .i64 t.gross); exact cG _ _)))
       refine wpQuiet_nil ?_
       intro _ hw'
       obtain ⟨⟨dq,osq⟩,hw''⟩ := hw'
       subst hw''
       have HBv := Lib.hid (bchain HSt.out.bel (below_regrown wr dq osq))
       go_wp2
       go_ret
       exact ⟨.inr ⟨HNo.out,rfl⟩,bchain HW.out HBv.out⟩
      ·
       go_wp2
       refine wp_region_quiet_below (by kernel_rfl) (by kernel_rfl) ?_
       repeat (first | go_big_quiet_step (first | (go_at_call_of 118 a1; exact cNT _ _) | (go_at_call_of 118 (Value.int .i64 t.net); exact cN _ _) | (go_at_call_of 118 (Value.int .i64 t.tax); exact cT _ _) | (go_at_call_of 118 (Value.int .i64 t.gross); exact cG _ _)) | quiet_step (first | (go_at_call_of 118 a1; exact cNT _ _) | (go_at_call_of 118 (Value.int .i64 t.net); exact cN _ _) | (go_at_call_of 118 (Value.int .i64 t.tax); exact cT _ _) | (go_at_call_of 118 (Value.int .i64 t.gross); exact cG _ _)))
       refine wpQuiet_nil ?_
       intro _ hw'
       obtain ⟨⟨dq,osq⟩,hw''⟩ := hw'
       subst hw''
       have HBv := Lib.hid (bchain HSt.out.bel (below_regrown wr dq osq))
       go_wp2
       go_ret
       exact ⟨.inr ⟨HNo.out,rfl⟩,bchain HW.out HBv.out⟩
    ·
     have hx := HX2.out h2
     clear HX1 HX2 HX3
     obtain ⟨a1,ha1⟩ : ∃ a1,Bl.hiW t.net = a1 := ⟨_,rfl⟩
     obtain ⟨b1,hb1⟩ : ∃ b1,Bl.loW t.net = b1 := ⟨_,rfl⟩
     rw [ha1] at K0
     rw [hb1] at K1
     rw [ha1,hb1] at cN cNT
     clear ha1 hb1
     have r1 : (a1 == a1) = true := beq_self_eq_true _
     have r2 : (b1 == b1) = true := beq_self_eq_true _
     have HNo : Hid (¬ Bl.SumR t) := Lib.hid fun z => h2 z.2.1.symm
     clear h1 h2
     rcases hx with r5 | ⟨r5,r6⟩
     ·
      go_wp2
      refine wp_region_quiet_below (by kernel_rfl) (by kernel_rfl) ?_
      repeat (first | go_big_quiet_step (first | (go_at_call_of 118 a1; exact cNT _ _) | (go_at_call_of 118 (Value.int .i64 t.net); exact cN _ _) | (go_at_call_of 118 (Value.int .i64 t.tax); exact cT _ _) | (go_at_call_of 118 (Value.int .i64 t.gross); exact cG _ _)) | quiet_step (first | (go_at_call_of 118 a1; exact cNT _ _) | (go_at_call_of 118 (Value.int .i64 t.net); exact cN _ _) | (go_at_call_of 118 (Value.int .i64 t.tax); exact cT _ _) | (go_at_call_of 118 (Value.int .i64 t.gross); exact cG _ _)))
      refine wpQuiet_nil ?_
      intro _ hw'
      obtain ⟨⟨dq,osq⟩,hw''⟩ := hw'
      subst hw''
      have HBv := Lib.hid (bchain HSt.out.bel (below_regrown wr dq osq))
      go_wp2
      go_ret
      exact ⟨.inr ⟨HNo.out,rfl⟩,bchain HW.out HBv.out⟩
     ·
      go_wp2
      refine wp_region_quiet_below (by kernel_rfl) (by kernel_rfl) ?_
      repeat (first | go_big_quiet_step (first | (go_at_call_of 118 a1; exact cNT _ _) | (go_at_call_of 118 (Value.int .i64 t.net); exact cN _ _) | (go_at_call_of 118 (Value.int .i64 t.tax); exact cT _ _) | (go_at_call_of 118 (Value.int .i64 t.gross); exact cG _ _)) | quiet_step (first | (go_at_call_of 118 a1; exact cNT _ _) | (go_at_call_of 118 (Value.int .i64 t.net); exact cN _ _) | (go_at_call_of 118 (Value.int .i64 t.tax); exact cT _ _) | (go_at_call_of 118 (Value.int .i64 t.gross); exact cG _ _)))
      refine wpQuiet_nil ?_
      intro _ hw'
      obtain ⟨⟨dq,osq⟩,hw''⟩ := hw'
      subst hw''
      have HBv := Lib.hid (bchain HSt.out.bel (below_regrown wr dq osq))
      go_wp2
      go_ret
      exact ⟨.inr ⟨HNo.out,rfl⟩,bchain HW.out HBv.out⟩
   ·
    have hx := HX1.out h1
    clear HX1 HX2 HX3
    obtain ⟨a1,ha1⟩ : ∃ a1,a1 = Bl.hiW t.net := ⟨_,rfl⟩
    have HNo : Hid (¬ Bl.SumR t) := Lib.hid fun z => h1 z.1.symm
    clear h1
    rcases hx with r5 | ⟨r5,r6⟩
    ·
     go_wp2
     refine wp_region_quiet_below (by kernel_rfl) (by kernel_rfl) ?_
     repeat (first | go_big_quiet_step (first | (fail; exact cNT _ _) | (go_at_call_of 118 (Value.int .i64 t.net); exact cN _ _) | (go_at_call_of 118 (Value.int .i64 t.tax); exact cT _ _) | (go_at_call_of 118 (Value.int .i64 t.gross); exact cG _ _)) | quiet_step (first | (fail; exact cNT _ _) | (go_at_call_of 118 (Value.int .i64 t.net); exact cN _ _) | (go_at_call_of 118 (Value.int .i64 t.tax); exact cT _ _) | (go_at_call_of 118 (Value.int .i64 t.gross); exact cG _ _)))
     refine wpQuiet_nil ?_
     intro _ hw'
     obtain ⟨⟨dq,osq⟩,hw''⟩ := hw'
     subst hw''
     have HBv := Lib.hid (bchain HSt.out.bel (below_regrown wr dq osq))
     go_wp2
     go_ret
     exact ⟨.inr ⟨HNo.out,rfl⟩,bchain HW.out HBv.out⟩
    ·
     go_wp2
     refine wp_region_quiet_below (by kernel_rfl) (by kernel_rfl) ?_
     repeat (first | go_big_quiet_step (first | (fail; exact cNT _ _) | (go_at_call_of 118 (Value.int .i64 t.net); exact cN _ _) | (go_at_call_of 118 (Value.int .i64 t.tax); exact cT _ _) | (go_at_call_of 118 (Value.int .i64 t.gross); exact cG _ _)) | quiet_step (first | (fail; exact cNT _ _) | (go_at_call_of 118 (Value.int .i64 t.net); exact cN _ _) | (go_at_call_of 118 (Value.int .i64 t.tax); exact cT _ _) | (go_at_call_of 118 (Value.int .i64 t.gross); exact cG _ _)))
     refine wpQuiet_nil ?_
     intro _ hw'
     obtain ⟨⟨dq,osq⟩,hw''⟩ := hw'
     subst hw''
     have HBv := Lib.hid (bchain HSt.out.bel (below_regrown wr dq osq))
     go_wp2
     go_ret
     exact ⟨.inr ⟨HNo.out,rfl⟩,bchain HW.out HBv.out⟩
end Go.Proofs.YtillcleccjgocaaGreat
namespace Go.Proofs.YtillcleccjgocaaGreat
open Go.RowKit
open Mem
open Go.Sort (grow)
def Bl.EachR (l : List Bl.Ps) : Prop := ∀ p ∈ l,Dt.rightB p.y p.m p.d = true ∧ Bl.TotR p.tot
set_option maxHeartbeats 8000000 in
theorem bil_reckoned (ps : List Bl.Ps) (rs : List Pd.T) (ao : Option Addr) (n cap : Nat) (w0 w : World) (hw : Below w0.heap.size w0 w) (hL : Pd.Ls w ao n cap rs) (hE : Bl.Each w rs ps) :
  Calls Tryz.prog 32 #[.slice ao n cap] w (Bl.YesE w0 (Bl.EachR ps)) := by
 have HW := Lib.hid hw
 have HL := Lib.hid hL
 have HN := Lib.hid hL.len
 have HE := Lib.hid hE
 have hcap := hL.reach
 have hfit := hL.fits
 clear hL hw hE
 go_enter Tryz.func32,Tryz.ntmps32
 go_wp2_with fail
 go_loopw [4,7] (fun _ j wr => ∃ k : Nat,k ≤ n ∧ j = .int .i64 k ∧ Hid (Bl.EachR (ps.take k)) ∧ Hid (Below w.heap.size w wr)) (fun _ j _ => n - (intOf j).toNat)
 case atStart => exact ⟨0,by omega,rfl,Lib.hid (fun _ h => by cases h),Lib.hid (Below.refl _ _)⟩
 case round =>
  obtain ⟨k,hk,rfl,HT,HB⟩ := hrel
  by_cases hlt : k < n
  ·
   obtain ⟨b,off,rfl⟩ := HL.out.at (by omega)
   have hkl : k < rs.length := HN.out ▸ hlt
   have hkp : k < ps.length := HE.out.len ▸ hkl
   have hrow := (HL.out.row k hkl).below HB.out
   have HSh := Lib.hid (HL.out.short _ (List.getElem_mem hkl))
   have hI := HE.out.each k hkl
   have HMe := Lib.hid (List.getElem_mem hkp)
   have HS := Lib.hid (List.take_succ_eq_append_getElem hkp)
   obtain ⟨r,hr⟩ : ∃ r,rs[k] = r := ⟨_,rfl⟩
   obtain ⟨p,hp⟩ : ∃ p,ps[k] = p := ⟨_,rfl⟩
   rw [hr] at hrow hI HSh
   rw [hp] at hI HS HMe
   clear hr hp
   have hA := Pd.c_box wr r
   have HBW := Lib.hid (bchain HB.out (Pd.below_own wr r))
   have HI := Lib.hid (hI.below (bchain HB.out (Pd.below_own wr r)))
   have HA := Lib.hid hA
   have hA' := hA
   unfold Pd.C at hA'
   obtain ⟨a0,a1,a2,a3,a4,a5,a6,a7,a8,a9,a10,a11⟩ := hA'
   clear hA hI
   go_wp2_with (first | ((with_reducible apply Pd.wpl_load hrow); rfl; rfl; rfl) | ((with_reducible apply Pd.wpl_store (r := r) (g := wr.heap.size)); rfl; rfl; rfl; rfl; rfl; rfl))
   refine (right_date r.y r.m r.d _ _ (Below.refl _ _) HSh.out.2.2.1 HSh.out.2.2.2.1 HSh.out.2.2.2.2.1).mono ?_
   rintro e w1 ⟨rfl,b1⟩
   have HB1 := Lib.hid (bchain HBW.out b1)
   have HI1 := Lib.hid (HI.out.below b1)
   have HA1 := Lib.hid (HA.out.below b1)
   clear b1 a0 a1 a2 a3 a4 a5 a6 a7 a8 a9 a10 a11 hrow
   cases hr : Dt.rightB r.y r.m r.d
   ·
    have HNo : Hid (¬ Bl.EachR ps) := Lib.hid fun z => by
     have h := (z p HMe.out).1
     rw [← HI.out.y,← HI.out.m,← HI.out.d,hr] at h
     cases h
    clear hr
    go_wp2_with fail
    go_ret
    exact ⟨.inr ⟨HNo.out,rfl⟩,bchain HW.out HB1.out⟩
   ·
    have HRt : Hid (Dt.rightB p.y p.m p.d = true) := Lib.hid (by rw [← HI.out.y,← HI.out.m,← HI.out.d]; exact hr)
    clear hr
    have hA' := HA1.out
    unfold Pd.C at hA'
    obtain ⟨a0,a1,a2,a3,a4,a5,a6,a7,a8,a9,a10,a11⟩ := hA'
    go_wp2_with fail
    refine (bil_parted p.tot.parts r.parts.ao r.parts.n r.parts.cap w1 w1 (Below.refl _ _) HI1.out.parts).mono ?_
    rintro e w2 ⟨hcase,b2⟩
    have HB2 := Lib.hid (bchain HB1.out b2)
    have HI2 := Lib.hid (HI1.out.below b2)
    have HA2 := Lib.hid (HA1.out.below b2)
    clear b2 a0 a1 a2 a3 a4 a5 a6 a7 a8 a9 a10 a11
    rcases hcase with ⟨hpt,rfl⟩ | ⟨hno,rfl⟩
    ·
     have HPt := Lib.hid hpt
     clear hpt
     have hA' := HA2.out
     unfold Pd.C at hA'
     obtain ⟨a0,a1,a2,a3,a4,a5,a6,a7,a8,a9,a10,a11⟩ := hA'
     have HFi : Hid (Fit p.tot.net ∧ Fit p.tot.tax ∧ Fit p.tot.gross) := Lib.hid ⟨HI.out.net ▸ HSh.out.2.2.2.2.2.1,HI.out.tax ▸ HSh.out.2.2.2.2.2.2.1,HI.out.gross ▸ HSh.out.2.2.2.2.2.2.2.1⟩
     have HSm := Lib.hid (bil_summed p.tot r.parts.ao r.parts.n r.parts.cap w2 w2 (Below.refl _ _) HI2.out.parts HFi.out (by have h1 := HI2.out.parts.len; have h2 := HPt.out.2.1; omega))
     rw [← HI.out.net,← HI.out.tax,← HI.out.gross] at HSm
     unfold Tt.val at HSm
     go_wp2_with fail
     refine HSm.out.mono ?_
     rintro e w3 ⟨hcase,b3⟩
     have HB3 := Lib.hid (bchain HB2.out b3)
     clear b3 a0 a1 a2 a3 a4 a5 a6 a7 a8 a9 a10 a11 HSm
     rcases hcase with ⟨hsm,rfl⟩ | ⟨hno,rfl⟩
     ·
      have HTo : Hid (Bl.TotR p.tot) := Lib.hid (Bl.part_tot.2 ⟨HPt.out,hsm.1,hsm.2.1,hsm.2.2,HFi.out⟩)
      clear hsm
      go_wp2_with fail
      go_roundw
      case rel =>
       refine ⟨k + 1,by omega,by go_num,Lib.hid ?_,HB3⟩
       rw [HS.out]
       intro y hy
       rcases List.mem_append.1 hy with h | h
       · exact HT.out y h
       ·
        rw [List.mem_singleton.1 h]
        exact ⟨HRt.out,HTo.out⟩
      case measure => simp [intOf]; omega
     ·
      have HNo : Hid (¬ Bl.EachR ps) := Lib.hid fun z => by
       have h := Bl.part_tot.1 (z p HMe.out).2
       exact hno ⟨h.2.1,h.2.2.1,h.2.2.2.1⟩
      clear hno
      go_wp2_with fail
      go_ret
      exact ⟨.inr ⟨HNo.out,rfl⟩,bchain HW.out HB3.out⟩
    ·
     have HNo : Hid (¬ Bl.EachR ps) := Lib.hid fun z => hno (Bl.part_tot.1 (z p HMe.out).2).1
     clear hno
     go_wp2_with fail
     go_ret
     exact ⟨.inr ⟨HNo.out,rfl⟩,bchain HW.out HB2.out⟩
  ·
   obtain rfl : k = n := by omega
   have HYes : Hid (Bl.EachR ps) := Lib.hid (by
    have h := HT.out
    rw [List.take_of_length_le (by rw [HN.out,HE.out.len]; exact Nat.le_refl _)] at h
    exact h)
   go_wp2_with fail
   go_ret
   exact ⟨.inl ⟨HYes.out,rfl⟩,bchain HW.out HB.out⟩
end Go.Proofs.YtillcleccjgocaaGreat
namespace Go.Proofs.YtillcleccjgocaaGreat.Pt
open Go.RowKit
open Mem
open Go.Sort (grow)
set_option maxHeartbeats 4000000 in
theorem equal_any (xs ys : List T) (ao bo : Option Addr) (n m ca cb : Nat) (w0 w : World) (hw : Below w0.heap.size w0 w) (hA : Ls w ao n ca xs) (hB : Ls w bo m cb ys) :
  Calls Tryz.prog 158 #[.slice ao n ca,.slice bo m cb] w fun e w' => e = .returned (.bool (sameB xs ys)) ∧ Below w0.heap.size w0 w' := by
 have HW := Lib.hid hw
 have HA := Lib.hid hA
 have HB := Lib.hid hB
 have HN := Lib.hid hA.len
 have HM := Lib.hid hB.len
 have hca := hA.reach
 have hfa := hA.fits
 have hcb := hB.reach
 have hfb := hB.fits
 clear hw hA hB
 by_cases hnm : n = m
 ·
  subst hnm
  have hne : ((n : Int) != (n : Int)) = false := bne_self_eq_false _
  go_enter Tryz.func158,Tryz.ntmps158
  go_wp2
  go_loopw [5,13] (fun _ i wr => ∃ k : Nat,k ≤ n ∧ i = .int .i64 k ∧ Hid (sameB (xs.drop k) (ys.drop k) = sameB xs ys) ∧ Hid (Below w.heap.size w wr)) (fun _ i _ => n - (intOf i).toNat)
  case atStart => exact ⟨0,Nat.zero_le _,rfl,Lib.hid rfl,Lib.hid (Below.refl _ _)⟩
  case round =>
   obtain ⟨k,hk,rfl,HK,HBz⟩ := hrel
   by_cases hlt : k < n
   ·
    obtain ⟨a,oa,rfl⟩ := HA.out.at (by omega)
    obtain ⟨b,ob,rfl⟩ := HB.out.at (by omega)
    have hkr : k < xs.length := HN.out ▸ hlt
    have hks : k < ys.length := HM.out ▸ hlt
    have HSt := Lib.hid (same_at xs ys k hkr hks)
    obtain ⟨r,hr⟩ : ∃ r,xs[k] = r := ⟨_,rfl⟩
    obtain ⟨s,hs⟩ : ∃ s,ys[k] = s := ⟨_,rfl⟩
    have h1 := (HA.out.row k hkr).below HBz.out
    have h2 := (HB.out.row k hks).below HBz.out
    rw [hr] at h1 HSt
    rw [hs] at h2 HSt
    clear hr hs
    obtain ⟨g0,g1,g2,g3⟩ := h1
    obtain ⟨f0,f1,f2,f3⟩ := h2
    have g0' := cell_regrown g0
    have g1' := cell_regrown g1
    have g2' := cell_regrown g2
    have g3' := cell_regrown g3
    have f0' := cell_regrown f0
    have f1' := cell_regrown f1
    have f2' := cell_regrown f2
    have f3' := cell_regrown f3
    clear g0 g1 g2 g3 f0 f1 f2 f3
    by_cases e0 : r.cat = s.cat
    ·
     have q0 : (r.cat.toList == s.cat.toList) = true := beq_iff_eq.2 (by rw [e0])
     by_cases e1 : r.bp = s.bp
     ·
      have q1 : (r.bp == s.bp) = true := beq_iff_eq.2 e1
      by_cases e2 : r.net = s.net
      ·
       have q2 : (r.net == s.net) = true := beq_iff_eq.2 e2
       by_cases e3 : r.tax = s.tax
       ·
        have q3 : (r.tax == s.tax) = true := beq_iff_eq.2 e3
        have HE : Hid (eqB r s = true) := Lib.hid (decide_eq_true ⟨e0,e1,e2,e3⟩)
        clear e0 e1 e2 e3
        go_wp2
        refine wp_region_quiet_below (by kernel_rfl) (by kernel_rfl) ?_
        repeat (first | go_big_quiet_step (fail) | quiet_step (fail))
        refine wpQuiet_nil ?_
        intro _ hw'
        obtain ⟨⟨dq,osq⟩,hw''⟩ := hw'
        subst hw''
        have HBv := Lib.hid (bchain HBz.out (below_regrown wr dq osq))
        go_wp2
        go_roundw
        case rel => exact ⟨k + 1,by omega,by go_num,Lib.hid (by rw [← HK.out,HSt.out,HE.out,Bool.true_and]),HBv⟩
        case measure => simp [intOf]; omega
       ·
        have q3 : (r.tax == s.tax) = false := beq_eq_false_iff_ne.2 e3
        have HE : Hid (eqB r s = false) := Lib.hid (decide_eq_false fun h => e3 h.2.2.2)
        clear e0 e1 e2 e3
        go_wp2
        refine wp_region_quiet_below (by kernel_rfl) (by kernel_rfl) ?_
        repeat (first | go_big_quiet_step (fail) | quiet_step (fail))
        refine wpQuiet_nil ?_
        intro _ hw'
        obtain ⟨⟨dq,osq⟩,hw''⟩ := hw'
        subst hw''
        have HBv := Lib.hid (bchain HBz.out (below_regrown wr dq osq))
        go_wp2
        go_ret
        exact ⟨ret_bool (by rw [← HK.out,HSt.out,HE.out,Bool.false_and]),bchain HW.out HBv.out⟩
      ·
       have q2 : (r.net == s.net) = false := beq_eq_false_iff_ne.2 e2
       have HE : Hid (eqB r s = false) := Lib.hid (decide_eq_false fun h => e2 h.2.2.1)
       clear e0 e1 e2
       go_wp2
       refine wp_region_quiet_below (by kernel_rfl) (by kernel_rfl) ?_
       repeat (first | go_big_quiet_step (fail) | quiet_step (fail))
       refine wpQuiet_nil ?_
       intro _ hw'
       obtain ⟨⟨dq,osq⟩,hw''⟩ := hw'
       subst hw''
       have HBv := Lib.hid (bchain HBz.out (below_regrown wr dq osq))
       go_wp2
       go_ret
       exact ⟨ret_bool (by rw [← HK.out,HSt.out,HE.out,Bool.false_and]),bchain HW.out HBv.out⟩
     ·
      have q1 : (r.bp == s.bp) = false := beq_eq_false_iff_ne.2 e1
      have HE : Hid (eqB r s = false) := Lib.hid (decide_eq_false fun h => e1 h.2.1)
      clear e0 e1
      go_wp2
      refine wp_region_quiet_below (by kernel_rfl) (by kernel_rfl) ?_
      repeat (first | go_big_quiet_step (fail) | quiet_step (fail))
      refine wpQuiet_nil ?_
      intro _ hw'
      obtain ⟨⟨dq,osq⟩,hw''⟩ := hw'
      subst hw''
      have HBv := Lib.hid (bchain HBz.out (below_regrown wr dq osq))
      go_wp2
      go_ret
      exact ⟨ret_bool (by rw [← HK.out,HSt.out,HE.out,Bool.false_and]),bchain HW.out HBv.out⟩
    ·
     have q0 : (r.cat.toList == s.cat.toList) = false := beq_eq_false_iff_ne.2 fun h => e0 (txt_ext (by rw [← tl,← tl]; exact h))
     have HE : Hid (eqB r s = false) := Lib.hid (decide_eq_false fun h => e0 h.1)
     clear e0
     go_wp2
     refine wp_region_quiet_below (by kernel_rfl) (by kernel_rfl) ?_
     repeat (first | go_big_quiet_step (fail) | quiet_step (fail))
     refine wpQuiet_nil ?_
     intro _ hw'
     obtain ⟨⟨dq,osq⟩,hw''⟩ := hw'
     subst hw''
     have HBv := Lib.hid (bchain HBz.out (below_regrown wr dq osq))
     go_wp2
     go_ret
     exact ⟨ret_bool (by rw [← HK.out,HSt.out,HE.out,Bool.false_and]),bchain HW.out HBv.out⟩
   ·
    obtain rfl : k = n := by omega
    go_wp2
    go_ret
    refine ⟨ret_bool ?_,HW.out.trans (HBz.out.mono HW.out.size)⟩
    rw [← HK.out,List.drop_eq_nil_of_le (Nat.le_of_eq HN.out.symm),List.drop_eq_nil_of_le (Nat.le_of_eq HM.out.symm)]
    rfl
 ·
  have HE := Lib.hid (sameB_len (l := xs) (m := ys) (by rw [← HN.out,← HM.out]; exact hnm))
  have hne : ((n : Int) != (m : Int)) = true := bne_iff_ne.2 (by omega)
  go_enter Tryz.func158,Tryz.ntmps158
  go_wp2
  go_ret
  exact ⟨ret_bool HE.out.symm,HW.out⟩
end Go.Proofs.YtillcleccjgocaaGreat.Pt
namespace Go.Proofs.YtillcleccjgocaaGreat
open Go.RowKit
open Mem
open Go.Sort (grow)
set_option maxHeartbeats 4000000 in
theorem bil_same (t u : Iv.Tot) (ao bo : Option Addr) (n ca m cb : Nat) (w0 w : World) (hw : Below w0.heap.size w0 w) (h1 : Pt.Ls w ao n ca t.parts) (h2 : Pt.Ls w bo m cb u.parts) :
  Calls Tryz.prog 121 #[Tt.val t.net t.tax t.gross (.slice ao n ca),Tt.val u.net u.tax u.gross (.slice bo m cb)] w (Bl.YesE w0 (t = u)) := by
 have HW := Lib.hid hw
 obtain ⟨U,hU,hB,k0,k1,hs⟩ := Bl.al2 w (.cells #[.int .i64 t.net,.int .i64 t.tax,.int .i64 t.gross,.slice ao n ca] 98) (.cells #[.int .i64 u.net,.int .i64 u.tax,.int .i64 u.gross,.slice bo m cb] 98)
 have hT : Tt.At U w.heap.size t.net t.tax t.gross (.slice ao n ca) := k0
 have hV : Tt.At U (w.heap.size + 1) u.net u.tax u.gross (.slice bo m cb) := k1
 obtain ⟨x0,x1,x2,x3⟩ := hT.cells
 obtain ⟨y0,y1,y2,y3⟩ := hV.cells
 have HB := Lib.hid hB
 have HL1 := Lib.hid (h1.below hB)
 have HL2 := Lib.hid (h2.below hB)
 clear hw h1 h2 hB k0 k1 hs hT hV
 unfold Tt.val
 by_cases e0 : t.net = u.net
 ·
  have q0 : (t.net == u.net) = true := beq_iff_eq.2 e0
  have E0 := Lib.hid e0
  clear e0
  by_cases e1 : t.tax = u.tax
  ·
   have q1 : (t.tax == u.tax) = true := beq_iff_eq.2 e1
   have E1 := Lib.hid e1
   clear e1
   by_cases e2 : t.gross = u.gross
   ·
    have q2 : (t.gross == u.gross) = true := beq_iff_eq.2 e2
    have E2 := Lib.hid e2
    clear e2
    go_enter Tryz.func121,Tryz.ntmps121
    go_wp2_with fail
    refine (Pt.equal_any t.parts u.parts ao bo n m ca cb U U (Below.refl _ _) HL1.out HL2.out).mono ?_
    rintro e w1 ⟨rfl,b1⟩
    have HB1 := Lib.hid (bchain HB.out b1)
    clear b1
    cases hs : Pt.sameB t.parts u.parts
    ·
     have HNo : Hid (¬ t = u) := Lib.hid fun z => by rw [z,Pt.sameB_self] at hs; cases hs
     clear hs
     go_wp2_with fail
     go_ret
     exact ⟨.inr ⟨HNo.out,rfl⟩,bchain HW.out HB1.out⟩
    ·
     have HYes : Hid (t = u) := Lib.hid (by
      cases t
      cases u
      simp only [Iv.Tot.mk.injEq]
      exact ⟨E0.out,E1.out,E2.out,(Pt.sameB_iff _ _).1 hs⟩)
     clear hs
     go_wp2_with fail
     go_ret
     exact ⟨.inl ⟨HYes.out,rfl⟩,bchain HW.out HB1.out⟩
   ·
    have q2 : (t.gross == u.gross) = false := beq_eq_false_iff_ne.2 e2
    have HNo : Hid (¬ t = u) := Lib.hid fun z => e2 (by rw [z])
    clear e2
    go_enter Tryz.func121,Tryz.ntmps121
    go_wp2_with fail
    go_ret
    exact ⟨.inr ⟨HNo.out,rfl⟩,bchain HW.out HB.out⟩
  ·
   have q1 : (t.tax == u.tax) = false := beq_eq_false_iff_ne.2 e1
   have HNo : Hid (¬ t = u) := Lib.hid fun z => e1 (by rw [z])
   clear e1
   go_enter Tryz.func121,Tryz.ntmps121
   go_wp2_with fail
   go_ret
   exact ⟨.inr ⟨HNo.out,rfl⟩,bchain HW.out HB.out⟩
 ·
  have q0 : (t.net == u.net) = false := beq_eq_false_iff_ne.2 e0
  have HNo : Hid (¬ t = u) := Lib.hid fun z => e0 (by rw [z])
  clear e0
  go_enter Tryz.func121,Tryz.ntmps121
  go_wp2_with fail
  go_ret
  exact ⟨.inr ⟨HNo.out,rfl⟩,bchain HW.out HB.out⟩
end Go.Proofs.YtillcleccjgocaaGreat
namespace Go.Proofs.YtillcleccjgocaaGreat
theorem Bl.goL_len : ∀ (ls M : List Ba.T),(Po.goL ls M).length ≤ M.length + ls.length
 | [],M => Nat.le_refl _
 | x :: l,M => by
  have h1 := Bl.goL_len l (Po.enter x.acct x.amt M)
  have h2 := Po.enter_len (c := x.acct) (n := x.amt) M
  show (Po.goL l (Po.enter x.acct x.amt M)).length ≤ _
  rw [List.length_cons]
  omega
theorem Bl.entrL_len (g : Int) (ps : List Pt.T) : (Po.entrL g ps).length = 1 + 2 * ps.length := by
 unfold Po.entrL
 rw [List.length_cons]
 induction ps with
 | nil => rfl
 | cons p l ih =>
  rw [List.flatMap_cons,List.length_append,List.length_cons]
  have : (Po.rowsOf p).length = 2 := rfl
  omega
theorem Bl.enterAll_len : ∀ {l : List Bl.Ps} {b c : List Ba.T},Bl.enterAll l b = some c → (∀ p ∈ l,p.tot.parts.length ≤ 12) → c.length ≤ b.length + 25 * l.length
 | [],b,c,h,_ => by
  rw [Bl.enterAll,Option.some.injEq] at h
  rw [← h]
  simp
 | p :: l,b,c,h,k => by
  rw [Bl.enterAll] at h
  split at h
  ·
   have h1 := Bl.enterAll_len h fun q hq => k q (by simp [hq])
   have h2 := Bl.goL_len (Po.entrL p.tot.gross p.tot.parts) b
   have h3 := Bl.entrL_len p.tot.gross p.tot.parts
   have h4 := k p (by simp)
   rw [List.length_cons]
   omega
  · cases h
theorem Bl.name_small {c : ByteArray} (h : Rn.name (txt c) = true) : c.size ≤ 140737488351232 := by
 unfold Rn.name at h
 simp only [Bool.and_eq_true,decide_eq_true_iff] at h
 have h2 := h.1.2
 have e : c.size = (txt c).length := by unfold txt; rw [Array.length_toList]; rfl
 omega
theorem Bl.TotR.small {t : Iv.Tot} (h : Bl.TotR t) : ∀ x ∈ t.parts,x.cat.size ≤ 140737488351232 := fun x hx => Bl.name_small (h.each x hx).1
end Go.Proofs.YtillcleccjgocaaGreat
namespace Go.Proofs.YtillcleccjgocaaGreat
open Go.RowKit
open Mem
open Go.Sort (grow)
section
variable {ops : Array Oper} {o : Oper} {a : Act} {S : World → Prop} {t : Tmp} {g : Nat}
end
theorem Bl.undo_parts {p : Bl.Ps} {y m d : Int} (hR : Bl.TotR p.tot) (hs : ∀ x ∈ p.tot.parts,Pt.Short x) : (∀ x ∈ (Bl.undoT p y m d).parts,Pt.Short x) ∧ (Bl.undoT p y m d).parts.length ≤ 12 ∧ (∀ x ∈ (Bl.undoT p y m d).parts,x.cat.size ≤ 140737488351232) ∧ Fit (Bl.undoT p y m d).net ∧ Fit (Bl.undoT p y m d).tax ∧ Fit (Bl.undoT p y m d).gross := by
 by_cases h : Bl.undoE p y m d = 0
 ·
  have e : Bl.undoT p y m d = Iv.back p.tot := if_pos h
  have hb : Iv.backE p.tot = 0 := by
   unfold Bl.undoE at h
   split at h
   · omega
   ·
    split at h
    · omega
    · exact h
  have hr := Bl.back_right hR hb
  rw [e]
  refine ⟨?_,hr.few,hr.small,hr.fit.1,hr.fit.2.1,hr.fit.2.2⟩
  intro x hx
  obtain ⟨z,hz,rfl⟩ := List.mem_map.1 (show x ∈ p.tot.parts.map Iv.negP from hx)
  have hsz := hs z hz
  have h1 := (hr.each _ hx)
  have hbad : Iv.badP z = false := by
   unfold Iv.backE at hb
   split at hb
   · omega
   ·
    split at hb
    · omega
    ·
     rename_i q
     cases hq : Iv.badP z
     · rfl
     · exact absurd (List.any_eq_true.2 ⟨z,hz,hq⟩) q
  unfold Iv.badP at hbad
  have hb2 := of_decide_eq_false hbad
  have e1 : Mn.err (-z.net) = 0 := Decidable.byContradiction fun q => hb2 (.inl q)
  have e2 : Mn.err (-z.tax) = 0 := Decidable.byContradiction fun q => hb2 (.inr q)
  exact ⟨hsz.1,hsz.2.1,Iv.err_0 e1,Iv.err_0 e2⟩
 ·
  have e : Bl.undoT p y m d = Iv.Tot.zero := if_neg h
  rw [e]
  exact ⟨fun x hx => (by cases hx),Nat.zero_le _,fun x hx => (by cases hx),Bl.fit_0,Bl.fit_0,Bl.fit_0⟩
end Go.Proofs.YtillcleccjgocaaGreat
namespace Go.Proofs.YtillcleccjgocaaGreat
open Go.RowKit
open Mem
open Go.Sort (grow)
theorem before_agU (y m d z n e : Int) (hy : Fit y) (hm : Fit m) (hd : Fit d) (hz : Fit z) (hn : Fit n) (he : Fit e) (u : World) (i : Nat) (os : Array Obj) : AnsU 113 #[.agg #[.int .i64 y,.int .i64 m,.int .i64 d],.agg #[.int .i64 z,.int .i64 n,.int .i64 e]] u i os (.bool (aheadB y m d z n e)) :=
 Calls.regrown_of (before_date y m d z n e _ _ (Below.refl _ _) hy hm hd hz hn he)
theorem Bl.back_parts {t : Iv.Tot} (hR : Bl.TotR t) (hs : ∀ x ∈ t.parts,Pt.Short x) : ∀ x ∈ (Iv.backT t).parts,Pt.Short x := by
 have h := (Bl.undo_parts (p := ⟨.empty,0,1,1,1,t,.empty,0,false⟩) (y := 1) (m := 1) (d := 1) hR hs).1
 rw [(Bl.undo_go (p := ⟨.empty,0,1,1,1,t,.empty,0,false⟩) (y := 1) (m := 1) (d := 1) (fun q => q.elim (fun z => by cases z) (fun z => z ⟨rfl,rfl⟩)) (fun q => q.elim (fun z => absurd z (by decide)) (fun z => absurd z (Int.lt_irrefl _)))).2] at h
 exact h
theorem Bl.undo_at {p z : Bl.Ps} {l : List Bl.Ps} {q : Nat} (e : Bl.pix p.ofS p.ofN l = q) (h : q < l.length) (hz : l[q] = z) : Bl.Undo p l ↔ Bl.Own z ∧ Dt.days z.y z.m z.d ≤ Dt.days p.y p.m p.d ∧ Iv.backE z.tot = 0 ∧ p.tot = Iv.back z.tot := by
 subst e hz
 exact ⟨fun u => u.2,fun u => ⟨h,u⟩⟩
set_option maxHeartbeats 8000000 in
theorem bil_undoes (r : Pd.T) (p : Bl.Ps) (ps : List Bl.Ps) (rs : List Pd.T) (ao : Option Addr) (n cap : Nat) (w0 w : World) (hw : Below w0.heap.size w0 w) (hI : Bl.IsP w r p) (hS : Pd.Short r) (hR : Dt.rightB p.y p.m p.d = true) (hL : Pd.Ls w ao n cap rs) (hE : Bl.Each w rs ps) (hA : Bl.EachR ps) :
  Calls Tryz.prog 78 #[Pd.val r,.slice ao n cap] w (Bl.YesE w0 (Bl.Undo p ps)) := by
 have HW := Lib.hid hw
 have HI := Lib.hid hI
 have HSh := Lib.hid hS
 have HR := Lib.hid hR
 have HL := Lib.hid hL
 have HN := Lib.hid hL.len
 have HE := Lib.hid hE
 have HEr := Lib.hid hA
 have hcap := hL.reach
 have hfit := hL.fits
 clear hL hw hE hI hS hR hA
 obtain ⟨W,hW,hbW,hC⟩ := Pd.boxed1 w r
 have HBW := Lib.hid hbW
 have HC := Lib.hid hC
 unfold Pd.C at hC
 obtain ⟨a0,a1,a2,a3,a4,a5,a6,a7,a8,a9,a10,a11⟩ := hC
 clear hbW
 unfold Pd.val
 go_enter Tryz.func78,Tryz.ntmps78
 go_wp2_with fail
 clear hW
 refine (bil_index ps rs r.ofS r.ofN ao n cap W W (Below.refl _ _) (HL.out.below HBW.out) (HE.out.below HBW.out)).mono ?_
 rintro e w1 ⟨rfl,b1⟩
 have HB1 := Lib.hid b1
 have hC1 := HC.out.below b1
 clear a0 a1 a2 a3 a4 a5 a6 a7 a8 a9 a10 a11 b1
 have hpl := Bl.pix_le r.ofS r.ofN ps
 obtain ⟨q,hq⟩ : ∃ q,Bl.pix r.ofS r.ofN ps = q := ⟨_,rfl⟩
 rw [hq] at hpl ⊢
 have HQ : Hid (Bl.pix p.ofS p.ofN ps = q) := Lib.hid (by rw [← HI.out.ofS,← HI.out.ofN]; exact hq)
 clear hq
 have hqn : q ≤ n := by have := HN.out; have := HE.out.len; omega
 clear hpl
 unfold Pd.C at hC1
 obtain ⟨a0,a1,a2,a3,a4,a5,a6,a7,a8,a9,a10,a11⟩ := hC1
 by_cases hlt : q < n
 ·
  obtain ⟨b,off,rfl⟩ := HL.out.at (by omega)
  have hkl : q < rs.length := HN.out ▸ hlt
  have hkp : q < ps.length := HE.out.len ▸ hkl
  have hrow := ((HL.out.row q hkl).below HBW.out).below HB1.out
  have hX := HE.out.each q hkl
  have hXs := HL.out.short _ (List.getElem_mem hkl)
  have hZr := HEr.out _ (List.getElem_mem hkp)
  obtain ⟨x,hx⟩ : ∃ x,rs[q] = x := ⟨_,rfl⟩
  obtain ⟨z,hz⟩ : ∃ z,ps[q] = z := ⟨_,rfl⟩
  have HUn := Lib.hid (Bl.undo_at HQ.out hkp hz)
  rw [hx] at hrow hX hXs
  rw [hz] at hX hZr
  clear hx hz
  have HX := Lib.hid hX
  have HXs := Lib.hid hXs
  have HZr := Lib.hid hZr
  have HRow := Lib.hid hrow
  have HXn : Hid (x.parts.n ≤ 1000) := Lib.hid (by have h1 := hX.parts.len; have h2 := hZr.2.few; omega)
  have HAh : Hid (aheadB r.y r.m r.d x.y x.m x.d = decide (Dt.days p.y p.m p.d < Dt.days z.y z.m z.d)) := Lib.hid (by rw [HI.out.y,HI.out.m,HI.out.d,hX.y,hX.m,hX.d]; exact ahead_both HR.out hZr.1)
  have eoS := hX.ofS
  have eoN := hX.ofN
  clear hX hXs hZr
  obtain ⟨c0,c1,c2,c3,c4,c5,c6,c7,c8,c9,c10,c11⟩ := hrow
  have qn : ((q : Int) == (n : Int)) = false := beq_eq_false_iff_ne.2 (by omega)
  have a2' := cell_regrown a2
  have a3' := cell_regrown a3
  have a4' := cell_regrown a4
  have c2' := cell_regrown c2
  have c3' := cell_regrown c3
  have c4' := cell_regrown c4
  have c9' := cell_regrown c9
  have c10' := cell_regrown c10
  clear a0 a1 a2 a3 a4 a5 a6 a7 a8 a9 a10 a11 c0 c1 c2 c3 c4 c5 c6 c7 c8 c9 c10 c11
  by_cases h1 : x.ofS = .empty
  ·
   have q1 : (x.ofS.toList == []) = true := by rw [h1,emptyB]; rfl
   by_cases h2 : x.ofN = 0
   ·
    have q2 : (x.ofN == 0) = true := beq_iff_eq.2 h2
    have HOw : Hid (Bl.Own z) := Lib.hid ⟨eoS ▸ h1,eoN ▸ h2⟩
    clear eoS eoN h1 h2
    have cB := fun i os => before_agU r.y r.m r.d x.y x.m x.d HSh.out.2.2.1 HSh.out.2.2.2.1 HSh.out.2.2.2.2.1 HXs.out.2.2.1 HXs.out.2.2.2.1 HXs.out.2.2.2.2.1 w1 i os
    rw [HAh.out] at cB
    by_cases hdy : Dt.days p.y p.m p.d < Dt.days z.y z.m z.d
    ·
     have HNo : Hid (¬ Bl.Undo p ps) := Lib.hid fun u => by
      obtain ⟨h1,h2⟩ := HUn.out.1 u
      omega
     rw [decide_eq_true hdy] at cB
     clear hdy
     go_wp2_with fail
     refine wp_region_quiet_below (by kernel_rfl) (by kernel_rfl) ?_
     repeat (first | go_big_quiet_step (first | (go_at_call 113; exact cB _ _)) | quiet_step (first | (go_at_call 113; exact cB _ _)))
     refine wpQuiet_nil ?_
     intro _ hw'
     obtain ⟨⟨dq,osq⟩,hw''⟩ := hw'
     subst hw''
     have HB2 := Lib.hid (bchain HB1.out (below_regrown w1 dq osq))
     go_wp2_with fail
     go_ret
     exact ⟨.inr ⟨HNo.out,rfl⟩,bchain HW.out (bchain HBW.out HB2.out)⟩
    ·
     have HDy : Hid (Dt.days z.y z.m z.d ≤ Dt.days p.y p.m p.d) := Lib.hid (by omega)
     rw [decide_eq_false hdy] at cB
     clear hdy
     go_wp2_with fail
     refine wp_region_quiet_below (by kernel_rfl) (by kernel_rfl) ?_
     repeat (first | go_big_quiet_step (first | (go_at_call 113; exact cB _ _)) | quiet_step (first | (go_at_call 113; exact cB _ _)))
     refine wpQuiet_nil ?_
     intro _ hw'
     obtain ⟨⟨dq,osq⟩,hw''⟩ := hw'
     subst hw''
     have HB2 := Lib.hid (bchain HB1.out (below_regrown w1 dq osq))
     have HI2 := Lib.hid (HI.out.below (bchain HBW.out HB2.out))
     have HC2 := Lib.hid (HC.out.below HB2.out)
     have HX2 := Lib.hid (HX.out.below (bchain HBW.out HB2.out))
     have hrw2 := HRow.out.below (below_regrown w1 dq osq)
     generalize grow (redrawn w1 dq) osq = w2 at *
     obtain ⟨c0,c1,c2,c3,c4,c5,c6,c7,c8,c9,c10,c11⟩ := hrw2
     clear cB
     go_wp2_with fail
     have hPt := HX2.out.parts
     have hbk := inv_back z.tot x.parts.ao x.parts.n x.parts.cap w2 hPt (HX.out.net ▸ HXs.out.2.2.2.2.2.1) (HX.out.tax ▸ HXs.out.2.2.2.2.2.2.1) (HX.out.gross ▸ HXs.out.2.2.2.2.2.2.2.1) HXn.out
     rw [← HX.out.net,← HX.out.tax,← HX.out.gross] at hbk
     unfold Tt.val at hbk
     refine hbk.mono ?_
     clear hPt hbk
     rintro e w3 ⟨v,rfl,o3,b3⟩
     have HB3 := Lib.hid (bchain HB2.out b3)
     have HI3 := Lib.hid (HI2.out.below b3)
     have HC3 := Lib.hid (HC2.out.below b3)
     obtain ⟨vo,vc,rfl,l3,i3⟩ := Pt.own_ls o3 (Bl.back_parts HZr.out.2 HX.out.parts.short)
     have HL3 := Lib.hid l3
     clear c0 c1 c2 c3 c4 c5 c6 c7 c8 c9 c10 c11 b3 o3 l3 i3
     obtain ⟨T,hT⟩ : ∃ T,Iv.backT z.tot = T := ⟨_,rfl⟩
     obtain ⟨E,hE⟩ : ∃ E,Iv.backE z.tot = E := ⟨_,rfl⟩
     have HTz := Lib.hid hT
     have HEz := Lib.hid hE
     rw [hT] at HL3 ⊢
     rw [hE]
     clear hT hE
     obtain ⟨tn,htn⟩ : ∃ tn,T.parts.length = tn := ⟨_,rfl⟩
     rw [htn] at HL3 ⊢
     clear htn
     obtain ⟨b4,k4,s4⟩ := Bl.al1 w3 (.cells #[.int .i64 T.net,.int .i64 T.tax,.int .i64 T.gross,.slice vo tn vc] 98)
     obtain ⟨V,hV⟩ : ∃ V,w3.alloc (.cells #[.int .i64 T.net,.int .i64 T.tax,.int .i64 T.gross,.slice vo tn vc] 98) = V := ⟨_,rfl⟩
     rw [hV] at b4 k4 s4
     have hT4 : Tt.At V w3.heap.size T.net T.tax T.gross (.slice vo tn vc) := k4
     obtain ⟨t0,t1,t2,t3⟩ := hT4.cells
     have hC4 := HC3.out.below b4
     unfold Pd.C at hC4
     obtain ⟨a0,a1,a2,a3,a4,a5,a6,a7,a8,a9,a10,a11⟩ := hC4
     have HB4 := Lib.hid (bchain HB3.out b4)
     have HI4 := Lib.hid (HI3.out.below b4)
     have HL4 := Lib.hid (HL3.out.below b4)
     clear b4 k4 s4 hT4
     unfold Tt.val
     by_cases he : E = 0
     ·
      subst he
      have HSm := Lib.hid (bil_same T p.tot vo r.parts.ao tn vc r.parts.n r.parts.cap V V (Below.refl _ _) HL4.out HI4.out.parts)
      rw [← HI.out.net,← HI.out.tax,← HI.out.gross] at HSm
      unfold Tt.val at HSm
      go_wp2_with fail
      refine HSm.out.mono ?_
      rintro e w5 ⟨hcase,b5⟩
      have HB5 := Lib.hid (bchain HB4.out b5)
      have HTb : Hid (T = Iv.back z.tot) := Lib.hid (by rw [← HTz.out]; unfold Iv.backT; rw [if_pos HEz.out])
      clear b5 a0 a1 a2 a3 a4 a5 a6 a7 a8 a9 a10 a11 HSm t0 t1 t2 t3
      rcases hcase with ⟨hsm,rfl⟩ | ⟨hno,rfl⟩
      ·
       have HYes : Hid (Bl.Undo p ps) := Lib.hid (HUn.out.2 ⟨HOw.out,HDy.out,HEz.out,by rw [← hsm]; exact HTb.out⟩)
       clear hsm
       go_wp2_with fail
       go_ret
       exact ⟨.inl ⟨HYes.out,rfl⟩,bchain HW.out (bchain HBW.out HB5.out)⟩
      ·
       have HNo : Hid (¬ Bl.Undo p ps) := Lib.hid fun u => hno (HTb.out.trans (HUn.out.1 u).2.2.2.symm)
       clear hno
       go_wp2_with fail
       go_ret
       exact ⟨.inr ⟨HNo.out,rfl⟩,bchain HW.out (bchain HBW.out HB5.out)⟩
     ·
      have qe : (E == 0) = false := beq_eq_false_iff_ne.2 he
      have HNo : Hid (¬ Bl.Undo p ps) := Lib.hid fun u => he (HEz.out ▸ (HUn.out.1 u).2.2.1)
      clear he
      go_wp2_with fail
      go_ret
      exact ⟨.inr ⟨HNo.out,rfl⟩,bchain HW.out (bchain HBW.out HB4.out)⟩
   ·
    have q2 : (x.ofN == 0) = false := beq_eq_false_iff_ne.2 h2
    have HNo : Hid (¬ Bl.Undo p ps) := Lib.hid fun u => h2 (eoN.trans (HUn.out.1 u).1.2)
    clear eoS eoN h1 h2
    go_wp2_with fail
    refine wp_region_quiet_below (by kernel_rfl) (by kernel_rfl) ?_
    repeat (first | go_big_quiet_step (fail) | quiet_step (fail))
    refine wpQuiet_nil ?_
    intro _ hw'
    obtain ⟨⟨dq,osq⟩,hw''⟩ := hw'
    subst hw''
    have HB2 := Lib.hid (bchain HB1.out (below_regrown w1 dq osq))
    go_wp2_with fail
    go_ret
    exact ⟨.inr ⟨HNo.out,rfl⟩,bchain HW.out (bchain HBW.out HB2.out)⟩
  ·
   have q1 : (x.ofS.toList == []) = false := beq_eq_false_iff_ne.2 fun e => h1 (Vt.cat_ext (e.trans emptyB.symm))
   have HNo : Hid (¬ Bl.Undo p ps) := Lib.hid fun u => h1 (eoS.trans (HUn.out.1 u).1.1)
   clear eoS eoN h1
   go_wp2_with fail
   refine wp_region_quiet_below (by kernel_rfl) (by kernel_rfl) ?_
   repeat (first | go_big_quiet_step (fail) | quiet_step (fail))
   refine wpQuiet_nil ?_
   intro _ hw'
   obtain ⟨⟨dq,osq⟩,hw''⟩ := hw'
   subst hw''
   have HB2 := Lib.hid (bchain HB1.out (below_regrown w1 dq osq))
   go_wp2_with fail
   go_ret
   exact ⟨.inr ⟨HNo.out,rfl⟩,bchain HW.out (bchain HBW.out HB2.out)⟩
 ·
  obtain rfl : q = n := by omega
  have qn : ((q : Int) == (q : Int)) = true := beq_self_eq_true _
  have HNo : Hid (¬ Bl.Undo p ps) := Lib.hid fun u => by
   have h1 := u.1
   rw [HQ.out,← HE.out.len,← HN.out] at h1
   exact Nat.lt_irrefl _ h1
  clear a0 a1 a2 a3 a4 a5 a6 a7 a8 a9 a10 a11
  go_wp2_with fail
  refine wp_region_quiet_below (by kernel_rfl) (by kernel_rfl) ?_
  repeat (first | go_big_quiet_step (fail) | quiet_step (fail))
  refine wpQuiet_nil ?_
  intro _ hw'
  obtain ⟨⟨dq,osq⟩,hw''⟩ := hw'
  subst hw''
  have HB2 := Lib.hid (bchain HB1.out (below_regrown w1 dq osq))
  go_wp2_with fail
  go_ret
  exact ⟨.inr ⟨HNo.out,rfl⟩,bchain HW.out (bchain HBW.out HB2.out)⟩
end Go.Proofs.YtillcleccjgocaaGreat
namespace Go.Proofs.YtillcleccjgocaaGreat
open Go.RowKit
open Mem
open Go.Sort (grow)
theorem Bl.Each.take {w : World} {rs : List Pd.T} {ps : List Bl.Ps} (h : Bl.Each w rs ps) (k : Nat) : Bl.Each w (rs.take k) (ps.take k) := by
 have hl : (rs.take k).length = (ps.take k).length := by rw [List.length_take,List.length_take,h.len]
 refine ⟨hl,fun i hi => ?_⟩
 have hi' := hi
 rw [List.length_take] at hi'
 have := h.each i (by omega)
 simp only [List.getElem_take]
 exact this
theorem Bl.EachR.take {ps : List Bl.Ps} (h : Bl.EachR ps) (k : Nat) : Bl.EachR (ps.take k) := fun p hp => h p (List.mem_of_mem_take hp)
set_option maxHeartbeats 16000000 in
theorem bil_credited (ps : List Bl.Ps) (rs : List Pd.T) (ao : Option Addr) (n cap : Nat) (w0 w : World) (hw : Below w0.heap.size w0 w) (hL : Pd.Ls w ao n cap rs) (hE : Bl.Each w rs ps) (hA : Bl.EachR ps) :
  Calls Tryz.prog 33 #[.slice ao n cap] w (Bl.YesE w0 (∀ i (h : i < ps.length),Bl.CredR ps i h)) := by
 have HW := Lib.hid hw
 have HL := Lib.hid hL
 have HN := Lib.hid hL.len
 have HE := Lib.hid hE
 have HEr := Lib.hid hA
 have hcap := hL.reach
 have hfit := hL.fits
 clear hL hw hE hA
 go_enter Tryz.func33,Tryz.ntmps33
 go_wp2_with fail
 go_loopw [3,4,5,8] (fun _ _ _ j wr => ∃ k : Nat,k ≤ n ∧ j = .int .i64 k ∧ Hid (∀ i (h : i < ps.length),i < k → Bl.CredR ps i h) ∧ Hid (Below w.heap.size w wr)) (fun _ _ _ j _ => n - (intOf j).toNat)
 case atStart => exact ⟨0,by omega,rfl,Lib.hid (fun _ _ h => absurd h (Nat.not_lt_zero _)),Lib.hid (Below.refl _ _)⟩
 case round =>
  obtain ⟨k,hk,rfl,HT,HB⟩ := hrel
  by_cases hlt : k < n
  ·
   obtain ⟨b,off,rfl⟩ := HL.out.at (by omega)
   have hkl : k < rs.length := HN.out ▸ hlt
   have hkp : k < ps.length := HE.out.len ▸ hkl
   have hrow := (HL.out.row k hkl).below HB.out
   have HSh := Lib.hid (HL.out.short _ (List.getElem_mem hkl))
   have hI := HE.out.each k hkl
   have hRt := (HEr.out _ (List.getElem_mem hkp)).1
   obtain ⟨r,hr⟩ : ∃ r,rs[k] = r := ⟨_,rfl⟩
   obtain ⟨p,hp⟩ : ∃ p,ps[k] = p := ⟨_,rfl⟩
   have HP := Lib.hid hp
   rw [hr] at hrow hI HSh
   rw [hp] at hI hRt
   clear hr hp
   have HRt := Lib.hid hRt
   have HEk := Lib.hid (HEr.out.take k)
   have HC := Lib.hid (Pd.c_box wr r)
   have HBW := Lib.hid (bchain HB.out (Pd.below_own wr r))
   have HI := Lib.hid hI
   have hA' := HC.out
   unfold Pd.C at hA'
   obtain ⟨a0,a1,a2,a3,a4,a5,a6,a7,a8,a9,a10,a11⟩ := hA'
   have x0 := cell_regrown a0
   have x1 := cell_regrown a1
   have x2 := cell_regrown a2
   have x3 := cell_regrown a3
   have x4 := cell_regrown a4
   have x5 := cell_regrown a5
   have x6 := cell_regrown a6
   have x7 := cell_regrown a7
   have x8 := cell_regrown a8
   have x9 := cell_regrown a9
   have x10 := cell_regrown a10
   have x11 := cell_regrown a11
   clear a0 a1 a2 a3 a4 a5 a6 a7 a8 a9 a10 a11
   have eoS := hI.ofS
   have eoN := hI.ofN
   clear hI hRt
   by_cases h1 : r.ofS = .empty
   ·
    have q1 : (r.ofS.toList == []) = true := by rw [h1,emptyB]; rfl
    by_cases h2 : r.ofN = 0
    ·
     have q2 : (r.ofN == 0) = true := beq_iff_eq.2 h2
     have HOf : Hid (¬ Bl.Own p → Bl.Undo p (ps.take k)) := Lib.hid fun z => absurd ⟨eoS ▸ h1,eoN ▸ h2⟩ z
     clear eoS eoN h1 h2
     go_wp2_with (first | ((with_reducible apply Pd.wpl_load hrow); rfl; rfl; rfl) | ((with_reducible apply Pd.wpl_store (r := r) (g := wr.heap.size)); rfl; rfl; rfl; rfl; rfl; rfl))
     refine wp_region_quiet_below (by kernel_rfl) (by kernel_rfl) ?_
     repeat (first | go_big_quiet_step (fail) | quiet_step (fail))
     refine wpQuiet_nil ?_
     intro _ hw'
     obtain ⟨⟨dq,osq⟩,hw''⟩ := hw'
     subst hw''
     have HB2 := Lib.hid (bchain HBW.out (below_regrown (Pd.box wr r) dq osq))
     have hC2 := HC.out.below (below_regrown (Pd.box wr r) dq osq)
     generalize grow (redrawn (Pd.box wr r) dq) osq = w2 at *
     have hC2' := hC2
     unfold Pd.C at hC2'
     obtain ⟨a0,a1,a2,a3,a4,a5,a6,a7,a8,a9,a10,a11⟩ := hC2'
     cases hb : r.back
     ·
      have HBk : Hid (p.back = false) := Lib.hid (by rw [← HI.out.back]; exact hb)
      rw [hb] at a11
      clear hb
      have HCr := Lib.hid hC2
      go_wp2_with fail
      refine (bil_credits ps rs r.ser r.num (some ⟨b,off,none⟩) n cap w2 w2 (Below.refl _ _) (HL.out.below HB2.out) (HE.out.below HB2.out)).mono ?_
      rintro e w3 ⟨rfl,b3⟩
      have HB3 := Lib.hid (bchain HB2.out b3)
      clear b3
      obtain ⟨q,hq⟩ : ∃ q,Bl.crd r.ser r.num ps = q := ⟨_,rfl⟩
      have HQ : Hid (Bl.crd p.ser p.num ps = q) := Lib.hid (by rw [← HI.out.ser,← HI.out.num]; exact hq)
      rw [hq]
      clear hq
      by_cases he : q = 0
      ·
       subst he
       have HYes : Hid (Bl.CredR ps k hkp) := Lib.hid ⟨by rw [HP.out]; exact HOf.out,by rw [HP.out,HQ.out,HBk.out]; rfl⟩
       go_wp2_with fail
       go_roundw
       case rel =>
        refine ⟨k + 1,by omega,by go_num,Lib.hid ?_,HB3⟩
        intro i hi hik
        rcases Nat.lt_or_ge i k with h | h
        · exact HT.out i hi h
        ·
         obtain rfl : i = k := by omega
         exact HYes.out
       case measure => simp [intOf]; omega
      ·
       have qe : ((q : Int) != 0) = true := bne_iff_ne.2 (by omega)
       have HNo : Hid (¬ ∀ i (h : i < ps.length),Bl.CredR ps i h) := Lib.hid fun z => he (by
        have h := (z k hkp).cnt
        rw [HP.out,HQ.out,HBk.out] at h
        exact h)
       clear he
       go_wp2_with fail
       go_ret
       exact ⟨.inr ⟨HNo.out,rfl⟩,bchain HW.out HB3.out⟩
     ·
      have HBk : Hid (p.back = true) := Lib.hid (by rw [← HI.out.back]; exact hb)
      rw [hb] at a11
      clear hb
      have HCr := Lib.hid hC2
      go_wp2_with fail
      refine (bil_credits ps rs r.ser r.num (some ⟨b,off,none⟩) n cap w2 w2 (Below.refl _ _) (HL.out.below HB2.out) (HE.out.below HB2.out)).mono ?_
      rintro e w3 ⟨rfl,b3⟩
      have HB3 := Lib.hid (bchain HB2.out b3)
      clear b3
      obtain ⟨q,hq⟩ : ∃ q,Bl.crd r.ser r.num ps = q := ⟨_,rfl⟩
      have HQ : Hid (Bl.crd p.ser p.num ps = q) := Lib.hid (by rw [← HI.out.ser,← HI.out.num]; exact hq)
      rw [hq]
      clear hq
      by_cases he : q = 1
      ·
       subst he
       have HYes : Hid (Bl.CredR ps k hkp) := Lib.hid ⟨by rw [HP.out]; exact HOf.out,by rw [HP.out,HQ.out,HBk.out]; rfl⟩
       go_wp2_with fail
       go_roundw
       case rel =>
        refine ⟨k + 1,by omega,by go_num,Lib.hid ?_,HB3⟩
        intro i hi hik
        rcases Nat.lt_or_ge i k with h | h
        · exact HT.out i hi h
        ·
         obtain rfl : i = k := by omega
         exact HYes.out
       case measure => simp [intOf]; omega
      ·
       have qe : ((q : Int) != 1) = true := bne_iff_ne.2 (by omega)
       have HNo : Hid (¬ ∀ i (h : i < ps.length),Bl.CredR ps i h) := Lib.hid fun z => he (by
        have h := (z k hkp).cnt
        rw [HP.out,HQ.out,HBk.out] at h
        exact h)
       clear he
       go_wp2_with fail
       go_ret
       exact ⟨.inr ⟨HNo.out,rfl⟩,bchain HW.out HB3.out⟩
    ·
     have q2 : (r.ofN == 0) = false := beq_eq_false_iff_ne.2 h2
     have HNw : Hid (¬ Bl.Own p) := Lib.hid fun z => h2 (eoN.trans z.2)
     clear eoS eoN h1 h2
     have hls := HL.out.to k (by omega)
     have HSl := Lib.hid hls.2
     have hsl := hls.1
     clear hls
     by_cases hu : Bl.Undo p (ps.take k)
     ·
      have cU : ∀ i os,AnsU 78 #[Pd.val r,.slice (some ⟨b,off,none⟩) k cap] (Pd.box wr r) i os (.bool true) := fun i os => Calls.regrown_of ((bil_undoes r p (ps.take k) (rs.take k) (some ⟨b,off,none⟩) k cap _ _ (Below.refl _ _) (HI.out.below (bchain HBW.out (below_regrown (Pd.box wr r) i os))) HSh.out HRt.out (HSl.out.below (bchain HBW.out (below_regrown (Pd.box wr r) i os))) ((HE.out.take k).below (bchain HBW.out (below_regrown (Pd.box wr r) i os))) HEk.out).mono fun e v h => ⟨h.1.elim (fun z => z.2) (fun z => absurd hu z.1),h.2⟩)
      unfold Pd.val at cU
      have HOf : Hid (¬ Bl.Own p → Bl.Undo p (ps.take k)) := Lib.hid fun _ => hu
      clear hu
      go_wp2_with (first | ((with_reducible apply Pd.wpl_load hrow); rfl; rfl; rfl) | ((with_reducible apply Pd.wpl_store (r := r) (g := wr.heap.size)); rfl; rfl; rfl; rfl; rfl; rfl))
      refine wp_region_quiet_below (by kernel_rfl) (by kernel_rfl) ?_
      repeat (first | go_big_quiet_step (first | (go_at_call 78; exact cU _ _)) | quiet_step (first | (go_at_call 78; exact cU _ _)))
      refine wpQuiet_nil ?_
      intro _ hw'
      obtain ⟨⟨dq,osq⟩,hw''⟩ := hw'
      subst hw''
      have HB2 := Lib.hid (bchain HBW.out (below_regrown (Pd.box wr r) dq osq))
      clear cU
      have hC2 := HC.out.below (below_regrown (Pd.box wr r) dq osq)
      generalize grow (redrawn (Pd.box wr r) dq) osq = w2 at *
      have hC2' := hC2
      unfold Pd.C at hC2'
      obtain ⟨a0,a1,a2,a3,a4,a5,a6,a7,a8,a9,a10,a11⟩ := hC2'
      cases hb : r.back
      ·
       have HBk : Hid (p.back = false) := Lib.hid (by rw [← HI.out.back]; exact hb)
       rw [hb] at a11
       clear hb
       have HCr := Lib.hid hC2
       go_wp2_with fail
       refine (bil_credits ps rs r.ser r.num (some ⟨b,off,none⟩) n cap w2 w2 (Below.refl _ _) (HL.out.below HB2.out) (HE.out.below HB2.out)).mono ?_
       rintro e w3 ⟨rfl,b3⟩
       have HB3 := Lib.hid (bchain HB2.out b3)
       clear b3
       obtain ⟨q,hq⟩ : ∃ q,Bl.crd r.ser r.num ps = q := ⟨_,rfl⟩
       have HQ : Hid (Bl.crd p.ser p.num ps = q) := Lib.hid (by rw [← HI.out.ser,← HI.out.num]; exact hq)
       rw [hq]
       clear hq
       by_cases he : q = 0
       ·
        subst he
        have HYes : Hid (Bl.CredR ps k hkp) := Lib.hid ⟨by rw [HP.out]; exact HOf.out,by rw [HP.out,HQ.out,HBk.out]; rfl⟩
        go_wp2_with fail
        go_roundw
        case rel =>
         refine ⟨k + 1,by omega,by go_num,Lib.hid ?_,HB3⟩
         intro i hi hik
         rcases Nat.lt_or_ge i k with h | h
         · exact HT.out i hi h
         ·
          obtain rfl : i = k := by omega
          exact HYes.out
        case measure => simp [intOf]; omega
       ·
        have qe : ((q : Int) != 0) = true := bne_iff_ne.2 (by omega)
        have HNo : Hid (¬ ∀ i (h : i < ps.length),Bl.CredR ps i h) := Lib.hid fun z => he (by
         have h := (z k hkp).cnt
         rw [HP.out,HQ.out,HBk.out] at h
         exact h)
        clear he
        go_wp2_with fail
        go_ret
        exact ⟨.inr ⟨HNo.out,rfl⟩,bchain HW.out HB3.out⟩
      ·
       have HBk : Hid (p.back = true) := Lib.hid (by rw [← HI.out.back]; exact hb)
       rw [hb] at a11
       clear hb
       have HCr := Lib.hid hC2
       go_wp2_with fail
       refine (bil_credits ps rs r.ser r.num (some ⟨b,off,none⟩) n cap w2 w2 (Below.refl _ _) (HL.out.below HB2.out) (HE.out.below HB2.out)).mono ?_
       rintro e w3 ⟨rfl,b3⟩
       have HB3 := Lib.hid (bchain HB2.out b3)
       clear b3
       obtain ⟨q,hq⟩ : ∃ q,Bl.crd r.ser r.num ps = q := ⟨_,rfl⟩
       have HQ : Hid (Bl.crd p.ser p.num ps = q) := Lib.hid (by rw [← HI.out.ser,← HI.out.num]; exact hq)
       rw [hq]
       clear hq
       by_cases he : q = 1
       ·
        subst he
        have HYes : Hid (Bl.CredR ps k hkp) := Lib.hid ⟨by rw [HP.out]; exact HOf.out,by rw [HP.out,HQ.out,HBk.out]; rfl⟩
        go_wp2_with fail
        go_roundw
        case rel =>
         refine ⟨k + 1,by omega,by go_num,Lib.hid ?_,HB3⟩
         intro i hi hik
         rcases Nat.lt_or_ge i k with h | h
         · exact HT.out i hi h
         ·
          obtain rfl : i = k := by omega
          exact HYes.out
        case measure => simp [intOf]; omega
       ·
        have qe : ((q : Int) != 1) = true := bne_iff_ne.2 (by omega)
        have HNo : Hid (¬ ∀ i (h : i < ps.length),Bl.CredR ps i h) := Lib.hid fun z => he (by
         have h := (z k hkp).cnt
         rw [HP.out,HQ.out,HBk.out] at h
         exact h)
        clear he
        go_wp2_with fail
        go_ret
        exact ⟨.inr ⟨HNo.out,rfl⟩,bchain HW.out HB3.out⟩
     ·
      have cU : ∀ i os,AnsU 78 #[Pd.val r,.slice (some ⟨b,off,none⟩) k cap] (Pd.box wr r) i os (.bool false) := fun i os => Calls.regrown_of ((bil_undoes r p (ps.take k) (rs.take k) (some ⟨b,off,none⟩) k cap _ _ (Below.refl _ _) (HI.out.below (bchain HBW.out (below_regrown (Pd.box wr r) i os))) HSh.out HRt.out (HSl.out.below (bchain HBW.out (below_regrown (Pd.box wr r) i os))) ((HE.out.take k).below (bchain HBW.out (below_regrown (Pd.box wr r) i os))) HEk.out).mono fun e v h => ⟨h.1.elim (fun z => absurd z.1 hu) (fun z => z.2),h.2⟩)
      unfold Pd.val at cU
      have HNo : Hid (¬ ∀ i (h : i < ps.length),Bl.CredR ps i h) := Lib.hid fun z => hu (by
       have h := (z k hkp).of
       rw [HP.out] at h
       exact h HNw.out)
      clear hu
      go_wp2_with (first | ((with_reducible apply Pd.wpl_load hrow); rfl; rfl; rfl) | ((with_reducible apply Pd.wpl_store (r := r) (g := wr.heap.size)); rfl; rfl; rfl; rfl; rfl; rfl))
      refine wp_region_quiet_below (by kernel_rfl) (by kernel_rfl) ?_
      repeat (first | go_big_quiet_step (first | (go_at_call 78; exact cU _ _)) | quiet_step (first | (go_at_call 78; exact cU _ _)))
      refine wpQuiet_nil ?_
      intro _ hw'
      obtain ⟨⟨dq,osq⟩,hw''⟩ := hw'
      subst hw''
      have HB2 := Lib.hid (bchain HBW.out (below_regrown (Pd.box wr r) dq osq))
      go_wp2_with fail
      go_ret
      exact ⟨.inr ⟨HNo.out,rfl⟩,bchain HW.out HB2.out⟩
   ·
    have q1 : (r.ofS.toList == []) = false := beq_eq_false_iff_ne.2 fun e => h1 (Vt.cat_ext (e.trans emptyB.symm))
    have HNw : Hid (¬ Bl.Own p) := Lib.hid fun z => h1 (eoS.trans z.1)
    clear eoS eoN h1
    have hls := HL.out.to k (by omega)
    have HSl := Lib.hid hls.2
    have hsl := hls.1
    clear hls
    by_cases hu : Bl.Undo p (ps.take k)
    ·
     have cU : ∀ i os,AnsU 78 #[Pd.val r,.slice (some ⟨b,off,none⟩) k cap] (Pd.box wr r) i os (.bool true) := fun i os => Calls.regrown_of ((bil_undoes r p (ps.take k) (rs.take k) (some ⟨b,off,none⟩) k cap _ _ (Below.refl _ _) (HI.out.below (bchain HBW.out (below_regrown (Pd.box wr r) i os))) HSh.out HRt.out (HSl.out.below (bchain HBW.out (below_regrown (Pd.box wr r) i os))) ((HE.out.take k).below (bchain HBW.out (below_regrown (Pd.box wr r) i os))) HEk.out).mono fun e v h => ⟨h.1.elim (fun z => z.2) (fun z => absurd hu z.1),h.2⟩)
     unfold Pd.val at cU
     have HOf : Hid (¬ Bl.Own p → Bl.Undo p (ps.take k)) := Lib.hid fun _ => hu
     clear hu
     go_wp2_with (first | ((with_reducible apply Pd.wpl_load hrow); rfl; rfl; rfl) | ((with_reducible apply Pd.wpl_store (r := r) (g := wr.heap.size)); rfl; rfl; rfl; rfl; rfl; rfl))
     refine wp_region_quiet_below (by kernel_rfl) (by kernel_rfl) ?_
     repeat (first | go_big_quiet_step (first | (go_at_call 78; exact cU _ _)) | quiet_step (first | (go_at_call 78; exact cU _ _)))
     refine wpQuiet_nil ?_
     intro _ hw'
     obtain ⟨⟨dq,osq⟩,hw''⟩ := hw'
     subst hw''
     have HB2 := Lib.hid (bchain HBW.out (below_regrown (Pd.box wr r) dq osq))
     clear cU
     have hC2 := HC.out.below (below_regrown (Pd.box wr r) dq osq)
     generalize grow (redrawn (Pd.box wr r) dq) osq = w2 at *
     have hC2' := hC2
     unfold Pd.C at hC2'
     obtain ⟨a0,a1,a2,a3,a4,a5,a6,a7,a8,a9,a10,a11⟩ := hC2'
     cases hb : r.back
     ·
      have HBk : Hid (p.back = false) := Lib.hid (by rw [← HI.out.back]; exact hb)
      rw [hb] at a11
      clear hb
      have HCr := Lib.hid hC2
      go_wp2_with fail
      refine (bil_credits ps rs r.ser r.num (some ⟨b,off,none⟩) n cap w2 w2 (Below.refl _ _) (HL.out.below HB2.out) (HE.out.below HB2.out)).mono ?_
      rintro e w3 ⟨rfl,b3⟩
      have HB3 := Lib.hid (bchain HB2.out b3)
      clear b3
      obtain ⟨q,hq⟩ : ∃ q,Bl.crd r.ser r.num ps = q := ⟨_,rfl⟩
      have HQ : Hid (Bl.crd p.ser p.num ps = q) := Lib.hid (by rw [← HI.out.ser,← HI.out.num]; exact hq)
      rw [hq]
      clear hq
      by_cases he : q = 0
      ·
       subst he
       have HYes : Hid (Bl.CredR ps k hkp) := Lib.hid ⟨by rw [HP.out]; exact HOf.out,by rw [HP.out,HQ.out,HBk.out]; rfl⟩
       go_wp2_with fail
       go_roundw
       case rel =>
        refine ⟨k + 1,by omega,by go_num,Lib.hid ?_,HB3⟩
        intro i hi hik
        rcases Nat.lt_or_ge i k with h | h
        · exact HT.out i hi h
        ·
         obtain rfl : i = k := by omega
         exact HYes.out
       case measure => simp [intOf]; omega
      ·
       have qe : ((q : Int) != 0) = true := bne_iff_ne.2 (by omega)
       have HNo : Hid (¬ ∀ i (h : i < ps.length),Bl.CredR ps i h) := Lib.hid fun z => he (by
        have h := (z k hkp).cnt
        rw [HP.out,HQ.out,HBk.out] at h
        exact h)
       clear he
       go_wp2_with fail
       go_ret
       exact ⟨.inr ⟨HNo.out,rfl⟩,bchain HW.out HB3.out⟩
     ·
      have HBk : Hid (p.back = true) := Lib.hid (by rw [← HI.out.back]; exact hb)
      rw [hb] at a11
      clear hb
      have HCr := Lib.hid hC2
      go_wp2_with fail
      refine (bil_credits ps rs r.ser r.num (some ⟨b,off,none⟩) n cap w2 w2 (Below.refl _ _) (HL.out.below HB2.out) (HE.out.below HB2.out)).mono ?_
      rintro e w3 ⟨rfl,b3⟩
      have HB3 := Lib.hid (bchain HB2.out b3)
      clear b3
      obtain ⟨q,hq⟩ : ∃ q,Bl.crd r.ser r.num ps = q := ⟨_,rfl⟩
      have HQ : Hid (Bl.crd p.ser p.num ps = q) := Lib.hid (by rw [← HI.out.ser,← HI.out.num]; exact hq)
      rw [hq]
      clear hq
      by_cases he : q = 1
      ·
       subst he
       have HYes : Hid (Bl.CredR ps k hkp) := Lib.hid ⟨by rw [HP.out]; exact HOf.out,by rw [HP.out,HQ.out,HBk.out]; rfl⟩
       go_wp2_with fail
       go_roundw
       case rel =>
        refine ⟨k + 1,by omega,by go_num,Lib.hid ?_,HB3⟩
        intro i hi hik
        rcases Nat.lt_or_ge i k with h | h
        · exact HT.out i hi h
        ·
         obtain rfl : i = k := by omega
         exact HYes.out
       case measure => simp [intOf]; omega
      ·
       have qe : ((q : Int) != 1) = true := bne_iff_ne.2 (by omega)
       have HNo : Hid (¬ ∀ i (h : i < ps.length),Bl.CredR ps i h) := Lib.hid fun z => he (by
        have h := (z k hkp).cnt
        rw [HP.out,HQ.out,HBk.out] at h
        exact h)
       clear he
       go_wp2_with fail
       go_ret
       exact ⟨.inr ⟨HNo.out,rfl⟩,bchain HW.out HB3.out⟩
    ·
     have cU : ∀ i os,AnsU 78 #[Pd.val r,.slice (some ⟨b,off,none⟩) k cap] (Pd.box wr r) i os (.bool false) := fun i os => Calls.regrown_of ((bil_undoes r p (ps.take k) (rs.take k) (some ⟨b,off,none⟩) k cap _ _ (Below.refl _ _) (HI.out.below (bchain HBW.out (below_regrown (Pd.box wr r) i os))) HSh.out HRt.out (HSl.out.below (bchain HBW.out (below_regrown (Pd.box wr r) i os))) ((HE.out.take k).below (bchain HBW.out (below_regrown (Pd.box wr r) i os))) HEk.out).mono fun e v h => ⟨h.1.elim (fun z => absurd z.1 hu) (fun z => z.2),h.2⟩)
     unfold Pd.val at cU
     have HNo : Hid (¬ ∀ i (h : i < ps.length),Bl.CredR ps i h) := Lib.hid fun z => hu (by
      have h := (z k hkp).of
      rw [HP.out] at h
      exact h HNw.out)
     clear hu
     go_wp2_with (first | ((with_reducible apply Pd.wpl_load hrow); rfl; rfl; rfl) | ((with_reducible apply Pd.wpl_store (r := r) (g := wr.heap.size)); rfl; rfl; rfl; rfl; rfl; rfl))
     refine wp_region_quiet_below (by kernel_rfl) (by kernel_rfl) ?_
     repeat (first | go_big_quiet_step (first | (go_at_call 78; exact cU _ _)) | quiet_step (first | (go_at_call 78; exact cU _ _)))
     refine wpQuiet_nil ?_
     intro _ hw'
     obtain ⟨⟨dq,osq⟩,hw''⟩ := hw'
     subst hw''
     have HB2 := Lib.hid (bchain HBW.out (below_regrown (Pd.box wr r) dq osq))
     go_wp2_with fail
     go_ret
     exact ⟨.inr ⟨HNo.out,rfl⟩,bchain HW.out HB2.out⟩
  ·
   obtain rfl : k = n := by omega
   have HYes : Hid (∀ i (h : i < ps.length),Bl.CredR ps i h) := Lib.hid fun i h => HT.out i h (by have := HN.out; have := HE.out.len; omega)
   go_wp2_with fail
   go_ret
   exact ⟨.inl ⟨HYes.out,rfl⟩,bchain HW.out HB.out⟩
end Go.Proofs.YtillcleccjgocaaGreat
namespace Go.Proofs.YtillcleccjgocaaGreat.Ba
open Go.RowKit
open Mem
open Go.Sort (grow)
set_option maxHeartbeats 4000000 in
theorem equal_any (xs ys : List T) (ao bo : Option Addr) (n m ca cb : Nat) (w0 w : World) (hw : Below w0.heap.size w0 w) (hA : Ls w ao n ca xs) (hB : Ls w bo m cb ys) :
  Calls Tryz.prog 82 #[.slice ao n ca,.slice bo m cb] w fun e w' => e = .returned (.bool (sameB xs ys)) ∧ Below w0.heap.size w0 w' := by
 have HW := Lib.hid hw
 have HA := Lib.hid hA
 have HB := Lib.hid hB
 have HN := Lib.hid hA.len
 have HM := Lib.hid hB.len
 have hca := hA.reach
 have hfa := hA.fits
 have hcb := hB.reach
 have hfb := hB.fits
 clear hw hA hB
 by_cases hnm : n = m
 ·
  subst hnm
  have hne : ((n : Int) != (n : Int)) = false := bne_self_eq_false _
  go_enter Tryz.func82,Tryz.ntmps82
  go_wp2
  go_loopw [5,13] (fun _ i wr => ∃ k : Nat,k ≤ n ∧ i = .int .i64 k ∧ Hid (sameB (xs.drop k) (ys.drop k) = sameB xs ys) ∧ Hid (Below w.heap.size w wr)) (fun _ i _ => n - (intOf i).toNat)
  case atStart => exact ⟨0,Nat.zero_le _,rfl,Lib.hid rfl,Lib.hid (Below.refl _ _)⟩
  case round =>
   obtain ⟨k,hk,rfl,HK,HBz⟩ := hrel
   by_cases hlt : k < n
   ·
    obtain ⟨a,oa,rfl⟩ := HA.out.at (by omega)
    obtain ⟨b,ob,rfl⟩ := HB.out.at (by omega)
    have hkr : k < xs.length := HN.out ▸ hlt
    have hks : k < ys.length := HM.out ▸ hlt
    have HSt := Lib.hid (same_at xs ys k hkr hks)
    obtain ⟨r,hr⟩ : ∃ r,xs[k] = r := ⟨_,rfl⟩
    obtain ⟨s,hs⟩ : ∃ s,ys[k] = s := ⟨_,rfl⟩
    have h1 := (HA.out.row k hkr).below HBz.out
    have h2 := (HB.out.row k hks).below HBz.out
    rw [hr] at h1 HSt
    rw [hs] at h2 HSt
    clear hr hs
    obtain ⟨g0,g1⟩ := h1
    obtain ⟨f0,f1⟩ := h2
    have g0' := cell_regrown g0
    have g1' := cell_regrown g1
    have f0' := cell_regrown f0
    have f1' := cell_regrown f1
    clear g0 g1 f0 f1
    by_cases e0 : r.acct = s.acct
    ·
     have q0 : (r.acct.toList == s.acct.toList) = true := beq_iff_eq.2 (by rw [e0])
     by_cases e1 : r.amt = s.amt
     ·
      have q1 : (r.amt == s.amt) = true := beq_iff_eq.2 e1
      have HE : Hid (eqB r s = true) := Lib.hid (decide_eq_true ⟨e0,e1⟩)
      clear e0 e1
      go_wp2
      refine wp_region_quiet_below (by kernel_rfl) (by kernel_rfl) ?_
      repeat (first | go_big_quiet_step (fail) | quiet_step (fail))
      refine wpQuiet_nil ?_
      intro _ hw'
      obtain ⟨⟨dq,osq⟩,hw''⟩ := hw'
      subst hw''
      have HBv := Lib.hid (bchain HBz.out (below_regrown wr dq osq))
      go_wp2
      go_roundw
      case rel => exact ⟨k + 1,by omega,by go_num,Lib.hid (by rw [← HK.out,HSt.out,HE.out,Bool.true_and]),HBv⟩
      case measure => simp [intOf]; omega
     ·
      have q1 : (r.amt == s.amt) = false := beq_eq_false_iff_ne.2 e1
      have HE : Hid (eqB r s = false) := Lib.hid (decide_eq_false fun h => e1 h.2)
      clear e0 e1
      go_wp2
      refine wp_region_quiet_below (by kernel_rfl) (by kernel_rfl) ?_
      repeat (first | go_big_quiet_step (fail) | quiet_step (fail))
      refine wpQuiet_nil ?_
      intro _ hw'
      obtain ⟨⟨dq,osq⟩,hw''⟩ := hw'
      subst hw''
      have HBv := Lib.hid (bchain HBz.out (below_regrown wr dq osq))
      go_wp2
      go_ret
      exact ⟨ret_bool (by rw [← HK.out,HSt.out,HE.out,Bool.false_and]),bchain HW.out HBv.out⟩
    ·
     have q0 : (r.acct.toList == s.acct.toList) = false := beq_eq_false_iff_ne.2 fun h => e0 (txt_ext (by rw [← tl,← tl]; exact h))
     have HE : Hid (eqB r s = false) := Lib.hid (decide_eq_false fun h => e0 h.1)
     clear e0
     go_wp2
     refine wp_region_quiet_below (by kernel_rfl) (by kernel_rfl) ?_
     repeat (first | go_big_quiet_step (fail) | quiet_step (fail))
     refine wpQuiet_nil ?_
     intro _ hw'
     obtain ⟨⟨dq,osq⟩,hw''⟩ := hw'
     subst hw''
     have HBv := Lib.hid (bchain HBz.out (below_regrown wr dq osq))
     go_wp2
     go_ret
     exact ⟨ret_bool (by rw [← HK.out,HSt.out,HE.out,Bool.false_and]),bchain HW.out HBv.out⟩
   ·
    obtain rfl : k = n := by omega
    go_wp2
    go_ret
    refine ⟨ret_bool ?_,HW.out.trans (HBz.out.mono HW.out.size)⟩
    rw [← HK.out,List.drop_eq_nil_of_le (Nat.le_of_eq HN.out.symm),List.drop_eq_nil_of_le (Nat.le_of_eq HM.out.symm)]
    rfl
 ·
  have HE := Lib.hid (sameB_len (l := xs) (m := ys) (by rw [← HN.out,← HM.out]; exact hnm))
  have hne : ((n : Int) != (m : Int)) = true := bne_iff_ne.2 (by omega)
  go_enter Tryz.func82,Tryz.ntmps82
  go_wp2
  go_ret
  exact ⟨ret_bool HE.out.symm,HW.out⟩
end Go.Proofs.YtillcleccjgocaaGreat.Ba
