import Derived.Deep.RegionHeld3
import Derived.Laws.CopyOwn
import Derived.Laws.MakeOwn
import Derived.Lib.QuietBelow
import Derived.Test.YtjpfpojbalepeaaGreatZG3
import Derived.Test.YtjpfpojbalepeaaGreatZG4
import Derived.Test.YtjpfpojbalepeaaGreatZG5
set_option maxRecDepth 100000
set_option linter.unusedVariables false
namespace Go.Proofs.YtjpfpojbalepeaaGreat
open Go.RowKit
open Mem
open Go.Sort (grow)
structure Bl.PartOk (l : List Pt.T) (i : Nat) (h : i < l.length) : Prop where
 a : Rn.name (txt l[i].cat) = true
 b : ∀ q : 0 < i,Iv.lt (l[i - 1]'(by omega)).cat l[i].cat = true
 c : Sh.taxE l[i].net l[i].bp = 0
 d : Sh.taxV l[i].net l[i].bp = l[i].tax
def Bl.PartR (l : List Pt.T) : Prop := l ≠ [] ∧ l.length ≤ 12 ∧ ∀ i (h : i < l.length),Rn.name (txt l[i].cat) = true ∧ (∀ q : 0 < i,Iv.lt (l[i - 1]'(by omega)).cat l[i].cat = true) ∧ Sh.taxE l[i].net l[i].bp = 0 ∧ Sh.taxV l[i].net l[i].bp = l[i].tax
def Bl.PartK (l : List Pt.T) (k : Nat) : Prop := ∀ i (h : i < l.length),i < k → Rn.name (txt l[i].cat) = true ∧ (∀ q : 0 < i,Iv.lt (l[i - 1]'(by omega)).cat l[i].cat = true) ∧ Sh.taxE l[i].net l[i].bp = 0 ∧ Sh.taxV l[i].net l[i].bp = l[i].tax
theorem Bl.part_step {l : List Pt.T} {k : Nat} (h : Bl.PartK l k) (hk : k < l.length) (p : Rn.name (txt l[k].cat) = true ∧ (∀ q : 0 < k,Iv.lt (l[k - 1]'(by omega)).cat l[k].cat = true)) (t : Sh.taxE l[k].net l[k].bp = 0 ∧ Sh.taxV l[k].net l[k].bp = l[k].tax) : Bl.PartK l (k + 1) := by
 intro i hi hik
 by_cases e : i = k
 ·
  subst e
  exact ⟨p.1,p.2,t.1,t.2⟩
 · exact h i hi (by omega)
theorem Bl.sorted_adj {l : List Pt.T} : (∀ i (h : i < l.length),∀ q : 0 < i,Iv.lt (l[i - 1]'(by omega)).cat l[i].cat = true) ↔ Iv.Sorted l := by
 constructor
 ·
  intro h
  have key : ∀ d i (hi : i + d + 1 < l.length),Iv.lt (l[i]'(by omega)).cat l[i + d + 1].cat = true := by
   intro d
   induction d with
   | zero =>
    intro i hi
    exact h (i + 0 + 1) hi (by omega)
   | succ d ih =>
    intro i hi
    exact Iv.lt_trans (ih i (by omega)) (h (i + (d + 1) + 1) hi (by omega))
  refine List.pairwise_iff_getElem.2 fun i j hi hj hij => ?_
  have := key (j - i - 1) i (by omega)
  have e : i + (j - i - 1) + 1 = j := by omega
  simp only [e] at this
  exact this
 ·
  intro h i hi q
  exact List.pairwise_iff_getElem.1 h (i - 1) i (by omega) hi (by omega)
theorem Bl.part_tot {t : Iv.Tot} : Bl.TotR t ↔ Bl.PartR t.parts ∧ t.net = Bl.netsP t.parts ∧ t.tax = Bl.taxesP t.parts ∧ t.gross = t.net + t.tax ∧ Mn.Fit t.net ∧ Mn.Fit t.tax ∧ Mn.Fit t.gross := by
 constructor
 ·
  intro h
  refine ⟨⟨h.some,h.few,fun i hi => ?_⟩,h.net,h.tax,h.gross,h.fit.1,h.fit.2.1,h.fit.2.2⟩
  have he := h.each _ (List.getElem_mem hi)
  exact ⟨he.1,Bl.sorted_adj.2 h.so i hi,he.2.2.2.1,he.2.2.2.2⟩
 ·
  rintro ⟨⟨h1,h2,h3⟩,h4,h5,h6,h7⟩
  refine ⟨h1,h2,fun p hp => ?_,Bl.sorted_adj.1 fun i hi => (h3 i hi).2.1,h4,h5,h6,h7⟩
  obtain ⟨i,hi,rfl⟩ := List.getElem_of_mem hp
  have he := h3 i hi
  have hr : Sh.Right t.parts[i].bp := by
   have := he.2.2.1
   unfold Sh.taxE at this
   split at this
   · assumption
   · omega
  exact ⟨he.1,hr.1,hr.2,he.2.2.1,he.2.2.2⟩
def AnsU (f : FuncId) (args : Array Value) (u : World) (i : Nat) (os : Array Obj) (v : Value) : Prop :=
 Calls Tryz.prog f args (grow (redrawn u i) os) fun e w'' => e = .returned v ∧ ∃ p : Regrown,w'' = grow (redrawn u p.d) p.os
theorem name_agU (s : ByteArray) (hs : s.size ≤ 140737488355328) (u : World) (i : Nat) (os : Array Obj) : AnsU 110 #[.string s] u i os (.bool (Rn.name (txt s))) :=
 Calls.regrown_of (name_gen s _ _ (Below.refl _ _) hs)
set_option maxHeartbeats 4000000 in
theorem bil_parted (ls : List Pt.T) (ao : Option Addr) (n cap : Nat) (w0 w : World) (hw : Below w0.heap.size w0 w) (hL : Pt.Ls w ao n cap ls) :
  Calls Tryz.prog 71 #[.slice ao n cap] w (Bl.YesE w0 (Bl.PartR ls)) := by
 have HW := Lib.hid hw
 have HL := Lib.hid hL
 have HN := Lib.hid hL.len
 have hcap := hL.reach
 have hfit := hL.fits
 clear hL hw
 by_cases hn1 : n < 1
 ·
  have d1 : decide ((n : Int) < 1) = true := decide_eq_true (by omega)
  have HNo : Hid (¬ Bl.PartR ls) := Lib.hid fun z => z.1 (List.length_eq_zero_iff.1 (by have := HN.out; omega))
  clear hn1
  go_enter Tryz.func71,Tryz.ntmps71
  go_wp2
  go_ret
  exact ⟨.inr ⟨HNo.out,rfl⟩,HW.out⟩
 ·
  have d1 : decide ((n : Int) < 1) = false := decide_eq_false (by omega)
  by_cases hn2 : 12 < n
  ·
   have d2 : decide ((12 : Int) < n) = true := decide_eq_true (by omega)
   have HNo : Hid (¬ Bl.PartR ls) := Lib.hid fun z => by have := z.2.1; have := HN.out; omega
   go_enter Tryz.func71,Tryz.ntmps71
   go_wp2
   go_ret
   exact ⟨.inr ⟨HNo.out,rfl⟩,HW.out⟩
  ·
   have d2 : decide ((12 : Int) < n) = false := decide_eq_false (by omega)
   have HLe : Hid (0 < n ∧ n ≤ 12) := Lib.hid ⟨by omega,by omega⟩
   go_enter Tryz.func71,Tryz.ntmps71
   go_wp2
   go_loopw [3,4,5,6,17] (fun _ _ _ _ j wr => ∃ k : Nat,k ≤ n ∧ j = .int .i64 k ∧ Hid (Bl.PartK ls k) ∧ Hid (Below w.heap.size w wr)) (fun _ _ _ _ j _ => n - (intOf j).toNat)
   case atStart => exact ⟨0,by omega,rfl,Lib.hid (fun i _ h => absurd h (Nat.not_lt_zero _)),Lib.hid (Below.refl _ _)⟩
   case round =>
    obtain ⟨k,hk,rfl,HT,HB⟩ := hrel
    by_cases hlt : k < n
    ·
     obtain ⟨b,off,rfl⟩ := HL.out.at (by omega)
     have hkl : k < ls.length := HN.out ▸ hlt
     obtain ⟨r,hr⟩ : ∃ r,ls[k] = r := ⟨_,rfl⟩
     have HRr := Lib.hid hr
     have hrow := (HL.out.row k hkl).below HB.out
     have HSh := Lib.hid (HL.out.short _ (List.getElem_mem hkl))
     rw [hr] at hrow HSh
     clear hr
     obtain ⟨g0,g1,g2,g3⟩ := hrow
     obtain ⟨W,hW,hbW,hA⟩ := Pt.boxed1 wr r
     have HBW := Lib.hid (bchain HB.out hbW)
     have HCW := Lib.hid hA
     clear hbW
     unfold Pt.C at hA
     obtain ⟨a0,a1,a2,a3⟩ := hA
     have k0 := cell_regrown a0
     have k1 := cell_regrown a1
     have k2 := cell_regrown a2
     have k3 := cell_regrown a3
     have c1 := fun i os => name_agU r.cat HSh.out.1 W i os
     cases he : Rn.name (txt r.cat)
     ·
      rw [he] at c1
      have HNo : Hid (¬ Bl.PartR ls) := Lib.hid fun z => by have := (z.2.2 _ hkl).1; rw [HRr.out,he] at this; cases this
      clear he
      go_wp2
      refine wp_region_quiet_below (by kernel_rfl) (by kernel_rfl) ?_
      repeat (first | go_big_quiet_step (first | (go_at_call 110; exact c1 _ _)) | quiet_step (first | (go_at_call 110; exact c1 _ _)))
      refine wpQuiet_nil ?_
      intro _ hw'
      obtain ⟨⟨dq,osq⟩,hw''⟩ := hw'
      subst hw''
      have HBv := Lib.hid (bchain HBW.out (below_regrown W dq osq))
      have HCv := Lib.hid (HCW.out.below (below_regrown W dq osq))
      go_wp2
      go_ret
      exact ⟨.inr ⟨HNo.out,rfl⟩,bchain HW.out HBv.out⟩
     ·
      rw [he] at c1
      have HNm := Lib.hid he
      clear he
      by_cases hk0 : k = 0
      ·
       subst hk0
       simp only [Nat.zero_mul,Nat.add_zero] at g0 g1 g2 g3
       have HP : Hid (Rn.name (txt ls[0].cat) = true ∧ (∀ q : 0 < 0,Iv.lt (ls[0 - 1]'(by omega)).cat ls[0].cat = true)) := Lib.hid ⟨by rw [HRr.out]; exact HNm.out,fun q => absurd q (Nat.lt_irrefl _)⟩
       go_wp2
       refine wp_region_quiet_below (by kernel_rfl) (by kernel_rfl) ?_
       repeat (first | go_big_quiet_step (first | (go_at_call 110; exact c1 _ _)) | quiet_step (first | (go_at_call 110; exact c1 _ _)))
       refine wpQuiet_nil ?_
       intro _ hw'
       obtain ⟨⟨dq,osq⟩,hw''⟩ := hw'
       subst hw''
       have HBv := Lib.hid (bchain HBW.out (below_regrown W dq osq))
       have HCv := Lib.hid (HCW.out.below (below_regrown W dq osq))
       clear a0 a1 a2 a3 k0 k1 k2 k3 g0 g1 g2 g3 c1
       have hCv := HCv.out
       unfold Pt.C at hCv
       obtain ⟨e0,e1,e2,e3⟩ := hCv
       generalize grow (redrawn W dq) osq = V at *
       go_wp2_with fail
       refine (tax_any r.net r.bp V V (Below.refl _ _) HSh.out.2.2.1 HSh.out.2.1).mono ?_
       rintro e w2 ⟨rfl,b2⟩
       have HB2 := Lib.hid (bchain HBv.out b2)
       have hC2 := HCv.out.below b2
       unfold Pt.C at hC2
       clear e0 e1 e2 e3 b2
       obtain ⟨e0,e1,e2,e3⟩ := hC2
       unfold both
       by_cases t0 : Sh.taxE r.net r.bp = 0
       ·
        rw [t0]
        by_cases t1 : Sh.taxV r.net r.bp = r.tax
        ·
         have q1 : (Sh.taxV r.net r.bp == r.tax) = true := beq_iff_eq.2 t1
         have HYes := Lib.hid (Bl.part_step HT.out hkl HP.out (by rw [HRr.out]; exact ⟨t0,t1⟩))
         obtain ⟨tv,htv⟩ : ∃ tv,Sh.taxV r.net r.bp = tv := ⟨_,rfl⟩
         rw [htv] at q1 ⊢
         clear htv t0 t1
         go_wp2
         go_roundw
         case rel => exact ⟨1,by omega,by go_num,HYes,HB2⟩
         case measure => simp [intOf]; omega
        ·
         have q1 : (Sh.taxV r.net r.bp == r.tax) = false := beq_eq_false_iff_ne.2 t1
         have HNo : Hid (¬ Bl.PartR ls) := Lib.hid fun z => t1 (by have := (z.2.2 _ hkl).2.2.2; rw [HRr.out] at this; exact this)
         obtain ⟨tv,htv⟩ : ∃ tv,Sh.taxV r.net r.bp = tv := ⟨_,rfl⟩
         rw [htv] at q1 ⊢
         clear htv t0 t1
         go_wp2
         go_ret
         exact ⟨.inr ⟨HNo.out,rfl⟩,bchain HW.out HB2.out⟩
       ·
        have q1 : (Sh.taxE r.net r.bp == 0) = false := beq_eq_false_iff_ne.2 t0
        have HNo : Hid (¬ Bl.PartR ls) := Lib.hid fun z => t0 (by have := (z.2.2 _ hkl).2.2.1; rw [HRr.out] at this; exact this)
        obtain ⟨te,hte⟩ : ∃ te,Sh.taxE r.net r.bp = te := ⟨_,rfl⟩
        rw [hte] at q1 ⊢
        obtain ⟨tv,htv⟩ : ∃ tv,Sh.taxV r.net r.bp = tv := ⟨_,rfl⟩
        rw [htv]
        clear htv hte t0
        go_wp2
        go_ret
        exact ⟨.inr ⟨HNo.out,rfl⟩,bchain HW.out HB2.out⟩
      ·
       obtain ⟨j,rfl⟩ : ∃ j,k = j + 1 := ⟨k - 1,by omega⟩
       have hjr : j < ls.length := by omega
       obtain ⟨q,hq⟩ : ∃ q,ls[j] = q := ⟨_,rfl⟩
       have hrow2 := (HL.out.row j hjr).below HBW.out
       rw [hq] at hrow2
       have HQ := Lib.hid hq
       obtain ⟨f0,f1,f2,f3⟩ := hrow2
       have m0 := cell_regrown f0
       have m1 := cell_regrown f1
       have m2 := cell_regrown f2
       have m3 := cell_regrown f3
       have hjs : ((j + 1 : Nat) : Int) - 1 = (j : Int) := by omega
       clear hq hk0
       cases hlt2 : Op.bytesLess q.cat.toList r.cat.toList
       ·
        have HNo : Hid (¬ Bl.PartR ls) := Lib.hid fun z => by
         have h := (z.2.2 _ hkl).2.1 (by omega)
         simp only [Nat.add_sub_cancel,HQ.out,HRr.out] at h
         unfold Iv.lt at h
         rw [hlt2] at h
         cases h
        go_wp2
        refine wp_region_quiet_below (by kernel_rfl) (by kernel_rfl) ?_
        repeat (first | go_big_quiet_step (first | (go_at_call 110; exact c1 _ _)) | quiet_step (first | (go_at_call 110; exact c1 _ _)))
        refine wpQuiet_nil ?_
        intro _ hw'
        obtain ⟨⟨dq,osq⟩,hw''⟩ := hw'
        subst hw''
        have HBv := Lib.hid (bchain HBW.out (below_regrown W dq osq))
        have HCv := Lib.hid (HCW.out.below (below_regrown W dq osq))
        go_wp2
        go_ret
        exact ⟨.inr ⟨HNo.out,rfl⟩,bchain HW.out HBv.out⟩
       ·
        have HP : Hid (Rn.name (txt ls[j + 1].cat) = true ∧ (∀ q : 0 < j + 1,Iv.lt (ls[j + 1 - 1]'(by omega)).cat ls[j + 1].cat = true)) := Lib.hid ⟨by rw [HRr.out]; exact HNm.out,fun _ => by
         simp only [Nat.add_sub_cancel,HQ.out,HRr.out]
         exact hlt2⟩
        go_wp2
        refine wp_region_quiet_below (by kernel_rfl) (by kernel_rfl) ?_
        repeat (first | go_big_quiet_step (first | (go_at_call 110; exact c1 _ _)) | quiet_step (first | (go_at_call 110; exact c1 _ _)))
        refine wpQuiet_nil ?_
        intro _ hw'
        obtain ⟨⟨dq,osq⟩,hw''⟩ := hw'
        subst hw''
        have HBv := Lib.hid (bchain HBW.out (below_regrown W dq osq))
        have HCv := Lib.hid (HCW.out.below (below_regrown W dq osq))
        clear a0 a1 a2 a3 k0 k1 k2 k3 g0 g1 g2 g3 c1
        have hCv := HCv.out
        unfold Pt.C at hCv
        obtain ⟨e0,e1,e2,e3⟩ := hCv
        generalize grow (redrawn W dq) osq = V at *
        go_wp2_with fail
        refine (tax_any r.net r.bp V V (Below.refl _ _) HSh.out.2.2.1 HSh.out.2.1).mono ?_
        rintro e w2 ⟨rfl,b2⟩
        have HB2 := Lib.hid (bchain HBv.out b2)
        have hC2 := HCv.out.below b2
        unfold Pt.C at hC2
        clear e0 e1 e2 e3 b2
        obtain ⟨e0,e1,e2,e3⟩ := hC2
        unfold both
        by_cases t0 : Sh.taxE r.net r.bp = 0
        ·
         rw [t0]
         by_cases t1 : Sh.taxV r.net r.bp = r.tax
         ·
          have q1 : (Sh.taxV r.net r.bp == r.tax) = true := beq_iff_eq.2 t1
          have HYes := Lib.hid (Bl.part_step HT.out hkl HP.out (by rw [HRr.out]; exact ⟨t0,t1⟩))
          obtain ⟨tv,htv⟩ : ∃ tv,Sh.taxV r.net r.bp = tv := ⟨_,rfl⟩
          rw [htv] at q1 ⊢
          clear htv t0 t1
          go_wp2
          go_roundw
          case rel => exact ⟨j + 1 + 1,by omega,by go_num,HYes,HB2⟩
          case measure => simp [intOf]; omega
         ·
          have q1 : (Sh.taxV r.net r.bp == r.tax) = false := beq_eq_false_iff_ne.2 t1
          have HNo : Hid (¬ Bl.PartR ls) := Lib.hid fun z => t1 (by have := (z.2.2 _ hkl).2.2.2; rw [HRr.out] at this; exact this)
          obtain ⟨tv,htv⟩ : ∃ tv,Sh.taxV r.net r.bp = tv := ⟨_,rfl⟩
          rw [htv] at q1 ⊢
          clear htv t0 t1
          go_wp2
          go_ret
          exact ⟨.inr ⟨HNo.out,rfl⟩,bchain HW.out HB2.out⟩
        ·
         have q1 : (Sh.taxE r.net r.bp == 0) = false := beq_eq_false_iff_ne.2 t0
         have HNo : Hid (¬ Bl.PartR ls) := Lib.hid fun z => t0 (by have := (z.2.2 _ hkl).2.2.1; rw [HRr.out] at this; exact this)
         obtain ⟨te,hte⟩ : ∃ te,Sh.taxE r.net r.bp = te := ⟨_,rfl⟩
         rw [hte] at q1 ⊢
         obtain ⟨tv,htv⟩ : ∃ tv,Sh.taxV r.net r.bp = tv := ⟨_,rfl⟩
         rw [htv]
         clear htv hte t0
         go_wp2
         go_ret
         exact ⟨.inr ⟨HNo.out,rfl⟩,bchain HW.out HB2.out⟩
    ·
     obtain rfl : k = n := by omega
     have HYes : Hid (Bl.PartR ls) := Lib.hid ⟨fun z => (by have h := HN.out; have h2 := HLe.out.1; rw [z] at h; have h3 : k = 0 := h; omega),by have := HN.out; have := HLe.out; omega,fun i hi => HT.out i hi (by have := HN.out; omega)⟩
     go_wp2
     go_ret
     exact ⟨.inl ⟨HYes.out,rfl⟩,bchain HW.out HB.out⟩
end Go.Proofs.YtjpfpojbalepeaaGreat
namespace Go.Proofs.YtjpfpojbalepeaaGreat
open Go.RowKit
open Mem
open Go.Sort (grow)
def Bl.Wk (u : World) (g : Nat) (s : Int) : Prop := u.heap[g]? = some (.cells #[.int .u64 (Bl.hiW s),.int .u64 (Bl.loW s)] 168 (0,0))
theorem Bl.Wk.lt {u : World} {g : Nat} {s : Int} (h : Bl.Wk u g s) : g < u.heap.size := by
 obtain ⟨hl,_⟩ := Array.getElem?_eq_some_iff.1 h
 exact hl
theorem Bl.Wk.below {u v : World} {g : Nat} {s : Int} (h : Bl.Wk u g s) (b : Below u.heap.size u v) : Bl.Wk v g s := (b.block g h.lt).trans h
theorem Bl.infoW : (Tryz.prog.info? 168).map (·.size) = some 2 := by kernel_rfl
theorem Bl.Wk.cells {u : World} {g : Nat} {s : Int} (h : Bl.Wk u g s) : u.cell? ⟨g,0,none⟩ = some (.int .u64 (Bl.hiW s)) ∧ u.cell? ⟨g,1,none⟩ = some (.int .u64 (Bl.loW s)) := by
 refine ⟨?_,?_⟩
 all_goals
  rw [cell_of_row u g _ _ _ _ h]
  rfl
def Bl.layW (w : World) (g : Nat) (s : Int) : World := w.setRow g #[.int .u64 (Bl.hiW s),.int .u64 (Bl.loW s)]
theorem Bl.Wk.lay {w : World} {g : Nat} {s0 : Int} (h : Bl.Wk w g s0) (s : Int) : Bl.Wk (Bl.layW w g s) g s := setRow_heap w g _ _ 168 _ h
theorem Bl.Wk.other {w : World} {g b : Nat} {s : Int} (hA : Bl.Wk w g s) (hne : g ≠ b) (vs : Array Value) : Bl.Wk (w.setRow b vs) g s := (setRow_other w b g vs hne).trans hA
section
variable {ops : Array Oper} {o : Oper} {a : Act} {w : World} {K : Act → World → Prop} {Q : Exit → Act → World → Prop} {E : Prop} {S : World → Prop} {t : Tmp} {g : Nat}
theorem Bl.y_wide {s : Int} (hgd : o.guard = none) (ho : o.op = .load 168 (.tmp t)) (hp : a.tmps.toList[t]? = some (.pointer (some ⟨g,0,none⟩))) (hS : ∀ u,S u → Bl.Wk u g s) : YieldsIf Tryz.prog ops S o (.agg #[.int .u64 (Bl.hiW s),.int .u64 (Bl.loW s)]) a := by
 refine .inl ⟨by simp [Region.wanted,hgd],fun u hu => ?_⟩
 have e := run_loadVar_row (P := Tryz.prog) u g 168 168 #[.int .u64 (Bl.hiW s),.int .u64 (Bl.loW s)] (0,0) _ (hS u hu) Tryz.underlying168 rfl (by rw [Bl.infoW]; rfl)
 simp only [execOp,ho,Ca.evT hp,Instr.loadAt,Instr.sureAddr,Sem.run_bind,Sem.run_pure,Result.andThen_ok,e]
theorem Bl.y_pnet (hgd : o.guard = none) (ho : o.op = .fieldAddr 105 (.tmp t) 2) (hp : a.tmps.toList[t]? = some (.pointer (some ⟨g,0,none⟩))) : YieldsIf Tryz.prog ops S o (.pointer (some ⟨g,2,none⟩)) a := by
 refine .inl ⟨by simp [Region.wanted,hgd],fun u _ => ?_⟩
 simp only [execOp,ho,Ca.evT hp]
 simp [go_sem]
theorem Bl.y_ptax (hgd : o.guard = none) (ho : o.op = .fieldAddr 105 (.tmp t) 3) (hp : a.tmps.toList[t]? = some (.pointer (some ⟨g,0,none⟩))) : YieldsIf Tryz.prog ops S o (.pointer (some ⟨g,3,none⟩)) a := by
 refine .inl ⟨by simp [Region.wanted,hgd],fun u _ => ?_⟩
 simp only [execOp,ho,Ca.evT hp]
 simp [go_sem]
theorem Bl.y_intT {k : Nat} {n : Int} (hgd : o.guard = none) (ho : o.op = .load 3 (.tmp t)) (hp : a.tmps.toList[t]? = some (.pointer (some ⟨g,k,none⟩))) (hS : ∀ u,S u → u.cell? ⟨g,k,none⟩ = some (.int .i64 n)) : YieldsIf Tryz.prog ops S o (.int .i64 n) a := by
 refine .inl ⟨by simp [Region.wanted,hgd],fun u hu => ?_⟩
 have h := hS u hu
 simp only [execOp,ho,Ca.evT hp]
 simp [go_sem,h]
theorem Bl.step_wide {x y : Tmp} {s0 s : Int} (hgd : o.guard = none) (ho : o.op = .store 168 (.tmp x) (.tmp y)) (hd : o.dst = none) (hx : a.tmps.toList[x]? = some (.pointer (some ⟨g,0,none⟩))) (hy : a.tmps.toList[y]? = some (.agg #[.int .u64 (Bl.hiW s),.int .u64 (Bl.loW s)])) (hA : Bl.Wk w g s0)
  (k : K a (Bl.layW w g s)) : if Region.wanted o (yielded ops a.tmps) = true then Oper.wp Tryz.prog o a w K Q else E := by
 have hw : Region.wanted o (yielded ops a.tmps) = true := by simp [Region.wanted,hgd]
 rw [if_pos hw]
 refine wp_store_row 168 (.tmp x) (.tmp y) ho g #[.int .u64 (Bl.hiW s),.int .u64 (Bl.loW s)] (Ca.evT hx) (Ca.evT hy) 168 #[.int .u64 (Bl.hiW s0),.int .u64 (Bl.loW s0)] hA (by rw [Bl.infoW]; rfl) rfl (by simp [Value.oneCell']) ?_
 rw [hd]
 exact k
end
def Bl.wG (ops : Array Oper) (i : Nat) (l : List Bool) (D : List Nat) : Bool := waitsG .any ops 8 i D && openG l.toArray D
def Bl.chk10 (ops : Array Oper) : Bool := Region.noSelect ops && Bl.tk ops [false,false,false,false,false,false,false,false,false,false] 0 && Bl.tk ops [true,false,false,false,false,false,false,false,false,false] 1 && Bl.tk ops [true,true,false,false,false,false,false,false,false,false] 2 && Bl.tk ops [true,true,true,false,false,false,false,false,false,false] 4 && Bl.tk ops [true,true,true,false,true,false,false,false,false,false] 5 && Bl.tk ops [true,true,true,false,true,true,false,false,false,false] 6 && Bl.wG ops 0 [false,false,false,false,false,false,false,false,false,false] [8,9] && Bl.wG ops 1 [true,false,false,false,false,false,false,false,false,false] [8,9] && Bl.wG ops 2 [true,true,false,false,false,false,false,false,false,false] [8,9] && Bl.wG ops 4 [true,true,true,false,false,false,false,false,false,false] [7,8,9] && Bl.wG ops 5 [true,true,true,false,true,false,false,false,false,false] [6,7,8,9] && Bl.wG ops 6 [true,true,true,false,true,true,false,false,false,false] [7,8,9] && (Region.ready .any ops [true,true,true,false,true,true,true,false,false,false].toArray == [3]) && (Region.ready .any ops [true,true,true,true,true,true,true,false,false,false].toArray == [7]) && (Region.ready .any ops [true,true,true,true,true,true,true,true,false,false].toArray == [8]) && (Region.ready .any ops [true,true,true,true,true,true,true,true,true,false].toArray == [9]) && (Region.ready .any ops [true,true,true,true,true,true,true,true,true,true].toArray == [])
theorem Bl.chk10_iff (ops : Array Oper) : Bl.chk10 ops = true ↔ (((((((((((((((((Region.noSelect ops = true) ∧ (Bl.tk ops [false,false,false,false,false,false,false,false,false,false] 0 = true)) ∧ (Bl.tk ops [true,false,false,false,false,false,false,false,false,false] 1 = true)) ∧ (Bl.tk ops [true,true,false,false,false,false,false,false,false,false] 2 = true)) ∧ (Bl.tk ops [true,true,true,false,false,false,false,false,false,false] 4 = true)) ∧ (Bl.tk ops [true,true,true,false,true,false,false,false,false,false] 5 = true)) ∧ (Bl.tk ops [true,true,true,false,true,true,false,false,false,false] 6 = true)) ∧ (Bl.wG ops 0 [false,false,false,false,false,false,false,false,false,false] [8,9] = true)) ∧ (Bl.wG ops 1 [true,false,false,false,false,false,false,false,false,false] [8,9] = true)) ∧ (Bl.wG ops 2 [true,true,false,false,false,false,false,false,false,false] [8,9] = true)) ∧ (Bl.wG ops 4 [true,true,true,false,false,false,false,false,false,false] [7,8,9] = true)) ∧ (Bl.wG ops 5 [true,true,true,false,true,false,false,false,false,false] [6,7,8,9] = true)) ∧ (Bl.wG ops 6 [true,true,true,false,true,true,false,false,false,false] [7,8,9] = true)) ∧ (Region.ready .any ops [true,true,true,false,true,true,true,false,false,false].toArray = [3])) ∧ (Region.ready .any ops [true,true,true,true,true,true,true,false,false,false].toArray = [7])) ∧ (Region.ready .any ops [true,true,true,true,true,true,true,true,false,false].toArray = [8])) ∧ (Region.ready .any ops [true,true,true,true,true,true,true,true,true,false].toArray = [9])) ∧ (Region.ready .any ops [true,true,true,true,true,true,true,true,true,true].toArray = []) := by
 unfold Bl.chk10
 repeat rw [Bool.and_eq_true]
 simp only [beq_iff_eq]
theorem Bl.wp_sum {id : Nat} {o0 o1 o2 o3 o4 o5 o6 o7 o8 o9 : Oper} {a : Act} {w : World} {Q : Exit → Act → World → Prop} {S : World → Prop} (N T x y : Int) (v1 v5 : Value) (g3 g4 : Nat) {ty3 ty7 : Array TypeId} {a3 b3 a7 b7 x8 y8 x9 y9 : Tmp} (hx : Fit x) (hy : Fit y) (hSB : ∀ u,Below w.heap.size w u → S u) (hA : Bl.Wk w g3 N) (hB : Bl.Wk w g4 T) (hn : g3 ≠ g4) (hc : Bl.chk10 #[o0,o1,o2,o3,o4,o5,o6,o7,o8,o9] = true)
  (y0h : YieldsIf Tryz.prog #[o0,o1,o2,o3,o4,o5,o6,o7,o8,o9] S o0 (.agg #[.int .u64 (Bl.hiW N),.int .u64 (Bl.loW N)]) a) (q0 : ∀ c a w,Q (.panic c) (Act.put a o0.dst (.agg #[.int .u64 (Bl.hiW N),.int .u64 (Bl.loW N)])) w → Q (.panic c) a w) (y1h : YieldsIf Tryz.prog #[o0,o1,o2,o3,o4,o5,o6,o7,o8,o9] S o1 v1 (a.put o0.dst (.agg #[.int .u64 (Bl.hiW N),.int .u64 (Bl.loW N)]))) (q1 : ∀ c a w,Q (.panic c) (Act.put a o1.dst v1) w → Q (.panic c) a w) (y2h : YieldsIf Tryz.prog #[o0,o1,o2,o3,o4,o5,o6,o7,o8,o9] S o2 (.int .i64 x) ((a.put o0.dst (.agg #[.int .u64 (Bl.hiW N),.int .u64 (Bl.loW N)])).put o1.dst v1)) (q2 : ∀ c a w,Q (.panic c) (Act.put a o2.dst (.int .i64 x)) w → Q (.panic c) a w) (y4h : YieldsIf Tryz.prog #[o0,o1,o2,o3,o4,o5,o6,o7,o8,o9] S o4 (.agg #[.int .u64 (Bl.hiW T),.int .u64 (Bl.loW T)]) (((a.put o0.dst (.agg #[.int .u64 (Bl.hiW N),.int .u64 (Bl.loW N)])).put o1.dst v1).put o2.dst (.int .i64 x))) (q4 : ∀ c a w,Q (.panic c) (Act.put a o4.dst (.agg #[.int .u64 (Bl.hiW T),.int .u64 (Bl.loW T)])) w → Q (.panic c) a w) (y5h : YieldsIf Tryz.prog #[o0,o1,o2,o3,o4,o5,o6,o7,o8,o9] S o5 v5 ((((a.put o0.dst (.agg #[.int .u64 (Bl.hiW N),.int .u64 (Bl.loW N)])).put o1.dst v1).put o2.dst (.int .i64 x)).put o4.dst (.agg #[.int .u64 (Bl.hiW T),.int .u64 (Bl.loW T)]))) (q5 : ∀ c a w,Q (.panic c) (Act.put a o5.dst v5) w → Q (.panic c) a w) (y6h : YieldsIf Tryz.prog #[o0,o1,o2,o3,o4,o5,o6,o7,o8,o9] S o6 (.int .i64 y) (((((a.put o0.dst (.agg #[.int .u64 (Bl.hiW N),.int .u64 (Bl.loW N)])).put o1.dst v1).put o2.dst (.int .i64 x)).put o4.dst (.agg #[.int .u64 (Bl.hiW T),.int .u64 (Bl.loW T)])).put o5.dst v5)) (q6 : ∀ c a w,Q (.panic c) (Act.put a o6.dst (.int .i64 y)) w → Q (.panic c) a w)
  (hg3 : o3.guard = none) (ho3 : o3.op = .call { callee := .value (.func 117),args := #[.tmp a3,.tmp b3],argTypes := ty3 }) (e3 : ((((((a.put o0.dst (.agg #[.int .u64 (Bl.hiW N),.int .u64 (Bl.loW N)])).put o1.dst v1).put o2.dst (.int .i64 x)).put o4.dst (.agg #[.int .u64 (Bl.hiW T),.int .u64 (Bl.loW T)])).put o5.dst v5).put o6.dst (.int .i64 y)).tmps.toList[a3]? = some (.agg #[.int .u64 (Bl.hiW N),.int .u64 (Bl.loW N)])) (f3 : ((((((a.put o0.dst (.agg #[.int .u64 (Bl.hiW N),.int .u64 (Bl.loW N)])).put o1.dst v1).put o2.dst (.int .i64 x)).put o4.dst (.agg #[.int .u64 (Bl.hiW T),.int .u64 (Bl.loW T)])).put o5.dst v5).put o6.dst (.int .i64 y)).tmps.toList[b3]? = some (.int .i64 x))
  (hg7 : o7.guard = none) (ho7 : o7.op = .call { callee := .value (.func 117),args := #[.tmp a7,.tmp b7],argTypes := ty7 }) (e7 : (((((((a.put o0.dst (.agg #[.int .u64 (Bl.hiW N),.int .u64 (Bl.loW N)])).put o1.dst v1).put o2.dst (.int .i64 x)).put o4.dst (.agg #[.int .u64 (Bl.hiW T),.int .u64 (Bl.loW T)])).put o5.dst v5).put o6.dst (.int .i64 y)).put o3.dst (.agg #[.int .u64 (Bl.hiW (N + x)),.int .u64 (Bl.loW (N + x))])).tmps.toList[a7]? = some (.agg #[.int .u64 (Bl.hiW T),.int .u64 (Bl.loW T)])) (f7 : (((((((a.put o0.dst (.agg #[.int .u64 (Bl.hiW N),.int .u64 (Bl.loW N)])).put o1.dst v1).put o2.dst (.int .i64 x)).put o4.dst (.agg #[.int .u64 (Bl.hiW T),.int .u64 (Bl.loW T)])).put o5.dst v5).put o6.dst (.int .i64 y)).put o3.dst (.agg #[.int .u64 (Bl.hiW (N + x)),.int .u64 (Bl.loW (N + x))])).tmps.toList[b7]? = some (.int .i64 y))
  (hg8 : o8.guard = none) (ho8 : o8.op = .store 168 (.tmp x8) (.tmp y8)) (hd8 : o8.dst = none) (e8 : ((((((((a.put o0.dst (.agg #[.int .u64 (Bl.hiW N),.int .u64 (Bl.loW N)])).put o1.dst v1).put o2.dst (.int .i64 x)).put o4.dst (.agg #[.int .u64 (Bl.hiW T),.int .u64 (Bl.loW T)])).put o5.dst v5).put o6.dst (.int .i64 y)).put o3.dst (.agg #[.int .u64 (Bl.hiW (N + x)),.int .u64 (Bl.loW (N + x))])).put o7.dst (.agg #[.int .u64 (Bl.hiW (T + y)),.int .u64 (Bl.loW (T + y))])).tmps.toList[x8]? = some (.pointer (some ⟨g3,0,none⟩))) (f8 : ((((((((a.put o0.dst (.agg #[.int .u64 (Bl.hiW N),.int .u64 (Bl.loW N)])).put o1.dst v1).put o2.dst (.int .i64 x)).put o4.dst (.agg #[.int .u64 (Bl.hiW T),.int .u64 (Bl.loW T)])).put o5.dst v5).put o6.dst (.int .i64 y)).put o3.dst (.agg #[.int .u64 (Bl.hiW (N + x)),.int .u64 (Bl.loW (N + x))])).put o7.dst (.agg #[.int .u64 (Bl.hiW (T + y)),.int .u64 (Bl.loW (T + y))])).tmps.toList[y8]? = some (.agg #[.int .u64 (Bl.hiW (N + x)),.int .u64 (Bl.loW (N + x))]))
  (hg9 : o9.guard = none) (ho9 : o9.op = .store 168 (.tmp x9) (.tmp y9)) (hd9 : o9.dst = none) (e9 : ((((((((a.put o0.dst (.agg #[.int .u64 (Bl.hiW N),.int .u64 (Bl.loW N)])).put o1.dst v1).put o2.dst (.int .i64 x)).put o4.dst (.agg #[.int .u64 (Bl.hiW T),.int .u64 (Bl.loW T)])).put o5.dst v5).put o6.dst (.int .i64 y)).put o3.dst (.agg #[.int .u64 (Bl.hiW (N + x)),.int .u64 (Bl.loW (N + x))])).put o7.dst (.agg #[.int .u64 (Bl.hiW (T + y)),.int .u64 (Bl.loW (T + y))])).tmps.toList[x9]? = some (.pointer (some ⟨g4,0,none⟩))) (f9 : ((((((((a.put o0.dst (.agg #[.int .u64 (Bl.hiW N),.int .u64 (Bl.loW N)])).put o1.dst v1).put o2.dst (.int .i64 x)).put o4.dst (.agg #[.int .u64 (Bl.hiW T),.int .u64 (Bl.loW T)])).put o5.dst v5).put o6.dst (.int .i64 y)).put o3.dst (.agg #[.int .u64 (Bl.hiW (N + x)),.int .u64 (Bl.loW (N + x))])).put o7.dst (.agg #[.int .u64 (Bl.hiW (T + y)),.int .u64 (Bl.loW (T + y))])).tmps.toList[y9]? = some (.agg #[.int .u64 (Bl.hiW (T + y)),.int .u64 (Bl.loW (T + y))]))
  (k : ∀ u,Below w.heap.size w u → Q .normal ((((((((a.put o0.dst (.agg #[.int .u64 (Bl.hiW N),.int .u64 (Bl.loW N)])).put o1.dst v1).put o2.dst (.int .i64 x)).put o4.dst (.agg #[.int .u64 (Bl.hiW T),.int .u64 (Bl.loW T)])).put o5.dst v5).put o6.dst (.int .i64 y)).put o3.dst (.agg #[.int .u64 (Bl.hiW (N + x)),.int .u64 (Bl.loW (N + x))])).put o7.dst (.agg #[.int .u64 (Bl.hiW (T + y)),.int .u64 (Bl.loW (T + y))])) (Bl.layW (Bl.layW u g3 (N + x)) g4 (T + y))) :
  (Code.region id #[o0,o1,o2,o3,o4,o5,o6,o7,o8,o9] true).wp Tryz.prog Q a w := by
 rw [Bl.chk10_iff] at hc
 obtain ⟨⟨⟨⟨⟨⟨⟨⟨⟨⟨⟨⟨⟨⟨⟨⟨⟨c0,c1⟩,c2⟩,c3⟩,c4⟩,c5⟩,c6⟩,c7⟩,c8⟩,c9⟩,c10⟩,c11⟩,c12⟩,c13⟩,c14⟩,c15⟩,c16⟩,c17⟩ := hc
 have hw0 : Below w.heap.size w w.drew := (Below.refl _ _).drew
 have hH := hSB _ hw0
 refine Bl.startG (S := S) (x := 8) ?_
 show anyG Tryz.prog .any #[o0,o1,o2,o3,o4,o5,o6,o7,o8,o9] Q S 8 10 [false,false,false,false,false,false,false,false,false,false].toArray a w.drew
 refine Bl.tkG (i := 0) (oi := o0) rfl c0 c1 c7 q0 y0h hH ?_
 show anyG Tryz.prog .any #[o0,o1,o2,o3,o4,o5,o6,o7,o8,o9] Q S 8 9 [true,false,false,false,false,false,false,false,false,false].toArray _ _
 refine Bl.tkG (i := 1) (oi := o1) rfl c0 c2 c8 q1 y1h hH ?_
 show anyG Tryz.prog .any #[o0,o1,o2,o3,o4,o5,o6,o7,o8,o9] Q S 8 8 [true,true,false,false,false,false,false,false,false,false].toArray _ _
 refine Bl.tkG (i := 2) (oi := o2) rfl c0 c3 c9 q2 y2h hH ?_
 show anyG Tryz.prog .any #[o0,o1,o2,o3,o4,o5,o6,o7,o8,o9] Q S 8 7 [true,true,true,false,false,false,false,false,false,false].toArray _ _
 refine Bl.tkG (i := 4) (oi := o4) rfl c0 c4 c10 q4 y4h hH ?_
 show anyG Tryz.prog .any #[o0,o1,o2,o3,o4,o5,o6,o7,o8,o9] Q S 8 6 [true,true,true,false,true,false,false,false,false,false].toArray _ _
 refine Bl.tkG (i := 5) (oi := o5) rfl c0 c5 c11 q5 y5h hH ?_
 show anyG Tryz.prog .any #[o0,o1,o2,o3,o4,o5,o6,o7,o8,o9] Q S 8 5 [true,true,true,false,true,true,false,false,false,false].toArray _ _
 refine Bl.tkG (i := 6) (oi := o6) rfl c0 c6 c12 q6 y6h hH ?_
 show anyG Tryz.prog .any #[o0,o1,o2,o3,o4,o5,o6,o7,o8,o9] Q S 8 4 [true,true,true,false,true,true,true,false,false,false].toArray _ _
 refine Bl.oneG (i := 3) (oi := o3) rfl c13 (fun K hK => ?_)
 refine Bl.step_call hg3 (Bl.enters ho3 (vs := #[.agg #[.int .u64 (Bl.hiW N),.int .u64 (Bl.loW N)],.int .i64 x]) (by simp only [List.map_toArray,List.map_cons,List.map_nil,Ca.evT e3,Ca.evT f3]) Tryz.func117 (by kernel_rfl) rfl _) ((bil_plus N x w w.drew hw0 hx).mono ?_)
 rintro e u1 ⟨rfl,b1⟩
 refine ⟨_,rfl,hK.out _ _ (.inr (hSB _ b1)) ?_⟩
 clear hK K
 show anyG Tryz.prog .any #[o0,o1,o2,o3,o4,o5,o6,o7,o8,o9] Q S 8 3 [true,true,true,true,true,true,true,false,false,false].toArray _ _
 refine Bl.oneG (i := 7) (oi := o7) rfl c14 (fun K hK => ?_)
 refine Bl.step_call hg7 (Bl.enters ho7 (vs := #[.agg #[.int .u64 (Bl.hiW T),.int .u64 (Bl.loW T)],.int .i64 y]) (by simp only [List.map_toArray,List.map_cons,List.map_nil,Ca.evT e7,Ca.evT f7]) Tryz.func117 (by kernel_rfl) rfl _) ((bil_plus T y w u1 b1 hy).mono ?_)
 rintro e u2 ⟨rfl,b2⟩
 refine ⟨_,rfl,hK.out _ _ (.inr (hSB _ b2)) ?_⟩
 clear hK K
 show anyG Tryz.prog .any #[o0,o1,o2,o3,o4,o5,o6,o7,o8,o9] Q S 8 2 [true,true,true,true,true,true,true,true,false,false].toArray _ _
 refine Bl.oneG (i := 8) (oi := o8) rfl c15 (fun K hK => ?_)
 refine Bl.step_wide hg8 ho8 hd8 e8 f8 (hA.below b2) (hK.out _ _ (.inl (Nat.le_refl _)) ?_)
 clear hK K
 show anyG Tryz.prog .any #[o0,o1,o2,o3,o4,o5,o6,o7,o8,o9] Q S 8 1 [true,true,true,true,true,true,true,true,true,false].toArray _ _
 refine Bl.oneG (i := 9) (oi := o9) rfl c16 (fun K hK => ?_)
 refine Bl.step_wide hg9 ho9 hd9 e9 f9 ((hB.below b2).other (Ne.symm hn) _) (hK.out _ _ (.inl (by omega)) ?_)
 clear hK K
 exact anyG_done c17 (k u2 b2) _
def Bl.SumR (t : Iv.Tot) : Prop := t.net = Bl.netsP t.parts ∧ t.tax = Bl.taxesP t.parts ∧ t.gross = t.net + t.tax
theorem Bl.nets_take (l : List Pt.T) (k : Nat) (h : k < l.length) : Bl.netsP (l.take (k + 1)) = Bl.netsP (l.take k) + l[k].net := by
 induction l generalizing k with
 | nil => exact absurd h (Nat.not_lt_zero _)
 | cons p l ih =>
  cases k with
  | zero => simp [Bl.netsP]
  | succ k =>
   rw [List.take_succ_cons,List.take_succ_cons,Bl.netsP,Bl.netsP,ih k (by simpa using h),List.getElem_cons_succ]
   omega
theorem Bl.taxes_take (l : List Pt.T) (k : Nat) (h : k < l.length) : Bl.taxesP (l.take (k + 1)) = Bl.taxesP (l.take k) + l[k].tax := by
 induction l generalizing k with
 | nil => exact absurd h (Nat.not_lt_zero _)
 | cons p l ih =>
  cases k with
  | zero => simp [Bl.taxesP]
  | succ k =>
   rw [List.take_succ_cons,List.take_succ_cons,Bl.taxesP,Bl.taxesP,ih k (by simpa using h),List.getElem_cons_succ]
   omega
structure Bl.SmSt (w wr : World) (N X G : Int) (v : Value) (a b : Int) : Prop where
 bel : Below w.heap.size w wr
 tot : Tt.At wr w.heap.size N X G v
 s1 : Bl.Wk wr (w.heap.size + 1) a
 s2 : Bl.Wk wr (w.heap.size + 1 + 1) b
theorem Bl.SmSt.below {w wr v : World} {N X G : Int} {t : Value} {a b : Int} (h : Bl.SmSt w wr N X G t a b) (k : Below wr.heap.size wr v) : Bl.SmSt w v N X G t a b := ⟨bchain h.bel k,h.tot.below k,h.s1.below k,h.s2.below k⟩
theorem Bl.SmSt.lay {w wr : World} {N X G : Int} {t : Value} {a b : Int} (h : Bl.SmSt w wr N X G t a b) (a' b' : Int) : Bl.SmSt w (Bl.layW (Bl.layW wr (w.heap.size + 1) a') (w.heap.size + 1 + 1) b') N X G t a' b' :=
 ⟨below_setRow (below_setRow h.bel (by omega) _) (by omega) _,(setRow_other _ _ _ _ (by omega)).trans ((setRow_other _ _ _ _ (by omega)).trans h.tot),(h.s1.lay a').other (by omega) _,(h.s2.other (by omega) _).lay b'⟩
theorem plus_agU (s n : Int) (hn : Fit n) (u : World) (i : Nat) (os : Array Obj) : AnsU 117 #[.agg #[.int .u64 (Bl.hiW s),.int .u64 (Bl.loW s)],.int .i64 n] u i os (.agg #[.int .u64 (Bl.hiW (s + n)),.int .u64 (Bl.loW (s + n))]) :=
 Calls.regrown_of (bil_plus s n _ _ (Below.refl _ _) hn)
end Go.Proofs.YtjpfpojbalepeaaGreat
namespace Go.Proofs.YtjpfpojbalepeaaGreat
open Go.RowKit
open Mem
open Go.Sort (grow)
theorem Bl.w_zero : Bl.hiW 0 = 0 ∧ Bl.loW 0 = 0 := ⟨rfl,rfl⟩
theorem Bl.w_beq {a b : Int} (h : ¬ a = b) (ha : -170141183460469231731687303715884105728 ≤ a ∧ a < 170141183460469231731687303715884105728) (hb : -170141183460469231731687303715884105728 ≤ b ∧ b < 170141183460469231731687303715884105728) : (Bl.hiW a == Bl.hiW b) = false ∨ ((Bl.hiW a == Bl.hiW b) = true ∧ (Bl.loW a == Bl.loW b) = false) := by
 by_cases h1 : Bl.hiW a = Bl.hiW b
 · refine .inr ⟨beq_iff_eq.2 h1,beq_eq_false_iff_ne.2 fun h2 => h ((Bl.w_inj ha hb).1 ⟨h1,h2⟩)⟩
 · exact .inl (beq_eq_false_iff_ne.2 h1)
set_option maxHeartbeats 8000000 in
theorem bil_summed (t : Iv.Tot) (ao : Option Addr) (n cap : Nat) (w0 w : World) (hw : Below w0.heap.size w0 w) (hL : Pt.Ls w ao n cap t.parts) (hf : Fit t.net ∧ Fit t.tax ∧ Fit t.gross) (hn : n ≤ 1000) :
  Calls Tryz.prog 72 #[Tt.val t.net t.tax t.gross (.slice ao n cap)] w (Bl.YesE w0 (Bl.SumR t)) := by
 have HW := Lib.hid hw
 have HL := Lib.hid hL
 have HN := Lib.hid hL.len
 have HF := Lib.hid hf
 have hcap := hL.reach
 have hfit := hL.fits
 obtain ⟨U,hU,hB,k0,k1,k2,hs⟩ := Bl.al3 w (.cells #[.int .i64 t.net,.int .i64 t.tax,.int .i64 t.gross,.slice ao n cap] 64) (.cells #[.int .u64 0,.int .u64 0] 168) (.cells #[.int .u64 0,.int .u64 0] 168)
 have HS0 : Hid (Bl.SmSt w U t.net t.tax t.gross (.slice ao n cap) 0 0) := Lib.hid ⟨hB,k0,k1,k2⟩
 obtain ⟨x0,x1,x2,x3⟩ := HS0.out.tot.cells
 clear hL hw hf hB k0 k1 k2 hs
 unfold Tt.val
 go_enter Tryz.func72,Tryz.ntmps72
 go_wp2_with fail
 clear hU x0 x1 x2 x3
 go_loopw [6,10] (fun _ j wr => ∃ k : Nat,k ≤ n ∧ j = .int .i64 k ∧ Hid (Bl.SmSt w wr t.net t.tax t.gross (.slice ao n cap) (Bl.netsP (t.parts.take k)) (Bl.taxesP (t.parts.take k)) ∧ -((k : Int) * 9223372036854775808) ≤ Bl.netsP (t.parts.take k) ∧ Bl.netsP (t.parts.take k) ≤ (k : Int) * 9223372036854775808 ∧ -((k : Int) * 9223372036854775808) ≤ Bl.taxesP (t.parts.take k) ∧ Bl.taxesP (t.parts.take k) ≤ (k : Int) * 9223372036854775808)) (fun _ j _ => n - (intOf j).toNat)
 case atStart => exact ⟨0,by omega,rfl,Lib.hid ⟨HS0.out,by show -((0 : Int) * _) ≤ 0; omega,by show (0 : Int) ≤ 0 * _; omega,by show -((0 : Int) * _) ≤ 0; omega,by show (0 : Int) ≤ 0 * _; omega⟩⟩
 case round =>
  obtain ⟨k,hk,rfl,HR⟩ := hrel
  by_cases hlt : k < n
  ·
   obtain ⟨b,off,rfl⟩ := HL.out.at (by omega)
   have hkl : k < t.parts.length := HN.out ▸ hlt
   have HT1 := Lib.hid (Bl.nets_take t.parts k hkl)
   have HT2 := Lib.hid (Bl.taxes_take t.parts k hkl)
   have HSh := Lib.hid (HL.out.short _ (List.getElem_mem hkl))
   have hrow := (HL.out.row k hkl).below HR.out.1.bel
   obtain ⟨r,hr⟩ : ∃ r,t.parts[k] = r := ⟨_,rfl⟩
   rw [hr] at hrow HSh HT1 HT2
   clear hr
   obtain ⟨g0,g1,g2,g3⟩ := hrow
   obtain ⟨W,hW,hbW,hA⟩ := Pt.boxed1 wr r
   have HSW := Lib.hid (HR.out.1.below hbW)
   have HBd := Lib.hid HR.out.2
   have HCW := Lib.hid hA
   clear hbW hA
   generalize Bl.netsP (t.parts.take k) = A0 at *
   generalize Bl.taxesP (t.parts.take k) = B0 at *
   go_wp2_with fail
   clear hW
   refine Bl.wp_sum (S := fun u => Bl.Wk u (w.heap.size + 1) A0 ∧ Bl.Wk u (w.heap.size + 1 + 1) B0 ∧ Pt.C u wr.heap.size r) A0 B0 r.net r.tax (.pointer (some ⟨wr.heap.size,2,none⟩)) (.pointer (some ⟨wr.heap.size,3,none⟩)) (w.heap.size + 1) (w.heap.size + 1 + 1) HSh.out.2.2.1 HSh.out.2.2.2 ?_ HSW.out.s1 HSW.out.s2 (by omega) ?_ ?_ ?_ ?_ ?_ ?_ ?_ ?_ ?_ ?_ ?_ ?_ ?_ rfl rfl ?_ ?_ rfl rfl ?_ ?_ rfl rfl rfl ?_ ?_ rfl rfl rfl ?_ ?_ ?_
   ·
    intro u hb
    exact ⟨HSW.out.s1.below hb,HSW.out.s2.below hb,HCW.out.below hb⟩
   · kernel_rfl
   · exact Bl.y_wide (t := 3) rfl rfl (by kernel_rfl) fun u hu => hu.1
   · exact fun _ _ _ h => h
   · exact Bl.y_pnet (t := 6) rfl rfl (by kernel_rfl)
   · exact fun _ _ _ h => h
   · exact Bl.y_intT (t := 15) rfl rfl (by kernel_rfl) fun u hu => by have h := hu.2.2; unfold Pt.C at h; exact h.2.2.1
   · exact fun _ _ _ h => h
   · exact Bl.y_wide (t := 4) rfl rfl (by kernel_rfl) fun u hu => hu.2.1
   · exact fun _ _ _ h => h
   · exact Bl.y_ptax (t := 6) rfl rfl (by kernel_rfl)
   · exact fun _ _ _ h => h
   · exact Bl.y_intT (t := 19) rfl rfl (by kernel_rfl) fun u hu => by have h := hu.2.2; unfold Pt.C at h; exact h.2.2.2
   · exact fun _ _ _ h => h
   · kernel_rfl
   · kernel_rfl
   · kernel_rfl
   · kernel_rfl
   · kernel_rfl
   · kernel_rfl
   · kernel_rfl
   · kernel_rfl
   intro u hb
   have HS2 := Lib.hid ((HSW.out.below hb).lay (A0 + r.net) (B0 + r.tax))
   clear hb
   generalize Bl.layW (Bl.layW u (w.heap.size + 1) (A0 + r.net)) (w.heap.size + 1 + 1) (B0 + r.tax) = V at *
   go_wp2_with fail
   go_roundw
   case rel => exact ⟨k + 1,by omega,by go_num,Lib.hid ⟨by rw [HT1.out,HT2.out]; exact HS2.out,by rw [HT1.out]; have h1 := HBd.out; have h2 := HSh.out.2.2.1.1; omega,by rw [HT1.out]; have h1 := HBd.out; have h2 := HSh.out.2.2.1.2; omega,by rw [HT2.out]; have h1 := HBd.out; have h2 := HSh.out.2.2.2.1; omega,by rw [HT2.out]; have h1 := HBd.out; have h2 := HSh.out.2.2.2.2; omega⟩⟩
   case measure => simp [intOf]; omega
  ·
   obtain rfl : k = n := by omega
   have hEnd := HR.out
   rw [List.take_of_length_le (by rw [HN.out]; exact Nat.le_refl _)] at hEnd
   have HSt := Lib.hid hEnd.1
   have hbd : (-170141183460469231731687303715884105728 ≤ Bl.netsP t.parts ∧ Bl.netsP t.parts < 170141183460469231731687303715884105728) ∧ (-170141183460469231731687303715884105728 ≤ Bl.taxesP t.parts ∧ Bl.taxesP t.parts < 170141183460469231731687303715884105728) := by
    have h2 := hEnd.2
    have h3 : (k : Int) ≤ 1000 := by omega
    omega
   have HBn := Lib.hid hbd
   clear hEnd hbd
   obtain ⟨s0,s1⟩ := HSt.out.s1.cells
   obtain ⟨t0,t1⟩ := HSt.out.s2.cells
   obtain ⟨x0,x1,x2,x3⟩ := HSt.out.tot.cells
   have K0 := cell_regrown s0
   have K1 := cell_regrown s1
   have K2 := cell_regrown t0
   have K3 := cell_regrown t1
   have K4 := cell_regrown x0
   have K5 := cell_regrown x1
   have K6 := cell_regrown x2
   have K7 := cell_regrown x3
   have cN := fun i os => plus_agU 0 t.net HF.out.1 wr i os
   have cT := fun i os => plus_agU 0 t.tax HF.out.2.1 wr i os
   have cG := fun i os => plus_agU 0 t.gross HF.out.2.2 wr i os
   have cNT := fun i os => plus_agU (0 + t.net) t.tax HF.out.2.1 wr i os
   rw [Bl.w_zero.1,Bl.w_zero.2] at cN cT cG
   rw [Int.zero_add] at cN cT cG cNT
   have fn := HF.out.1
   have ft := HF.out.2.1
   have fg := HF.out.2.2
   have bn : -170141183460469231731687303715884105728 ≤ t.net ∧ t.net < 170141183460469231731687303715884105728 := ⟨by have := fn.1; omega,by have := fn.2; omega⟩
   have bt : -170141183460469231731687303715884105728 ≤ t.tax ∧ t.tax < 170141183460469231731687303715884105728 := ⟨by have := ft.1; omega,by have := ft.2; omega⟩
   have bg : -170141183460469231731687303715884105728 ≤ t.gross ∧ t.gross < 170141183460469231731687303715884105728 := ⟨by have := fg.1; omega,by have := fg.2; omega⟩
   have bs : -170141183460469231731687303715884105728 ≤ t.net + t.tax ∧ t.net + t.tax < 170141183460469231731687303715884105728 := ⟨by have := fn.1; have := ft.1; omega,by have := fn.2; have := ft.2; omega⟩
   clear s0 s1 t0 t1 x0 x1 x2 x3 fn ft fg
   have HX1 : Hid (¬ Bl.netsP t.parts = t.net → (Bl.hiW (Bl.netsP t.parts) == Bl.hiW t.net) = false ∨ ((Bl.hiW (Bl.netsP t.parts) == Bl.hiW t.net) = true ∧ (Bl.loW (Bl.netsP t.parts) == Bl.loW t.net) = false)) := Lib.hid fun z => Bl.w_beq z HBn.out.1 bn
   have HX2 : Hid (¬ Bl.taxesP t.parts = t.tax → (Bl.hiW (Bl.taxesP t.parts) == Bl.hiW t.tax) = false ∨ ((Bl.hiW (Bl.taxesP t.parts) == Bl.hiW t.tax) = true ∧ (Bl.loW (Bl.taxesP t.parts) == Bl.loW t.tax) = false)) := Lib.hid fun z => Bl.w_beq z HBn.out.2 bt
   have HX3 : Hid (¬ t.net + t.tax = t.gross → (Bl.hiW (t.net + t.tax) == Bl.hiW t.gross) = false ∨ ((Bl.hiW (t.net + t.tax) == Bl.hiW t.gross) = true ∧ (Bl.loW (t.net + t.tax) == Bl.loW t.gross) = false)) := Lib.hid fun z => Bl.w_beq z bs bg
   clear bn bt bg bs
   by_cases h1 : Bl.netsP t.parts = t.net
   ·
    rw [h1] at K0 K1
    by_cases h2 : Bl.taxesP t.parts = t.tax
    ·
     rw [h2] at K2 K3
     by_cases h3 : t.net + t.tax = t.gross
     ·
      have HYes : Hid (Bl.SumR t) := Lib.hid ⟨h1.symm,h2.symm,h3.symm⟩
      rw [h3] at cNT
      clear h1 h2 h3 HX1 HX2 HX3
      obtain ⟨a1,ha1⟩ : ∃ a1,Bl.hiW t.net = a1 := ⟨_,rfl⟩
      obtain ⟨b1,hb1⟩ : ∃ b1,Bl.loW t.net = b1 := ⟨_,rfl⟩
      obtain ⟨a2,ha2⟩ : ∃ a1,Bl.hiW t.tax = a1 := ⟨_,rfl⟩
      obtain ⟨b2,hb2⟩ : ∃ b1,Bl.loW t.tax = b1 := ⟨_,rfl⟩
      obtain ⟨a3,ha3⟩ : ∃ a1,Bl.hiW t.gross = a1 := ⟨_,rfl⟩
      obtain ⟨b3,hb3⟩ : ∃ b1,Bl.loW t.gross = b1 := ⟨_,rfl⟩
      rw [ha1] at K0
      rw [hb1] at K1
      rw [ha2] at K2
      rw [hb2] at K3
      rw [ha1,hb1] at cN cNT
      rw [ha2,hb2] at cT
      rw [ha3,hb3] at cNT cG
      clear ha1 hb1 ha2 hb2 ha3 hb3
      have r1 : (a1 == a1) = true := beq_self_eq_true _
      have r2 : (b1 == b1) = true := beq_self_eq_true _
      have r3 : (a2 == a2) = true := beq_self_eq_true _
      have r4 : (b2 == b2) = true := beq_self_eq_true _
      have r5 : (a3 == a3) = true := beq_self_eq_true _
      have r6 : (b3 == b3) = true := beq_self_eq_true _
      go_wp2
      refine wp_region_quiet_below (by kernel_rfl) (by kernel_rfl) ?_
      repeat (first | go_big_quiet_step (first | (go_at_call_of 117 a1; exact cNT _ _) | (go_at_call_of 117 (Value.int .i64 t.net); exact cN _ _) | (go_at_call_of 117 (Value.int .i64 t.tax); exact cT _ _) | (go_at_call_of 117 (Value.int .i64 t.gross); exact cG _ _)) | quiet_step (first | (go_at_call_of 117 a1; exact cNT _ _) | (go_at_call_of 117 (Value.int .i64 t.net); exact cN _ _) | (go_at_call_of 117 (Value.int .i64 t.tax); exact cT _ _) | (go_at_call_of 117 (Value.int .i64 t.gross); exact cG _ _)))
      refine wpQuiet_nil ?_
      intro _ hw'
      obtain ⟨⟨dq,osq⟩,hw''⟩ := hw'
      subst hw''
      have HBv := Lib.hid (bchain HSt.out.bel (below_regrown wr dq osq))
      go_wp2
      go_ret
      exact ⟨.inl ⟨HYes.out,rfl⟩,bchain HW.out HBv.out⟩
     ·
      have hx := HX3.out h3
      clear HX1 HX2 HX3
      obtain ⟨a1,ha1⟩ : ∃ a1,Bl.hiW t.net = a1 := ⟨_,rfl⟩
      obtain ⟨b1,hb1⟩ : ∃ b1,Bl.loW t.net = b1 := ⟨_,rfl⟩
      obtain ⟨a2,ha2⟩ : ∃ a1,Bl.hiW t.tax = a1 := ⟨_,rfl⟩
      obtain ⟨b2,hb2⟩ : ∃ b1,Bl.loW t.tax = b1 := ⟨_,rfl⟩
      rw [ha1] at K0
      rw [hb1] at K1
      rw [ha2] at K2
      rw [hb2] at K3
      rw [ha1,hb1] at cN cNT
      rw [ha2,hb2] at cT
      clear ha1 hb1 ha2 hb2
      have r1 : (a1 == a1) = true := beq_self_eq_true _
      have r2 : (b1 == b1) = true := beq_self_eq_true _
      have r3 : (a2 == a2) = true := beq_self_eq_true _
      have r4 : (b2 == b2) = true := beq_self_eq_true _
      have HNo : Hid (¬ Bl.SumR t) := Lib.hid fun z => h3 z.2.2.symm
      clear h1 h2 h3
      rcases hx with r5 | ⟨r5,r6⟩
      ·
       go_wp2
       refine wp_region_quiet_below (by kernel_rfl) (by kernel_rfl) ?_
       repeat (first | go_big_quiet_step (first | (go_at_call_of 117 a1; exact cNT _ _) | (go_at_call_of 117 (Value.int .i64 t.net); exact cN _ _) | (go_at_call_of 117 (Value.int .i64 t.tax); exact cT _ _) | (go_at_call_of 117 (Value.int .i64 t.gross); exact cG _ _)) | quiet_step (first | (go_at_call_of 117 a1; exact cNT _ _) | (go_at_call_of 117 (Value.int .i64 t.net); exact cN _ _) | (go_at_call_of 117 (Value.int .i64 t.tax); exact cT _ _) | (go_at_call_of 117 (Value.int .i64 t.gross); exact cG _ _)))
       refine wpQuiet_nil ?_
       intro _ hw'
       obtain ⟨⟨dq,osq⟩,hw''⟩ := hw'
       subst hw''
       have HBv := Lib.hid (bchain HSt.out.bel (below_regrown wr dq osq))
       go_wp2
       go_ret
       exact ⟨.inr ⟨HNo.out,rfl⟩,bchain HW.out HBv.out⟩
      ·
       go_wp2
       refine wp_region_quiet_below (by kernel_rfl) (by kernel_rfl) ?_
       repeat (first | go_big_quiet_step (first | (go_at_call_of 117 a1; exact cNT _ _) | (go_at_call_of 117 (Value.int .i64 t.net); exact cN _ _) | (go_at_call_of 117 (Value.int .i64 t.tax); exact cT _ _) | (go_at_call_of 117 (Value.int .i64 t.gross); exact cG _ _)) | quiet_step (first | (go_at_call_of 117 a1; exact cNT _ _) | (go_at_call_of 117 (Value.int .i64 t.net); exact cN _ _) | (go_at_call_of 117 (Value.int .i64 t.tax); exact cT _ _) | (go_at_call_of 117 (Value.int .i64 t.gross); exact cG _ _)))
       refine wpQuiet_nil ?_
       intro _ hw'
       obtain ⟨⟨dq,osq⟩,hw''⟩ := hw'
       subst hw''
       have HBv := Lib.hid (bchain HSt.out.bel (below_regrown wr dq osq))
       go_wp2
       go_ret
       exact ⟨.inr ⟨HNo.out,rfl⟩,bchain HW.out HBv.out⟩
    ·
     have hx := HX2.out h2
     clear HX1 HX2 HX3
     obtain ⟨a1,ha1⟩ : ∃ a1,Bl.hiW t.net = a1 := ⟨_,rfl⟩
     obtain ⟨b1,hb1⟩ : ∃ b1,Bl.loW t.net = b1 := ⟨_,rfl⟩
     rw [ha1] at K0
     rw [hb1] at K1
     rw [ha1,hb1] at cN cNT
     clear ha1 hb1
     have r1 : (a1 == a1) = true := beq_self_eq_true _
     have r2 : (b1 == b1) = true := beq_self_eq_true _
     have HNo : Hid (¬ Bl.SumR t) := Lib.hid fun z => h2 z.2.1.symm
     clear h1 h2
     rcases hx with r5 | ⟨r5,r6⟩
     ·
      go_wp2
      refine wp_region_quiet_below (by kernel_rfl) (by kernel_rfl) ?_
      repeat (first | go_big_quiet_step (first | (go_at_call_of 117 a1; exact cNT _ _) | (go_at_call_of 117 (Value.int .i64 t.net); exact cN _ _) | (go_at_call_of 117 (Value.int .i64 t.tax); exact cT _ _) | (go_at_call_of 117 (Value.int .i64 t.gross); exact cG _ _)) | quiet_step (first | (go_at_call_of 117 a1; exact cNT _ _) | (go_at_call_of 117 (Value.int .i64 t.net); exact cN _ _) | (go_at_call_of 117 (Value.int .i64 t.tax); exact cT _ _) | (go_at_call_of 117 (Value.int .i64 t.gross); exact cG _ _)))
      refine wpQuiet_nil ?_
      intro _ hw'
      obtain ⟨⟨dq,osq⟩,hw''⟩ := hw'
      subst hw''
      have HBv := Lib.hid (bchain HSt.out.bel (below_regrown wr dq osq))
      go_wp2
      go_ret
      exact ⟨.inr ⟨HNo.out,rfl⟩,bchain HW.out HBv.out⟩
     ·
      go_wp2
      refine wp_region_quiet_below (by kernel_rfl) (by kernel_rfl) ?_
      repeat (first | go_big_quiet_step (first | (go_at_call_of 117 a1; exact cNT _ _) | (go_at_call_of 117 (Value.int .i64 t.net); exact cN _ _) | (go_at_call_of 117 (Value.int .i64 t.tax); exact cT _ _) | (go_at_call_of 117 (Value.int .i64 t.gross); exact cG _ _)) | quiet_step (first | (go_at_call_of 117 a1; exact cNT _ _) | (go_at_call_of 117 (Value.int .i64 t.net); exact cN _ _) | (go_at_call_of 117 (Value.int .i64 t.tax); exact cT _ _) | (go_at_call_of 117 (Value.int .i64 t.gross); exact cG _ _)))
      refine wpQuiet_nil ?_
      intro _ hw'
      obtain ⟨⟨dq,osq⟩,hw''⟩ := hw'
      subst hw''
      have HBv := Lib.hid (bchain HSt.out.bel (below_regrown wr dq osq))
      go_wp2
      go_ret
      exact ⟨.inr ⟨HNo.out,rfl⟩,bchain HW.out HBv.out⟩
   ·
    have hx := HX1.out h1
    clear HX1 HX2 HX3
    obtain ⟨a1,ha1⟩ : ∃ a1,a1 = Bl.hiW t.net := ⟨_,rfl⟩
    have HNo : Hid (¬ Bl.SumR t) := Lib.hid fun z => h1 z.1.symm
    clear h1
    rcases hx with r5 | ⟨r5,r6⟩
    ·
     go_wp2
     refine wp_region_quiet_below (by kernel_rfl) (by kernel_rfl) ?_
     repeat (first | go_big_quiet_step (first | (fail; exact cNT _ _) | (go_at_call_of 117 (Value.int .i64 t.net); exact cN _ _) | (go_at_call_of 117 (Value.int .i64 t.tax); exact cT _ _) | (go_at_call_of 117 (Value.int .i64 t.gross); exact cG _ _)) | quiet_step (first | (fail; exact cNT _ _) | (go_at_call_of 117 (Value.int .i64 t.net); exact cN _ _) | (go_at_call_of 117 (Value.int .i64 t.tax); exact cT _ _) | (go_at_call_of 117 (Value.int .i64 t.gross); exact cG _ _)))
     refine wpQuiet_nil ?_
     intro _ hw'
     obtain ⟨⟨dq,osq⟩,hw''⟩ := hw'
     subst hw''
     have HBv := Lib.hid (bchain HSt.out.bel (below_regrown wr dq osq))
     go_wp2
     go_ret
     exact ⟨.inr ⟨HNo.out,rfl⟩,bchain HW.out HBv.out⟩
    ·
     go_wp2
     refine wp_region_quiet_below (by kernel_rfl) (by kernel_rfl) ?_
     repeat (first | go_big_quiet_step (first | (fail; exact cNT _ _) | (go_at_call_of 117 (Value.int .i64 t.net); exact cN _ _) | (go_at_call_of 117 (Value.int .i64 t.tax); exact cT _ _) | (go_at_call_of 117 (Value.int .i64 t.gross); exact cG _ _)) | quiet_step (first | (fail; exact cNT _ _) | (go_at_call_of 117 (Value.int .i64 t.net); exact cN _ _) | (go_at_call_of 117 (Value.int .i64 t.tax); exact cT _ _) | (go_at_call_of 117 (Value.int .i64 t.gross); exact cG _ _)))
     refine wpQuiet_nil ?_
     intro _ hw'
     obtain ⟨⟨dq,osq⟩,hw''⟩ := hw'
     subst hw''
     have HBv := Lib.hid (bchain HSt.out.bel (below_regrown wr dq osq))
     go_wp2
     go_ret
     exact ⟨.inr ⟨HNo.out,rfl⟩,bchain HW.out HBv.out⟩
end Go.Proofs.YtjpfpojbalepeaaGreat
namespace Go.Proofs.YtjpfpojbalepeaaGreat
open Go.RowKit
theorem leap_date (y : Int) (w : World) (h0 : 0 ≤ y) (h1 : y ≤ 10000) :
  Calls Tryz.prog 151 #[.int .i64 y] w fun e w' => e = .returned (.bool (Dt.leapB y)) ∧ w' = w := by
 go_enter Tryz.func151,Tryz.ntmps151
 by_cases a1 : y % 4 = 0
 ·
  by_cases a2 : y % 100 = 0
  ·
   have a3 : (y % 100 != 0) = false := by rw [a2]; rfl
   go_wp2
   go_ret
   refine ⟨ret_bool ?_,rfl⟩
   rw [Bool.eq_iff_iff,Dt.leap_iff,beq_iff_eq]
   omega
  ·
   have a3 : (y % 100 != 0) = true := bne_iff_ne.2 a2
   go_wp2
   go_ret
   exact ⟨ret_bool ((Dt.leap_iff y).2 ⟨a1,.inl a2⟩).symm,rfl⟩
 ·
  have a2 : (y % 4 == 0) = false := beq_eq_false_iff_ne.2 a1
  go_wp2
  go_ret
  refine ⟨ret_bool ?_,rfl⟩
  rw [Bool.eq_iff_iff,Dt.leap_iff,beq_iff_eq]
  omega
theorem length_date (y m : Int) (w : World) (h0 : 0 ≤ y) (h1 : y ≤ 10000) :
  Calls Tryz.prog 115 #[.int .i64 y,.int .i64 m] w fun e w' => e = .returned (.int .i64 (Dt.len y m)) ∧ w' = w := by
 by_cases h : m < 1 ∨ 12 < m
 ·
  have HL := Lib.hid (Dt.len_0 (y := y) h)
  have e1 : (m == 1) = false := beq_eq_false_iff_ne.2 (by omega)
  have e2 : (m == 2) = false := beq_eq_false_iff_ne.2 (by omega)
  have e3 : (m == 3) = false := beq_eq_false_iff_ne.2 (by omega)
  have e4 : (m == 4) = false := beq_eq_false_iff_ne.2 (by omega)
  have e5 : (m == 5) = false := beq_eq_false_iff_ne.2 (by omega)
  have e6 : (m == 6) = false := beq_eq_false_iff_ne.2 (by omega)
  have e7 : (m == 7) = false := beq_eq_false_iff_ne.2 (by omega)
  have e8 : (m == 8) = false := beq_eq_false_iff_ne.2 (by omega)
  have e9 : (m == 9) = false := beq_eq_false_iff_ne.2 (by omega)
  have e10 : (m == 10) = false := beq_eq_false_iff_ne.2 (by omega)
  have e11 : (m == 11) = false := beq_eq_false_iff_ne.2 (by omega)
  have e12 : (m == 12) = false := beq_eq_false_iff_ne.2 (by omega)
  clear h
  go_enter Tryz.func115,Tryz.ntmps115
  go_wp2_with fail
  go_ret
  exact ⟨ret_int HL.out.symm,rfl⟩
 ·
  have hm : m = 1 ∨ m = 2 ∨ m = 3 ∨ m = 4 ∨ m = 5 ∨ m = 6 ∨ m = 7 ∨ m = 8 ∨ m = 9 ∨ m = 10 ∨ m = 11 ∨ m = 12 := by omega
  clear h
  by_cases h2 : m = 2
  ·
   subst h2
   clear hm
   by_cases hl : Dt.leapB y = true
   ·
    have HL : Hid (Dt.len y 2 = 29) := Lib.hid (by rw [Dt.len_2,Dt.lp_true hl]; rfl)
    go_enter Tryz.func115,Tryz.ntmps115
    go_wp2_with fail
    refine (leap_date y _ h0 h1).mono ?_
    rintro e w1 ⟨rfl,hw1⟩
    subst hw1
    rw [hl]
    go_wp2_with fail
    go_ret
    exact ⟨ret_int HL.out.symm,rfl⟩
   ·
    have hl' : Dt.leapB y = false := by simpa using hl
    have HL : Hid (Dt.len y 2 = 28) := Lib.hid (by rw [Dt.len_2,Dt.lp_false hl']; rfl)
    clear hl
    go_enter Tryz.func115,Tryz.ntmps115
    go_wp2_with fail
    refine (leap_date y _ h0 h1).mono ?_
    rintro e w1 ⟨rfl,hw1⟩
    subst hw1
    rw [hl']
    go_wp2_with fail
    go_ret
    exact ⟨ret_int HL.out.symm,rfl⟩
  ·
   by_cases h3 : m = 4 ∨ m = 6 ∨ m = 9 ∨ m = 11
   ·
    have HL := Lib.hid (Dt.len_30 (y := y) h3)
    clear hm h2
    rcases h3 with rfl | rfl | rfl | rfl
    all_goals
     go_enter Tryz.func115,Tryz.ntmps115
     go_wp2_with fail
     go_ret
     exact ⟨ret_int HL.out.symm,rfl⟩
   ·
    have h4 : m = 1 ∨ m = 3 ∨ m = 5 ∨ m = 7 ∨ m = 8 ∨ m = 10 ∨ m = 12 := by omega
    have HL := Lib.hid (Dt.len_31 (y := y) h4)
    clear hm h2 h3
    rcases h4 with rfl | rfl | rfl | rfl | rfl | rfl | rfl
    all_goals
     go_enter Tryz.func115,Tryz.ntmps115
     go_wp2_with fail
     go_ret
     exact ⟨ret_int HL.out.symm,rfl⟩
theorem within_date (n a b : Int) (w : World) :
  Calls Tryz.prog 114 #[.int .i64 n,.int .i64 a,.int .i64 b] w fun e w' => e = .returned (.bool (decide (a ≤ n ∧ n ≤ b))) ∧ w' = w := by
 go_enter Tryz.func114,Tryz.ntmps114
 by_cases h1 : a ≤ n
 ·
  go_wp2
  go_ret
  exact ⟨ret_bool (by simp [h1]),rfl⟩
 ·
  go_wp2
  go_ret
  refine ⟨ret_bool ?_,rfl⟩
  rw [Bool.eq_iff_iff]
  simp
  omega
end Go.Proofs.YtjpfpojbalepeaaGreat
namespace Go.Proofs.YtjpfpojbalepeaaGreat
open Go.RowKit
theorem right_years {y m d : Int} (h : 1 ≤ y ∧ y ≤ 9999) : Dt.rightB y m d = decide (1 ≤ d ∧ d ≤ Dt.len y m) := by
 unfold Dt.rightB
 rw [Bool.eq_iff_iff,decide_eq_true_iff,decide_eq_true_iff]
 exact ⟨fun k => k.2.2,fun k => ⟨h.1,h.2,k⟩⟩
theorem right_noyear {y m d : Int} (h : ¬ (1 ≤ y ∧ y ≤ 9999)) : Dt.rightB y m d = false := by
 rw [Bool.eq_false_iff]
 intro k
 rw [Dt.right_iff] at k
 omega
set_option maxHeartbeats 1000000 in
theorem right_date (y m d : Int) (w0 w : World) (hw : Below w0.heap.size w0 w) (_hy : Fit y) (_hm : Fit m) (_hd : Fit d) :
  Calls Tryz.prog 70 #[dayV y m d] w fun e w' => e = .returned (.bool (Dt.rightB y m d)) ∧ Below w0.heap.size w0 w' := by
 have HW := Lib.hid hw
 clear hw
 unfold dayV
 by_cases h1 : 1 ≤ y ∧ y ≤ 9999
 ·
  have HR := Lib.hid (right_years (m := m) (d := d) h1)
  have hd1 : decide (1 ≤ y ∧ y ≤ 9999) = true := decide_eq_true h1
  go_enter Tryz.func70,Tryz.ntmps70
  go_wp2
  go_quiet (first | (go_at_call 115; exact Calls.quiet_of_same (length_date _ _ _ (by omega) (by omega))) | (go_at_call 114; exact Calls.quiet_of_same (within_date _ _ _ _)))
  go_wp2
  go_ret
  exact ⟨ret_bool (by rw [HR.out,Bool.decide_and]),below_drewN (below_box HW.out _) _⟩
 ·
  have HR := Lib.hid (right_noyear (m := m) (d := d) h1)
  have hd1 : decide (1 ≤ y ∧ y ≤ 9999) = false := decide_eq_false h1
  go_enter Tryz.func70,Tryz.ntmps70
  go_wp2
  go_quiet (first | (go_at_call 115; exact Calls.quiet_of_same (length_date _ _ _ (by omega) (by omega))) | (go_at_call 114; exact Calls.quiet_of_same (within_date _ _ _ _)))
  go_wp2
  go_ret
  exact ⟨ret_bool HR.out.symm,below_drewN (below_box HW.out _) _⟩
theorem ahead_date (y : Int) (w : World) (h0 : 1 ≤ y) (h1 : y ≤ 10000) :
  Calls Tryz.prog 173 #[.int .i64 y] w fun e w' => e = .returned (.int .i64 (Dt.yd y)) ∧ w' = w := by
 have HY : Hid (Dt.yd y = (y - 1) * 365 + (y - 1) / 4 - (y - 1) / 100 + (y - 1) / 400) := Lib.hid (by unfold Dt.yd; omega)
 go_enter Tryz.func173,Tryz.ntmps173
 go_wp2
 go_ret
 exact ⟨ret_int HY.out.symm,rfl⟩
set_option maxHeartbeats 1000000 in
theorem days_date (y m d : Int) (w0 w : World) (hw : Below w0.heap.size w0 w) (hy : Fit y) (hm : Fit m) (hd : Fit d) :
  Calls Tryz.prog 150 #[dayV y m d] w fun e w' => e = .returned (.int .i64 (Dt.days y m d)) ∧ Below w0.heap.size w0 w' := by
 have HW := Lib.hid hw
 clear hw
 by_cases h : Dt.rightB y m d = true
 ·
  rw [Dt.days_right h]
  obtain ⟨h1,h2,h3,h4,h5,h6⟩ := Dt.right_bd h
  have hn := Lib.hid (Dt.num_bd h)
  obtain ⟨hy0,hy1⟩ := Dt.yd_bd h1 (show y ≤ 10000 by omega)
  unfold dayV
  go_enter Tryz.func150,Tryz.ntmps150
  go_wp2_with fail
  refine (right_date y m d _ _ (Below.refl _ _) hy hm hd).mono ?_
  rintro e w1 ⟨rfl,b1⟩
  have HB1 := Lib.hid ((below_box HW.out _).trans (b1.mono (below_box HW.out _).size))
  obtain ⟨hc,hf⟩ := bcell b1
  clear b1 hy hm hd
  rw [h]
  go_wp2
  go_quiet ((go_at_call 173; exact Calls.quiet_of_same (ahead_date _ _ (by omega) (by omega))))
  go_wp2
  go_loop [3,4] (fun n i => ∃ k : Int,1 ≤ k ∧ k ≤ m ∧ i = .int .i64 k ∧ n = .int .i64 (Dt.yd y + d - 1 + Dt.cum y k)) (fun _ i => (m - intOf i).toNat)
  case atStart => exact ⟨1,by omega,h3,rfl,by rw [Dt.cum_1,Int.add_zero]⟩
  case round =>
   obtain ⟨k,hk0,hk1,rfl,rfl⟩ := hrel
   have hcb := Dt.cum_bd (y := y) hk0 (show k ≤ 13 by omega)
   by_cases hlt : k < m
   ·
    have hlb := Dt.len_bd y k
    have HS := Lib.hid (Dt.cum_succ y k hk0 (by omega))
    go_wp2_with fail
    refine (length_date y k _ (by omega) (by omega)).mono ?_
    rintro e w2 ⟨rfl,hw2⟩
    subst hw2
    go_wp2
    go_round
    case rel => exact ⟨k + 1,by omega,by omega,rfl,by rw [HS.out,← Int.add_assoc]⟩
    case measure => simp [intOf]; omega
   ·
    obtain rfl : k = m := by omega
    go_wp2
    go_ret
    exact ⟨ret_int (by unfold Dt.num; omega),below_drewN HB1.out _⟩
 ·
  have h' : Dt.rightB y m d = false := by simpa using h
  rw [Dt.days_not h']
  unfold dayV
  go_enter Tryz.func150,Tryz.ntmps150
  go_wp2_with fail
  refine (right_date y m d w0 _ (below_box HW.out _) hy hm hd).mono ?_
  rintro e w1 ⟨rfl,b1⟩
  have HB1 := Lib.hid b1
  clear b1
  rw [h']
  go_wp2
  go_ret
  exact ⟨rfl,HB1.out⟩
end Go.Proofs.YtjpfpojbalepeaaGreat
namespace Go.Proofs.YtjpfpojbalepeaaGreat
open Go.RowKit
def aheadB (y m d z n e : Int) : Bool := Dt.rightB y m d && Dt.rightB z n e && decide (Dt.num y m d < Dt.num z n e)
theorem ahead_not1 {y m d z n e : Int} (h : Dt.rightB y m d = false) : aheadB y m d z n e = false := by
 unfold aheadB
 rw [h]
 rfl
theorem ahead_not2 {y m d z n e : Int} (h : Dt.rightB z n e = false) : aheadB y m d z n e = false := by
 unfold aheadB
 rw [h,Bool.and_false]
 rfl
theorem ahead_both {y m d z n e : Int} (h : Dt.rightB y m d = true) (k : Dt.rightB z n e = true) : aheadB y m d z n e = decide (Dt.days y m d < Dt.days z n e) := by
 unfold aheadB
 rw [h,k,Dt.days_right h,Dt.days_right k]
 rfl
set_option maxHeartbeats 1000000 in
theorem before_date (y m d z n e : Int) (w0 w : World) (hw : Below w0.heap.size w0 w) (hy : Fit y) (hm : Fit m) (hd : Fit d) (hz : Fit z) (hn : Fit n) (he : Fit e) :
  Calls Tryz.prog 111 #[dayV y m d,dayV z n e] w fun en w' => en = .returned (.bool (aheadB y m d z n e)) ∧ Below w0.heap.size w0 w' := by
 have HW := Lib.hid hw
 have HF := Lib.hid (And.intro hy (And.intro hm (And.intro hd (And.intro hz (And.intro hn he)))))
 clear hw hy hm hd hz hn he
 unfold dayV
 obtain ⟨W,hW⟩ : ∃ W,(w.alloc (.cells #[.int .i64 y,.int .i64 m,.int .i64 d] 23)).alloc (.cells #[.int .i64 z,.int .i64 n,.int .i64 e] 23) = W := ⟨_,rfl⟩
 have HBW : Hid (Below w0.heap.size w0 W) := Lib.hid (hW ▸ below_box (below_box HW.out _) _)
 have l0 : ∀ u,Below W.heap.size W u → u.cell? ⟨w.heap.size,0,none⟩ = some (.int .i64 y) ∧ u.cell? ⟨w.heap.size,1,none⟩ = some (.int .i64 m) ∧ u.cell? ⟨w.heap.size,2,none⟩ = some (.int .i64 d) := fun u hb => by
  rw [(bcell hb).1 _ _ (by rw [← hW]; simp; omega),(bcell hb).1 _ _ (by rw [← hW]; simp; omega),(bcell hb).1 _ _ (by rw [← hW]; simp; omega),← hW]
  simp [go_sem]
 have l1 : ∀ u,Below W.heap.size W u → u.cell? ⟨w.heap.size + 1,0,none⟩ = some (.int .i64 z) ∧ u.cell? ⟨w.heap.size + 1,1,none⟩ = some (.int .i64 n) ∧ u.cell? ⟨w.heap.size + 1,2,none⟩ = some (.int .i64 e) := fun u hb => by
  rw [(bcell hb).1 _ _ (by rw [← hW]; simp),(bcell hb).1 _ _ (by rw [← hW]; simp),(bcell hb).1 _ _ (by rw [← hW]; simp),← hW]
  simp [go_sem]
 by_cases h1 : Dt.rightB y m d = true
 ·
  by_cases h2 : Dt.rightB z n e = true
  ·
   rw [ahead_both h1 h2]
   go_enter Tryz.func111,Tryz.ntmps111
   go_wp2
   go_region_held3 (fun u => Below W.heap.size W u) (first | assumption | exact (Below.refl _ _).drew) (first | (go_at_call 70; refine (right_date _ _ _ W _ (by assumption) (by first | exact HF.out.1 | exact HF.out.2.1 | exact HF.out.2.2.1 | exact HF.out.2.2.2.1 | exact HF.out.2.2.2.2.1 | exact HF.out.2.2.2.2.2) (by first | exact HF.out.1 | exact HF.out.2.1 | exact HF.out.2.2.1 | exact HF.out.2.2.2.1 | exact HF.out.2.2.2.2.1 | exact HF.out.2.2.2.2.2) (by first | exact HF.out.1 | exact HF.out.2.1 | exact HF.out.2.2.1 | exact HF.out.2.2.2.1 | exact HF.out.2.2.2.2.1 | exact HF.out.2.2.2.2.2)).mono ?_; rintro en w' ⟨rfl,b⟩) | (go_at_call 150; refine (days_date _ _ _ W _ (by assumption) (by first | exact HF.out.1 | exact HF.out.2.1 | exact HF.out.2.2.1 | exact HF.out.2.2.2.1 | exact HF.out.2.2.2.2.1 | exact HF.out.2.2.2.2.2) (by first | exact HF.out.1 | exact HF.out.2.1 | exact HF.out.2.2.1 | exact HF.out.2.2.2.1 | exact HF.out.2.2.2.2.1 | exact HF.out.2.2.2.2.2) (by first | exact HF.out.1 | exact HF.out.2.1 | exact HF.out.2.2.1 | exact HF.out.2.2.2.1 | exact HF.out.2.2.2.2.1 | exact HF.out.2.2.2.2.2)).mono ?_; rintro en w' ⟨rfl,b⟩))
   go_wp2
   go_ret
   exact ⟨rfl,HBW.out.trans (b.mono HBW.out.size)⟩
  ·
   have h2' : Dt.rightB z n e = false := by simpa using h2
   clear h2
   rw [ahead_not2 h2']
   go_enter Tryz.func111,Tryz.ntmps111
   go_wp2
   obtain ⟨g0,g1,g2⟩ := l0 W.drew (Below.refl _ _).drew
   obtain ⟨g3,g4,g5⟩ := l1 W.drew (Below.refl _ _).drew
   go_region_with (go_at_call 70; refine (right_date _ _ _ W _ (by first | assumption | exact (Below.refl _ _).drew) (by first | exact HF.out.1 | exact HF.out.2.1 | exact HF.out.2.2.1 | exact HF.out.2.2.2.1 | exact HF.out.2.2.2.2.1 | exact HF.out.2.2.2.2.2) (by first | exact HF.out.1 | exact HF.out.2.1 | exact HF.out.2.2.1 | exact HF.out.2.2.2.1 | exact HF.out.2.2.2.2.1 | exact HF.out.2.2.2.2.2) (by first | exact HF.out.1 | exact HF.out.2.1 | exact HF.out.2.2.1 | exact HF.out.2.2.2.1 | exact HF.out.2.2.2.2.1 | exact HF.out.2.2.2.2.2)).mono ?_; rintro en w' ⟨rfl,b⟩; obtain ⟨k0,k1,k2⟩ := l0 _ b; obtain ⟨k3,k4,k5⟩ := l1 _ b; first | rw [h1] | rw [h2'])
   all_goals
    go_wp2
    go_ret
    exact ⟨rfl,HBW.out.trans (b.mono HBW.out.size)⟩
 ·
  have h1' : Dt.rightB y m d = false := by simpa using h1
  clear h1
  rw [ahead_not1 h1']
  go_enter Tryz.func111,Tryz.ntmps111
  go_wp2
  obtain ⟨g0,g1,g2⟩ := l0 W.drew (Below.refl _ _).drew
  obtain ⟨g3,g4,g5⟩ := l1 W.drew (Below.refl _ _).drew
  go_region_with (go_at_call 70; refine (right_date _ _ _ W _ (by first | assumption | exact (Below.refl _ _).drew) (by first | exact HF.out.1 | exact HF.out.2.1 | exact HF.out.2.2.1 | exact HF.out.2.2.2.1 | exact HF.out.2.2.2.2.1 | exact HF.out.2.2.2.2.2) (by first | exact HF.out.1 | exact HF.out.2.1 | exact HF.out.2.2.1 | exact HF.out.2.2.2.1 | exact HF.out.2.2.2.2.1 | exact HF.out.2.2.2.2.2) (by first | exact HF.out.1 | exact HF.out.2.1 | exact HF.out.2.2.1 | exact HF.out.2.2.2.1 | exact HF.out.2.2.2.2.1 | exact HF.out.2.2.2.2.2)).mono ?_; rintro en w' ⟨rfl,b⟩; obtain ⟨k0,k1,k2⟩ := l0 _ b; obtain ⟨k3,k4,k5⟩ := l1 _ b; rw [h1'])
  all_goals
   go_wp2
   go_ret
   exact ⟨rfl,HBW.out.trans (b.mono HBW.out.size)⟩
end Go.Proofs.YtjpfpojbalepeaaGreat
namespace Go.Proofs.YtjpfpojbalepeaaGreat
open Go.RowKit
open Mem
open Go.Sort (grow)
def Bl.EachR (l : List Bl.Ps) : Prop := ∀ p ∈ l,Dt.rightB p.y p.m p.d = true ∧ Bl.TotR p.tot
set_option maxHeartbeats 8000000 in
theorem bil_reckoned (ps : List Bl.Ps) (rs : List Pd.T) (ao : Option Addr) (n cap : Nat) (w0 w : World) (hw : Below w0.heap.size w0 w) (hL : Pd.Ls w ao n cap rs) (hE : Bl.Each w rs ps) :
  Calls Tryz.prog 32 #[.slice ao n cap] w (Bl.YesE w0 (Bl.EachR ps)) := by
 have HW := Lib.hid hw
 have HL := Lib.hid hL
 have HN := Lib.hid hL.len
 have HE := Lib.hid hE
 have hcap := hL.reach
 have hfit := hL.fits
 clear hL hw hE
 go_enter Tryz.func32,Tryz.ntmps32
 go_wp2_with fail
 go_loopw [4,7] (fun _ j wr => ∃ k : Nat,k ≤ n ∧ j = .int .i64 k ∧ Hid (Bl.EachR (ps.take k)) ∧ Hid (Below w.heap.size w wr)) (fun _ j _ => n - (intOf j).toNat)
 case atStart => exact ⟨0,by omega,rfl,Lib.hid (fun _ h => by cases h),Lib.hid (Below.refl _ _)⟩
 case round =>
  obtain ⟨k,hk,rfl,HT,HB⟩ := hrel
  by_cases hlt : k < n
  ·
   obtain ⟨b,off,rfl⟩ := HL.out.at (by omega)
   have hkl : k < rs.length := HN.out ▸ hlt
   have hkp : k < ps.length := HE.out.len ▸ hkl
   have hrow := (HL.out.row k hkl).below HB.out
   have HSh := Lib.hid (HL.out.short _ (List.getElem_mem hkl))
   have hI := HE.out.each k hkl
   have HMe := Lib.hid (List.getElem_mem hkp)
   have HS := Lib.hid (List.take_succ_eq_append_getElem hkp)
   obtain ⟨r,hr⟩ : ∃ r,rs[k] = r := ⟨_,rfl⟩
   obtain ⟨p,hp⟩ : ∃ p,ps[k] = p := ⟨_,rfl⟩
   rw [hr] at hrow hI HSh
   rw [hp] at hI HS HMe
   clear hr hp
   have hA := Pd.c_box wr r
   have HBW := Lib.hid (bchain HB.out (Pd.below_own wr r))
   have HI := Lib.hid (hI.below (bchain HB.out (Pd.below_own wr r)))
   have HA := Lib.hid hA
   have hA' := hA
   unfold Pd.C at hA'
   obtain ⟨a0,a1,a2,a3,a4,a5,a6,a7,a8,a9,a10,a11⟩ := hA'
   clear hA hI
   go_wp2_with (first | ((with_reducible apply Pd.wpl_load hrow); rfl; rfl; rfl) | ((with_reducible apply Pd.wpl_store (r := r) (g := wr.heap.size)); rfl; rfl; rfl; rfl; rfl; rfl))
   refine (right_date r.y r.m r.d _ _ (Below.refl _ _) HSh.out.2.2.1 HSh.out.2.2.2.1 HSh.out.2.2.2.2.1).mono ?_
   rintro e w1 ⟨rfl,b1⟩
   have HB1 := Lib.hid (bchain HBW.out b1)
   have HI1 := Lib.hid (HI.out.below b1)
   have HA1 := Lib.hid (HA.out.below b1)
   clear b1 a0 a1 a2 a3 a4 a5 a6 a7 a8 a9 a10 a11 hrow
   cases hr : Dt.rightB r.y r.m r.d
   ·
    have HNo : Hid (¬ Bl.EachR ps) := Lib.hid fun z => by
     have h := (z p HMe.out).1
     rw [← HI.out.y,← HI.out.m,← HI.out.d,hr] at h
     cases h
    clear hr
    go_wp2_with fail
    go_ret
    exact ⟨.inr ⟨HNo.out,rfl⟩,bchain HW.out HB1.out⟩
   ·
    have HRt : Hid (Dt.rightB p.y p.m p.d = true) := Lib.hid (by rw [← HI.out.y,← HI.out.m,← HI.out.d]; exact hr)
    clear hr
    have hA' := HA1.out
    unfold Pd.C at hA'
    obtain ⟨a0,a1,a2,a3,a4,a5,a6,a7,a8,a9,a10,a11⟩ := hA'
    go_wp2_with fail
    refine (bil_parted p.tot.parts r.parts.ao r.parts.n r.parts.cap w1 w1 (Below.refl _ _) HI1.out.parts).mono ?_
    rintro e w2 ⟨hcase,b2⟩
    have HB2 := Lib.hid (bchain HB1.out b2)
    have HI2 := Lib.hid (HI1.out.below b2)
    have HA2 := Lib.hid (HA1.out.below b2)
    clear b2 a0 a1 a2 a3 a4 a5 a6 a7 a8 a9 a10 a11
    rcases hcase with ⟨hpt,rfl⟩ | ⟨hno,rfl⟩
    ·
     have HPt := Lib.hid hpt
     clear hpt
     have hA' := HA2.out
     unfold Pd.C at hA'
     obtain ⟨a0,a1,a2,a3,a4,a5,a6,a7,a8,a9,a10,a11⟩ := hA'
     have HFi : Hid (Fit p.tot.net ∧ Fit p.tot.tax ∧ Fit p.tot.gross) := Lib.hid ⟨HI.out.net ▸ HSh.out.2.2.2.2.2.1,HI.out.tax ▸ HSh.out.2.2.2.2.2.2.1,HI.out.gross ▸ HSh.out.2.2.2.2.2.2.2.1⟩
     have HSm := Lib.hid (bil_summed p.tot r.parts.ao r.parts.n r.parts.cap w2 w2 (Below.refl _ _) HI2.out.parts HFi.out (by have h1 := HI2.out.parts.len; have h2 := HPt.out.2.1; omega))
     rw [← HI.out.net,← HI.out.tax,← HI.out.gross] at HSm
     unfold Tt.val at HSm
     go_wp2_with fail
     refine HSm.out.mono ?_
     rintro e w3 ⟨hcase,b3⟩
     have HB3 := Lib.hid (bchain HB2.out b3)
     clear b3 a0 a1 a2 a3 a4 a5 a6 a7 a8 a9 a10 a11 HSm
     rcases hcase with ⟨hsm,rfl⟩ | ⟨hno,rfl⟩
     ·
      have HTo : Hid (Bl.TotR p.tot) := Lib.hid (Bl.part_tot.2 ⟨HPt.out,hsm.1,hsm.2.1,hsm.2.2,HFi.out⟩)
      clear hsm
      go_wp2_with fail
      go_roundw
      case rel =>
       refine ⟨k + 1,by omega,by go_num,Lib.hid ?_,HB3⟩
       rw [HS.out]
       intro y hy
       rcases List.mem_append.1 hy with h | h
       · exact HT.out y h
       ·
        rw [List.mem_singleton.1 h]
        exact ⟨HRt.out,HTo.out⟩
      case measure => simp [intOf]; omega
     ·
      have HNo : Hid (¬ Bl.EachR ps) := Lib.hid fun z => by
       have h := Bl.part_tot.1 (z p HMe.out).2
       exact hno ⟨h.2.1,h.2.2.1,h.2.2.2.1⟩
      clear hno
      go_wp2_with fail
      go_ret
      exact ⟨.inr ⟨HNo.out,rfl⟩,bchain HW.out HB3.out⟩
    ·
     have HNo : Hid (¬ Bl.EachR ps) := Lib.hid fun z => hno (Bl.part_tot.1 (z p HMe.out).2).1
     clear hno
     go_wp2_with fail
     go_ret
     exact ⟨.inr ⟨HNo.out,rfl⟩,bchain HW.out HB2.out⟩
  ·
   obtain rfl : k = n := by omega
   have HYes : Hid (Bl.EachR ps) := Lib.hid (by
    have h := HT.out
    rw [List.take_of_length_le (by rw [HN.out,HE.out.len]; exact Nat.le_refl _)] at h
    exact h)
   go_wp2_with fail
   go_ret
   exact ⟨.inl ⟨HYes.out,rfl⟩,bchain HW.out HB.out⟩
end Go.Proofs.YtjpfpojbalepeaaGreat
namespace Go.Proofs.YtjpfpojbalepeaaGreat.Pt
open Go.RowKit
open Mem
open Go.Sort (grow)
set_option maxHeartbeats 4000000 in
theorem equal_any (xs ys : List T) (ao bo : Option Addr) (n m ca cb : Nat) (w0 w : World) (hw : Below w0.heap.size w0 w) (hA : Ls w ao n ca xs) (hB : Ls w bo m cb ys) :
  Calls Tryz.prog 156 #[.slice ao n ca,.slice bo m cb] w fun e w' => e = .returned (.bool (sameB xs ys)) ∧ Below w0.heap.size w0 w' := by
 have HW := Lib.hid hw
 have HA := Lib.hid hA
 have HB := Lib.hid hB
 have HN := Lib.hid hA.len
 have HM := Lib.hid hB.len
 have hca := hA.reach
 have hfa := hA.fits
 have hcb := hB.reach
 have hfb := hB.fits
 clear hw hA hB
 by_cases hnm : n = m
 ·
  subst hnm
  have hne : ((n : Int) != (n : Int)) = false := bne_self_eq_false _
  go_enter Tryz.func156,Tryz.ntmps156
  go_wp2
  go_loopw [5,13] (fun _ i wr => ∃ k : Nat,k ≤ n ∧ i = .int .i64 k ∧ Hid (sameB (xs.drop k) (ys.drop k) = sameB xs ys) ∧ Hid (Below w.heap.size w wr)) (fun _ i _ => n - (intOf i).toNat)
  case atStart => exact ⟨0,Nat.zero_le _,rfl,Lib.hid rfl,Lib.hid (Below.refl _ _)⟩
  case round =>
   obtain ⟨k,hk,rfl,HK,HBz⟩ := hrel
   by_cases hlt : k < n
   ·
    obtain ⟨a,oa,rfl⟩ := HA.out.at (by omega)
    obtain ⟨b,ob,rfl⟩ := HB.out.at (by omega)
    have hkr : k < xs.length := HN.out ▸ hlt
    have hks : k < ys.length := HM.out ▸ hlt
    have HSt := Lib.hid (same_at xs ys k hkr hks)
    obtain ⟨r,hr⟩ : ∃ r,xs[k] = r := ⟨_,rfl⟩
    obtain ⟨s,hs⟩ : ∃ s,ys[k] = s := ⟨_,rfl⟩
    have h1 := (HA.out.row k hkr).below HBz.out
    have h2 := (HB.out.row k hks).below HBz.out
    rw [hr] at h1 HSt
    rw [hs] at h2 HSt
    clear hr hs
    obtain ⟨g0,g1,g2,g3⟩ := h1
    obtain ⟨f0,f1,f2,f3⟩ := h2
    have g0' := cell_regrown g0
    have g1' := cell_regrown g1
    have g2' := cell_regrown g2
    have g3' := cell_regrown g3
    have f0' := cell_regrown f0
    have f1' := cell_regrown f1
    have f2' := cell_regrown f2
    have f3' := cell_regrown f3
    clear g0 g1 g2 g3 f0 f1 f2 f3
    by_cases e0 : r.cat = s.cat
    ·
     have q0 : (r.cat.toList == s.cat.toList) = true := beq_iff_eq.2 (by rw [e0])
     by_cases e1 : r.bp = s.bp
     ·
      have q1 : (r.bp == s.bp) = true := beq_iff_eq.2 e1
      by_cases e2 : r.net = s.net
      ·
       have q2 : (r.net == s.net) = true := beq_iff_eq.2 e2
       by_cases e3 : r.tax = s.tax
       ·
        have q3 : (r.tax == s.tax) = true := beq_iff_eq.2 e3
        have HE : Hid (eqB r s = true) := Lib.hid (decide_eq_true ⟨e0,e1,e2,e3⟩)
        clear e0 e1 e2 e3
        go_wp2
        refine wp_region_quiet_below (by kernel_rfl) (by kernel_rfl) ?_
        repeat (first | go_big_quiet_step (fail) | quiet_step (fail))
        refine wpQuiet_nil ?_
        intro _ hw'
        obtain ⟨⟨dq,osq⟩,hw''⟩ := hw'
        subst hw''
        have HBv := Lib.hid (bchain HBz.out (below_regrown wr dq osq))
        go_wp2
        go_roundw
        case rel => exact ⟨k + 1,by omega,by go_num,Lib.hid (by rw [← HK.out,HSt.out,HE.out,Bool.true_and]),HBv⟩
        case measure => simp [intOf]; omega
       ·
        have q3 : (r.tax == s.tax) = false := beq_eq_false_iff_ne.2 e3
        have HE : Hid (eqB r s = false) := Lib.hid (decide_eq_false fun h => e3 h.2.2.2)
        clear e0 e1 e2 e3
        go_wp2
        refine wp_region_quiet_below (by kernel_rfl) (by kernel_rfl) ?_
        repeat (first | go_big_quiet_step (fail) | quiet_step (fail))
        refine wpQuiet_nil ?_
        intro _ hw'
        obtain ⟨⟨dq,osq⟩,hw''⟩ := hw'
        subst hw''
        have HBv := Lib.hid (bchain HBz.out (below_regrown wr dq osq))
        go_wp2
        go_ret
        exact ⟨ret_bool (by rw [← HK.out,HSt.out,HE.out,Bool.false_and]),bchain HW.out HBv.out⟩
      ·
       have q2 : (r.net == s.net) = false := beq_eq_false_iff_ne.2 e2
       have HE : Hid (eqB r s = false) := Lib.hid (decide_eq_false fun h => e2 h.2.2.1)
       clear e0 e1 e2
       go_wp2
       refine wp_region_quiet_below (by kernel_rfl) (by kernel_rfl) ?_
       repeat (first | go_big_quiet_step (fail) | quiet_step (fail))
       refine wpQuiet_nil ?_
       intro _ hw'
       obtain ⟨⟨dq,osq⟩,hw''⟩ := hw'
       subst hw''
       have HBv := Lib.hid (bchain HBz.out (below_regrown wr dq osq))
       go_wp2
       go_ret
       exact ⟨ret_bool (by rw [← HK.out,HSt.out,HE.out,Bool.false_and]),bchain HW.out HBv.out⟩
     ·
      have q1 : (r.bp == s.bp) = false := beq_eq_false_iff_ne.2 e1
      have HE : Hid (eqB r s = false) := Lib.hid (decide_eq_false fun h => e1 h.2.1)
      clear e0 e1
      go_wp2
      refine wp_region_quiet_below (by kernel_rfl) (by kernel_rfl) ?_
      repeat (first | go_big_quiet_step (fail) | quiet_step (fail))
      refine wpQuiet_nil ?_
      intro _ hw'
      obtain ⟨⟨dq,osq⟩,hw''⟩ := hw'
      subst hw''
      have HBv := Lib.hid (bchain HBz.out (below_regrown wr dq osq))
      go_wp2
      go_ret
      exact ⟨ret_bool (by rw [← HK.out,HSt.out,HE.out,Bool.false_and]),bchain HW.out HBv.out⟩
    ·
     have q0 : (r.cat.toList == s.cat.toList) = false := beq_eq_false_iff_ne.2 fun h => e0 (txt_ext (by rw [← tl,← tl]; exact h))
     have HE : Hid (eqB r s = false) := Lib.hid (decide_eq_false fun h => e0 h.1)
     clear e0
     go_wp2
     refine wp_region_quiet_below (by kernel_rfl) (by kernel_rfl) ?_
     repeat (first | go_big_quiet_step (fail) | quiet_step (fail))
     refine wpQuiet_nil ?_
     intro _ hw'
     obtain ⟨⟨dq,osq⟩,hw''⟩ := hw'
     subst hw''
     have HBv := Lib.hid (bchain HBz.out (below_regrown wr dq osq))
     go_wp2
     go_ret
     exact ⟨ret_bool (by rw [← HK.out,HSt.out,HE.out,Bool.false_and]),bchain HW.out HBv.out⟩
   ·
    obtain rfl : k = n := by omega
    go_wp2
    go_ret
    refine ⟨ret_bool ?_,HW.out.trans (HBz.out.mono HW.out.size)⟩
    rw [← HK.out,List.drop_eq_nil_of_le (Nat.le_of_eq HN.out.symm),List.drop_eq_nil_of_le (Nat.le_of_eq HM.out.symm)]
    rfl
 ·
  have HE := Lib.hid (sameB_len (l := xs) (m := ys) (by rw [← HN.out,← HM.out]; exact hnm))
  have hne : ((n : Int) != (m : Int)) = true := bne_iff_ne.2 (by omega)
  go_enter Tryz.func156,Tryz.ntmps156
  go_wp2
  go_ret
  exact ⟨ret_bool HE.out.symm,HW.out⟩
end Go.Proofs.YtjpfpojbalepeaaGreat.Pt
namespace Go.Proofs.YtjpfpojbalepeaaGreat
open Go.RowKit
open Mem
open Go.Sort (grow)
set_option maxHeartbeats 4000000 in
theorem bil_same (t u : Iv.Tot) (ao bo : Option Addr) (n ca m cb : Nat) (w0 w : World) (hw : Below w0.heap.size w0 w) (h1 : Pt.Ls w ao n ca t.parts) (h2 : Pt.Ls w bo m cb u.parts) :
  Calls Tryz.prog 120 #[Tt.val t.net t.tax t.gross (.slice ao n ca),Tt.val u.net u.tax u.gross (.slice bo m cb)] w (Bl.YesE w0 (t = u)) := by
 have HW := Lib.hid hw
 obtain ⟨U,hU,hB,k0,k1,hs⟩ := Bl.al2 w (.cells #[.int .i64 t.net,.int .i64 t.tax,.int .i64 t.gross,.slice ao n ca] 64) (.cells #[.int .i64 u.net,.int .i64 u.tax,.int .i64 u.gross,.slice bo m cb] 64)
 have hT : Tt.At U w.heap.size t.net t.tax t.gross (.slice ao n ca) := k0
 have hV : Tt.At U (w.heap.size + 1) u.net u.tax u.gross (.slice bo m cb) := k1
 obtain ⟨x0,x1,x2,x3⟩ := hT.cells
 obtain ⟨y0,y1,y2,y3⟩ := hV.cells
 have HB := Lib.hid hB
 have HL1 := Lib.hid (h1.below hB)
 have HL2 := Lib.hid (h2.below hB)
 clear hw h1 h2 hB k0 k1 hs hT hV
 unfold Tt.val
 by_cases e0 : t.net = u.net
 ·
  have q0 : (t.net == u.net) = true := beq_iff_eq.2 e0
  have E0 := Lib.hid e0
  clear e0
  by_cases e1 : t.tax = u.tax
  ·
   have q1 : (t.tax == u.tax) = true := beq_iff_eq.2 e1
   have E1 := Lib.hid e1
   clear e1
   by_cases e2 : t.gross = u.gross
   ·
    have q2 : (t.gross == u.gross) = true := beq_iff_eq.2 e2
    have E2 := Lib.hid e2
    clear e2
    go_enter Tryz.func120,Tryz.ntmps120
    go_wp2_with fail
    refine (Pt.equal_any t.parts u.parts ao bo n m ca cb U U (Below.refl _ _) HL1.out HL2.out).mono ?_
    rintro e w1 ⟨rfl,b1⟩
    have HB1 := Lib.hid (bchain HB.out b1)
    clear b1
    cases hs : Pt.sameB t.parts u.parts
    ·
     have HNo : Hid (¬ t = u) := Lib.hid fun z => by rw [z,Pt.sameB_self] at hs; cases hs
     clear hs
     go_wp2_with fail
     go_ret
     exact ⟨.inr ⟨HNo.out,rfl⟩,bchain HW.out HB1.out⟩
    ·
     have HYes : Hid (t = u) := Lib.hid (by
      cases t
      cases u
      simp only [Iv.Tot.mk.injEq]
      exact ⟨E0.out,E1.out,E2.out,(Pt.sameB_iff _ _).1 hs⟩)
     clear hs
     go_wp2_with fail
     go_ret
     exact ⟨.inl ⟨HYes.out,rfl⟩,bchain HW.out HB1.out⟩
   ·
    have q2 : (t.gross == u.gross) = false := beq_eq_false_iff_ne.2 e2
    have HNo : Hid (¬ t = u) := Lib.hid fun z => e2 (by rw [z])
    clear e2
    go_enter Tryz.func120,Tryz.ntmps120
    go_wp2_with fail
    go_ret
    exact ⟨.inr ⟨HNo.out,rfl⟩,bchain HW.out HB.out⟩
  ·
   have q1 : (t.tax == u.tax) = false := beq_eq_false_iff_ne.2 e1
   have HNo : Hid (¬ t = u) := Lib.hid fun z => e1 (by rw [z])
   clear e1
   go_enter Tryz.func120,Tryz.ntmps120
   go_wp2_with fail
   go_ret
   exact ⟨.inr ⟨HNo.out,rfl⟩,bchain HW.out HB.out⟩
 ·
  have q0 : (t.net == u.net) = false := beq_eq_false_iff_ne.2 e0
  have HNo : Hid (¬ t = u) := Lib.hid fun z => e0 (by rw [z])
  clear e0
  go_enter Tryz.func120,Tryz.ntmps120
  go_wp2_with fail
  go_ret
  exact ⟨.inr ⟨HNo.out,rfl⟩,bchain HW.out HB.out⟩
end Go.Proofs.YtjpfpojbalepeaaGreat
namespace Go.Proofs.YtjpfpojbalepeaaGreat
open Go.RowKit
open Vt (Rt)
set_option maxHeartbeats 1000000 in
theorem vat_row (r : Rt) (w0 w : World) (hw : Below w0.heap.size w0 w) (hs : Short r) :
  Calls Tryz.prog 65 #[rowV r] w fun e w' => e = .returned (.int .i64 (Vt.rowE r)) ∧ Below w0.heap.size w0 w' := by
 have HW := Lib.hid hw
 have HS := Lib.hid hs
 clear hw hs
 obtain ⟨cat,y,m,d,bp⟩ := r
 unfold rowV Short at *
 dsimp only at *
 go_enter Tryz.func65,Tryz.ntmps65
 go_wp2_with fail
 refine (name_any cat _ HS.out.1).mono ?_
 rintro e w1 ⟨rfl,b1⟩
 have hC := (rowC_box w ⟨cat,y,m,d,bp⟩).below b1
 have HC := Lib.hid hC
 unfold RowC at hC
 obtain ⟨c0,c1,c2,c3,c4⟩ := hC
 have HB1 := Lib.hid (bchain (below_box HW.out _) b1)
 clear b1
 cases hn : Rn.name (txt cat)
 ·
  have HE := Lib.hid (Vt.rowE_name (r := ⟨cat,y,m,d,bp⟩) hn)
  go_wp2_with fail
  go_ret
  exact ⟨ret_int HE.out.symm,HB1.out⟩
 ·
  have HN := Lib.hid hn
  go_wp2_with fail
  refine (right_date y m d _ _ (Below.refl _ _) HS.out.2.1 HS.out.2.2.1 HS.out.2.2.2.1).mono ?_
  rintro e w2 ⟨rfl,b2⟩
  have hC := HC.out.below b2
  unfold RowC at hC
  obtain ⟨c5,c6,c7,c8,c9⟩ := hC
  have HB2 := Lib.hid (bchain HB1.out b2)
  clear b2
  cases hr : Dt.rightB y m d
  ·
   have HE := Lib.hid (Vt.rowE_day (r := ⟨cat,y,m,d,bp⟩) HN.out hr)
   go_wp2_with fail
   go_ret
   exact ⟨ret_int HE.out.symm,HB2.out⟩
  ·
   have HR := Lib.hid hr
   by_cases h0 : bp < 0
   ·
    have HE := Lib.hid (Vt.rowE_bp (r := ⟨cat,y,m,d,bp⟩) HN.out HR.out (.inl h0))
    go_wp2_with fail
    go_ret
    exact ⟨ret_int HE.out.symm,HB2.out⟩
   ·
    by_cases h1 : 100000 < bp
    ·
     have HE := Lib.hid (Vt.rowE_bp (r := ⟨cat,y,m,d,bp⟩) HN.out HR.out (.inr h1))
     go_wp2_with fail
     go_ret
     exact ⟨ret_int HE.out.symm,HB2.out⟩
    ·
     have HE := Lib.hid (Vt.rowE_0 (r := ⟨cat,y,m,d,bp⟩) |>.2 ⟨HN.out,HR.out,Int.not_lt.1 h0,Int.not_lt.1 h1⟩)
     go_wp2_with fail
     go_ret
     exact ⟨ret_int HE.out.symm,HB2.out⟩
theorem less_self (a : Rt) : Op.bytesLess a.cat.toList a.cat.toList = false := Vt.less_irrefl _
set_option maxHeartbeats 1000000 in
theorem vat_ahead (a b : Rt) (w0 w : World) (hw : Below w0.heap.size w0 w) (ha : Short a) (hb : Short b) (ra : Dt.rightB a.y a.m a.d = true) (rb : Dt.rightB b.y b.m b.d = true) :
  Calls Tryz.prog 66 #[rowV a,rowV b] w fun e w' => e = .returned (.bool (Vt.lt a b)) ∧ Below w0.heap.size w0 w' := by
 have HW := Lib.hid hw
 have HA := Lib.hid ha
 have HB := Lib.hid hb
 have HRR := Lib.hid (ahead_both ra rb)
 clear hw ha hb ra rb
 obtain ⟨W,hW,hbW,hA,hB⟩ := boxed2 w a b
 have HBW : Hid (Below w0.heap.size w0 W) := Lib.hid (bchain HW.out hbW)
 unfold RowC at hA hB
 obtain ⟨a0,a1,a2,a3,a4⟩ := hA
 obtain ⟨b0,b1,b2,b3,b4⟩ := hB
 by_cases hc : a.cat = b.cat
 ·
  have HL := Lib.hid (Vt.lt_same hc)
  have hy : (a.cat.toList == b.cat.toList) = true := beq_iff_eq.2 (by rw [hc])
  have hlf : Op.bytesLess a.cat.toList b.cat.toList = false := by rw [hc]; exact less_self b
  have e1 : Hid (Vt.dy a = Dt.days a.y a.m a.d) := rfl
  have e2 : Hid (Vt.dy b = Dt.days b.y b.m b.d) := rfl
  clear hbW hc
  unfold rowV
  go_enter Tryz.func66,Tryz.ntmps66
  go_wp2_with fail
  refine (before_date a.y a.m a.d b.y b.m b.d w0 _ HBW.out HA.out.2.1 HA.out.2.2.1 HA.out.2.2.2.1 HB.out.2.1 HB.out.2.2.1 HB.out.2.2.2.1).mono ?_
  rintro e w1 ⟨rfl,b5⟩
  have HB1 := Lib.hid b5
  clear b5
  go_wp2_with fail
  go_ret
  exact ⟨ret_bool (by rw [HL.out,e1.out,e2.out,HRR.out]),HB1.out⟩
 ·
  have HL := Lib.hid (Vt.lt_other hc)
  have hy : (a.cat.toList == b.cat.toList) = false := beq_eq_false_iff_ne.2 fun k => hc (Vt.cat_ext k)
  clear hbW hc
  unfold rowV
  cases hl : Op.bytesLess a.cat.toList b.cat.toList
  ·
   go_enter Tryz.func66,Tryz.ntmps66
   go_wp2_with fail
   go_ret
   exact ⟨ret_bool (by rw [HL.out,hl]),HBW.out⟩
  ·
   go_enter Tryz.func66,Tryz.ntmps66
   go_wp2_with fail
   go_ret
   exact ⟨ret_bool (by rw [HL.out,hl]),HBW.out⟩
theorem vat_bare (r : Rt) (w0 w : World) (hw : Below w0.heap.size w0 w) :
  Calls Tryz.prog 178 #[rowV r] w fun e w' => e = .returned (rowV { r with bp := 0 }) ∧ Below w0.heap.size w0 w' := by
 have HW := Lib.hid hw
 clear hw
 obtain ⟨cat,y,m,d,bp⟩ := r
 unfold rowV
 go_enter Tryz.func178,Tryz.ntmps178
 go_wp2
 exact bodyPost_ret (v := rowV ⟨cat,y,m,d,0⟩) (by simp [results,rowV,Tryz.results178,go_sem]) rfl ⟨rfl,below_box (below_box HW.out _) _⟩
end Go.Proofs.YtjpfpojbalepeaaGreat
namespace Go.Proofs.YtjpfpojbalepeaaGreat
open Go.RowKit
open Vt (Rt)
open Go.Sort (grow)
def Ans (f : FuncId) (args : Array Value) (u : World) (i : Nat) (os : Array Obj) (v : Value) : Prop :=
 Calls Tryz.prog f args (grow (redrawn u i) os) fun e w'' => e = .returned v ∧ ∃ p : Regrown,w'' = grow (redrawn u p.d) p.os
end Go.Proofs.YtjpfpojbalepeaaGreat
namespace Go.Proofs.YtjpfpojbalepeaaGreat
open Go.RowKit
open Vt (Rt)
open Go.Sort (grow)
theorem vatRow_agg (r : Rt) (hs : Short r) (u : World) (i : Nat) (os : Array Obj) : Ans 65 #[.agg #[.string r.cat,.int .i64 r.y,.int .i64 r.m,.int .i64 r.d,.int .i64 r.bp]] u i os (.int .i64 (Vt.rowE r)) :=
 Calls.regrown_of (vat_row r _ _ (Below.refl _ _) hs)
theorem vatAhead_agg (a b : Rt) (ha : Short a) (hb : Short b) (ra : Vt.rowE a = 0) (rb : Vt.rowE b = 0) (u : World) (i : Nat) (os : Array Obj) : Ans 66 #[.agg #[.string a.cat,.int .i64 a.y,.int .i64 a.m,.int .i64 a.d,.int .i64 a.bp],.agg #[.string b.cat,.int .i64 b.y,.int .i64 b.m,.int .i64 b.d,.int .i64 b.bp]] u i os (.bool (Vt.lt a b)) :=
 Calls.regrown_of (vat_ahead a b _ _ (Below.refl _ _) ha hb (Vt.rowE_0.1 ra).2.1 (Vt.rowE_0.1 rb).2.1)
set_option maxHeartbeats 2000000 in
theorem vat_right (rs : List Rt) (ao : Option Addr) (n cap : Nat) (w0 w : World) (hw : Below w0.heap.size w0 w) (hR : Rts w ao n cap rs) :
  Calls Tryz.prog 28 #[.slice ao n cap] w fun e w' => e = .returned (.bool (Vt.tableB rs)) ∧ Below w0.heap.size w0 w' := by
 have HW := Lib.hid hw
 have HR := Lib.hid hR
 have HN := Lib.hid hR.len
 have hcap := hR.reach
 have hfit := hR.fits
 clear hw hR
 by_cases h24 : 24 < n
 ·
  have HT := Lib.hid (Vt.table_long (l := rs) (HN.out ▸ h24))
  go_enter Tryz.func28,Tryz.ntmps28
  go_wp2
  go_ret
  exact ⟨ret_bool HT.out.symm,HW.out⟩
 ·
  have HT := Lib.hid (Vt.table_short (l := rs) (by have := HN.out; omega))
  go_enter Tryz.func28,Tryz.ntmps28
  go_wp2
  go_loopw [3,4,10] (fun _ _ i wr => ∃ k : Nat,k ≤ n ∧ i = .int .i64 k ∧ Hid (Vt.okAll (Vt.prevAt rs k) (rs.drop k) = Vt.okAll none rs) ∧ Hid (∀ q,Vt.prevAt rs k = some q → Vt.rowE q = 0) ∧ Hid (Below w.heap.size w wr)) (fun _ _ i _ => n - (intOf i).toNat)
  case atStart => exact ⟨0,by omega,rfl,Lib.hid rfl,Lib.hid (fun q h => by unfold Vt.prevAt at h; rw [if_pos rfl] at h; cases h),Lib.hid (Below.refl _ _)⟩
  case round =>
   obtain ⟨k,hk,rfl,HK,HQ,HB⟩ := hrel
   by_cases hlt : k < n
   ·
    obtain ⟨b,off,rfl⟩ := HR.out.at (by omega)
    have hkr : k < rs.length := HN.out ▸ hlt
    obtain ⟨r,hr⟩ : ∃ r,rs[k] = r := ⟨_,rfl⟩
    have hrow := (HR.out.row k hkr).below HB.out
    have HSt := Lib.hid (Vt.okAll_at rs k hkr)
    have HPr : Hid (Vt.prevAt rs (k + 1) = some r) := Lib.hid (by unfold Vt.prevAt; rw [if_neg (by omega),Nat.add_sub_cancel,List.getElem?_eq_getElem hkr,hr])
    rw [hr] at hrow HSt
    have hsh : Short r := HR.out.short r (hr ▸ List.getElem_mem hkr)
    obtain ⟨g0,g1,g2,g3,g4⟩ := hrow
    obtain ⟨W,hW,hbW,hA⟩ := boxed1 wr r
    have HBW := Lib.hid (bchain HB.out hbW)
    clear hbW
    unfold RowC at hA
    obtain ⟨a0,a1,a2,a3,a4⟩ := hA
    have k0 := cell_regrown a0
    have k1 := cell_regrown a1
    have k2 := cell_regrown a2
    have k3 := cell_regrown a3
    have k4 := cell_regrown a4
    have c1 := vatRow_agg r hsh
    by_cases he : Vt.rowE r = 0
    ·
     have hne : (Vt.rowE r != 0) = false := by rw [he]; rfl
     by_cases hk0 : k = 0
     ·
      subst hk0
      simp only [Nat.zero_mul,Nat.add_zero] at g0 g1 g2 g3 g4
      have HO : Hid (Vt.ok (Vt.prevAt rs 0) r = true) := by
       show _ = _
       unfold Vt.ok Vt.prevAt
       rw [decide_eq_true he]
       rfl
      have HE := Lib.hid he
      clear he hr hsh
      go_wp2
      refine wp_region_quiet_below (by kernel_rfl) (by kernel_rfl) ?_
      repeat (first | go_big_quiet_step (first | (go_at_call 65; exact c1 _ _ _)) | quiet_step (first | (go_at_call 65; exact c1 _ _ _)))
      refine wpQuiet_nil ?_
      intro _ hw'
      obtain ⟨⟨dq,osq⟩,hw''⟩ := hw'
      subst hw''
      have HBv := Lib.hid (bchain HBW.out (below_regrown W dq osq))
      go_wp2
      go_roundw
      case rel => exact ⟨1,by omega,rfl,Lib.hid (by rw [← HK.out,HSt.out,HO.out,Bool.true_and]),Lib.hid (fun q h => by rw [HPr.out] at h; cases h; exact HE.out),HBv⟩
      case measure => simp [intOf]; omega
     ·
      obtain ⟨j,rfl⟩ : ∃ j,k = j + 1 := ⟨k - 1,by omega⟩
      have hjr : j < rs.length := by omega
      obtain ⟨q,hq⟩ : ∃ q,rs[j] = q := ⟨_,rfl⟩
      have hrow2 := (HR.out.row j hjr).below HBW.out
      have hqs : Short q := HR.out.short q (hq ▸ List.getElem_mem hjr)
      rw [hq] at hrow2
      obtain ⟨f0,f1,f2,f3,f4⟩ := hrow2
      have m0 := cell_regrown f0
      have m1 := cell_regrown f1
      have m2 := cell_regrown f2
      have m3 := cell_regrown f3
      have m4 := cell_regrown f4
      have hpj : Vt.prevAt rs (j + 1) = some q := by unfold Vt.prevAt; rw [if_neg (by omega),Nat.add_sub_cancel,List.getElem?_eq_getElem hjr,hq]
      have c2 := vatAhead_agg q r hqs hsh (HQ.out q hpj) he
      have HO : Hid (Vt.ok (Vt.prevAt rs (j + 1)) r = Vt.lt q r) := by
       show _ = _
       unfold Vt.ok
       rw [decide_eq_true he,hpj]
       rfl
      have hjs : ((j + 1 : Nat) : Int) - 1 = (j : Int) := by omega
      have HE := Lib.hid he
      clear he hq hk0 hpj hr hsh hqs
      cases hlt2 : Vt.lt q r
      ·
       rw [hlt2] at c2 HO
       go_wp2
       refine wp_region_quiet_below (by kernel_rfl) (by kernel_rfl) ?_
       repeat (first | go_big_quiet_step (first | (go_at_call 65; exact c1 _ _ _) | (go_at_call 66; exact c2 _ _ _)) | quiet_step (first | (go_at_call 65; exact c1 _ _ _) | (go_at_call 66; exact c2 _ _ _)))
       refine wpQuiet_nil ?_
       intro _ hw'
       obtain ⟨⟨dq,osq⟩,hw''⟩ := hw'
       subst hw''
       have HBv := Lib.hid (bchain HBW.out (below_regrown W dq osq))
       go_wp2
       go_ret
       exact ⟨ret_bool (by rw [HT.out,← HK.out,HSt.out,HO.out,Bool.false_and]),bchain HW.out HBv.out⟩
      ·
       rw [hlt2] at c2 HO
       go_wp2
       refine wp_region_quiet_below (by kernel_rfl) (by kernel_rfl) ?_
       repeat (first | go_big_quiet_step (first | (go_at_call 65; exact c1 _ _ _) | (go_at_call 66; exact c2 _ _ _)) | quiet_step (first | (go_at_call 65; exact c1 _ _ _) | (go_at_call 66; exact c2 _ _ _)))
       refine wpQuiet_nil ?_
       intro _ hw'
       obtain ⟨⟨dq,osq⟩,hw''⟩ := hw'
       subst hw''
       have HBv := Lib.hid (bchain HBW.out (below_regrown W dq osq))
       go_wp2
       go_roundw
       case rel => exact ⟨j + 1 + 1,by omega,by go_num,Lib.hid (by rw [← HK.out,HSt.out,HO.out,Bool.true_and]),Lib.hid (fun q h => by rw [HPr.out] at h; cases h; exact HE.out),HBv⟩
       case measure => simp [intOf]; omega
    ·
     have hne : (Vt.rowE r != 0) = true := bne_iff_ne.2 he
     have HO : Hid (Vt.ok (Vt.prevAt rs k) r = false) := by
      show _ = _
      unfold Vt.ok
      rw [decide_eq_false he]
      rfl
     clear he hr hsh
     go_wp2
     refine wp_region_quiet_below (by kernel_rfl) (by kernel_rfl) ?_
     repeat (first | go_big_quiet_step (first | (go_at_call 65; exact c1 _ _ _)) | quiet_step (first | (go_at_call 65; exact c1 _ _ _)))
     refine wpQuiet_nil ?_
     intro _ hw'
     obtain ⟨⟨dq,osq⟩,hw''⟩ := hw'
     subst hw''
     have HBv := Lib.hid (bchain HBW.out (below_regrown W dq osq))
     go_wp2
     go_ret
     exact ⟨ret_bool (by rw [HT.out,← HK.out,HSt.out,HO.out,Bool.false_and]),bchain HW.out HBv.out⟩
   ·
    obtain rfl : k = n := by omega
    go_wp2
    go_ret
    exact ⟨ret_bool (by rw [HT.out,← HK.out,List.drop_eq_nil_of_le (Nat.le_of_eq HN.out.symm)]; rfl),bchain HW.out HB.out⟩
end Go.Proofs.YtjpfpojbalepeaaGreat
namespace Go.Proofs.YtjpfpojbalepeaaGreat
open Go.RowKit
open Vt (Rt)
open Go.Sort (grow)
namespace Vt
def sameB (r a : Rt) : Bool := decide (a.cat = r.cat) && decide (a.y = r.y) && decide (a.m = r.m) && decide (a.d = r.d)
theorem same_yes {r a : Rt} (h0 : a.cat = r.cat) (h1 : a.y = r.y) (h2 : a.m = r.m) (h3 : a.d = r.d) : sameB r a = true := by
 unfold sameB
 rw [decide_eq_true h0,decide_eq_true h1,decide_eq_true h2,decide_eq_true h3]
 rfl
theorem same_no {r a : Rt} (h : a.cat ≠ r.cat ∨ a.y ≠ r.y ∨ a.m ≠ r.m ∨ a.d ≠ r.d) : sameB r a = false := by
 rw [Bool.eq_false_iff]
 intro k
 unfold sameB at k
 simp only [Bool.and_eq_true,decide_eq_true_iff] at k
 rcases h with h | h | h | h
 · exact h k.1.1.1
 · exact h k.1.1.2
 · exact h k.1.2
 · exact h k.2
theorem same_dy {r a : Rt} (h : sameB r a = true) : a.cat = r.cat ∧ dy a = dy r := by
 unfold sameB at h
 simp only [Bool.and_eq_true,decide_eq_true_iff] at h
 refine ⟨h.1.1.1,?_⟩
 unfold dy
 rw [h.1.1.2,h.1.2,h.2]
theorem same_lt {r a : Rt} (h : lt a r = true ∨ lt r a = true) : sameB r a = false := by
 rw [Bool.eq_false_iff]
 intro k
 obtain ⟨k1,k2⟩ := same_dy k
 rcases h with h | h
 ·
  rw [lt_same k1,decide_eq_true_iff] at h
  omega
 ·
  rw [lt_same k1.symm,decide_eq_true_iff] at h
  omega
theorem any_same (r : Rt) (l : List Rt) (h : ∀ a ∈ l,lt r a = true) : l.any (sameB r) = false := by
 rw [List.any_eq_false]
 intro a ha
 rw [same_lt (.inr (h a ha))]
 simp
theorem taken_any (r : Rt) (hr : rowE r = 0) : ∀ l : List Rt,Sorted l → (∀ a ∈ l,rowE a = 0) → taken l r = l.any (sameB r)
 | [],_,_ => rfl
 | a :: l,hs,he => by
  unfold Sorted at hs
  rw [List.pairwise_cons] at hs
  rw [List.any_cons]
  rcases lt_tri a r with h | ⟨h1,h2⟩ | h
  ·
   rw [taken_cons h,same_lt (.inl h),Bool.false_or]
   exact taken_any r hr l hs.2 fun b hb => he b (List.mem_cons_of_mem _ hb)
  ·
   have ha := rowE_0.1 (he a (List.mem_cons_self ..))
   have hb := rowE_0.1 hr
   have hd : Dt.num a.y a.m a.d = Dt.num r.y r.m r.d := by
    unfold dy at h2
    rw [Dt.days_right ha.2.1,Dt.days_right hb.2.1] at h2
    exact h2
   obtain ⟨e1,e2,e3⟩ := Dt.num_inj ha.2.1 hb.2.1 hd
   have l1 : lt a r = false := by rw [lt_same h1]; exact decide_eq_false (by omega)
   have l2 : lt r a = false := by rw [lt_same h1.symm]; exact decide_eq_false (by omega)
   rw [taken_head l1,l2,same_yes h1 e1 e2 e3]
   rfl
  ·
   rw [taken_head (lt_asymm h),h,same_lt (.inr h),any_same r l fun b hb => lt_trans h (hs.1 b hb)]
   rfl
theorem any_at (r : Rt) (l : List Rt) (k : Nat) (h : k < l.length) : (l.drop k).any (sameB r) = (sameB r l[k] || (l.drop (k + 1)).any (sameB r)) := by
 rw [List.drop_eq_getElem_cons h]
 rfl
end Vt
theorem vatBare_agg (r : Rt) (u : World) (i : Nat) (os : Array Obj) : Ans 178 #[.agg #[.string r.cat,.int .i64 r.y,.int .i64 r.m,.int .i64 r.d,.int .i64 r.bp]] u i os (.agg #[.string r.cat,.int .i64 r.y,.int .i64 r.m,.int .i64 r.d,.int .i64 0]) :=
 Calls.regrown_of (vat_bare r _ _ (Below.refl _ _))
set_option maxHeartbeats 2000000 in
theorem vat_taken (rs : List Rt) (ao : Option Addr) (n cap : Nat) (r : Rt) (w0 w : World) (hw : Below w0.heap.size w0 w) (hR : Rts w ao n cap rs) :
  Calls Tryz.prog 162 #[.slice ao n cap,rowV r] w fun e w' => e = .returned (.bool (rs.any (Vt.sameB r))) ∧ Below w0.heap.size w0 w' := by
 have HW := Lib.hid hw
 have HR := Lib.hid hR
 have HN := Lib.hid hR.len
 have hcap := hR.reach
 have hfit := hR.fits
 clear hw hR
 unfold rowV
 go_enter Tryz.func162,Tryz.ntmps162
 go_wp2
 go_loopw [6,9] (fun _ i wr => ∃ k : Nat,k ≤ n ∧ i = .int .i64 k ∧ Hid ((rs.drop k).any (Vt.sameB r) = rs.any (Vt.sameB r)) ∧ Hid (Below w.heap.size w wr) ∧ Hid (RowC wr w.heap.size r)) (fun _ i _ => n - (intOf i).toNat)
 case atStart => exact ⟨0,by omega,rfl,Lib.hid rfl,Lib.hid (below_boxR w r),Lib.hid (rowC_box w r)⟩
 case round =>
  obtain ⟨k,hk,rfl,HK,HB,HC⟩ := hrel
  by_cases hlt : k < n
  ·
   obtain ⟨b,off,rfl⟩ := HR.out.at (by omega)
   have hkr : k < rs.length := HN.out ▸ hlt
   obtain ⟨q,hq⟩ : ∃ q,rs[k] = q := ⟨_,rfl⟩
   have hrow := (HR.out.row k hkr).below HB.out
   have HSt := Lib.hid (Vt.any_at r rs k hkr)
   rw [hq] at hrow HSt
   clear hq
   obtain ⟨g0,g1,g2,g3,g4⟩ := hrow
   obtain ⟨W,hW,hbW,hA⟩ := boxed1 wr q
   have HBW := Lib.hid (bchain HB.out hbW)
   have hC := HC.out.below hbW
   have HCW := Lib.hid hC
   clear hbW
   unfold RowC at hA hC
   obtain ⟨a0,a1,a2,a3,a4⟩ := hA
   obtain ⟨b0,b1,b2,b3,b4⟩ := hC
   have k0 := cell_regrown a0
   have k1 := cell_regrown a1
   have k2 := cell_regrown a2
   have k3 := cell_regrown a3
   have k4 := cell_regrown a4
   have l0 := cell_regrown b0
   have l1 := cell_regrown b1
   have l2 := cell_regrown b2
   have l3 := cell_regrown b3
   have l4 := cell_regrown b4
   have c1 := vatBare_agg q
   have c2 := vatBare_agg r
   by_cases e : q.cat = r.cat ∧ q.y = r.y ∧ q.m = r.m ∧ q.d = r.d
   ·
    have HS := Lib.hid (Vt.same_yes e.1 e.2.1 e.2.2.1 e.2.2.2)
    have q0 : (q.cat.toList == r.cat.toList) = true := beq_iff_eq.2 (by rw [e.1])
    have q1 : (q.y == r.y) = true := beq_iff_eq.2 e.2.1
    have q2 : (q.m == r.m) = true := beq_iff_eq.2 e.2.2.1
    have q3 : (q.d == r.d) = true := beq_iff_eq.2 e.2.2.2
    clear e
    go_wp2
    refine wp_region_quiet_below (by kernel_rfl) (by kernel_rfl) ?_
    repeat (first | go_big_quiet_step (first | (go_at_call_of 178 (Value.string q.cat); exact c1 _ _ _) | (go_at_call_of 178 (Value.string r.cat); exact c2 _ _ _)) | quiet_step (first | (go_at_call_of 178 (Value.string q.cat); exact c1 _ _ _) | (go_at_call_of 178 (Value.string r.cat); exact c2 _ _ _)))
    refine wpQuiet_nil ?_
    intro _ hw'
    obtain ⟨⟨dq,osq⟩,hw''⟩ := hw'
    subst hw''
    have HBv := Lib.hid (bchain HBW.out (below_regrown W dq osq))
    go_wp2
    go_ret
    exact ⟨ret_bool (by rw [← HK.out,HSt.out,HS.out]; rfl),bchain HW.out HBv.out⟩
   ·
    have HS : Hid (Vt.sameB r q = false) := Lib.hid (Vt.same_no (by
     by_cases e0 : q.cat = r.cat
     ·
      by_cases e1 : q.y = r.y
      ·
       by_cases e2 : q.m = r.m
       · exact .inr (.inr (.inr fun e3 => e ⟨e0,e1,e2,e3⟩))
       · exact .inr (.inr (.inl e2))
      · exact .inr (.inl e1)
     · exact .inl e0))
    have hq : (q.cat.toList == r.cat.toList) = false ∨ ((q.cat.toList == r.cat.toList) = true ∧ (q.y == r.y) = false) ∨ ((q.cat.toList == r.cat.toList) = true ∧ (q.y == r.y) = true ∧ (q.m == r.m) = false) ∨ ((q.cat.toList == r.cat.toList) = true ∧ (q.y == r.y) = true ∧ (q.m == r.m) = true ∧ (q.d == r.d) = false) := by
     by_cases e0 : q.cat = r.cat
     ·
      have h0 : (q.cat.toList == r.cat.toList) = true := beq_iff_eq.2 (by rw [e0])
      by_cases e1 : q.y = r.y
      ·
       by_cases e2 : q.m = r.m
       · exact .inr (.inr (.inr ⟨h0,beq_iff_eq.2 e1,beq_iff_eq.2 e2,beq_eq_false_iff_ne.2 fun e3 => e ⟨e0,e1,e2,e3⟩⟩))
       · exact .inr (.inr (.inl ⟨h0,beq_iff_eq.2 e1,beq_eq_false_iff_ne.2 e2⟩))
      · exact .inr (.inl ⟨h0,beq_eq_false_iff_ne.2 e1⟩)
     · exact .inl (beq_eq_false_iff_ne.2 fun k => e0 (Vt.cat_ext k))
    clear e
    rcases hq with q0 | ⟨q0,q1⟩ | ⟨q0,q1,q2⟩ | ⟨q0,q1,q2,q3⟩
    all_goals
     go_wp2
     refine wp_region_quiet_below (by kernel_rfl) (by kernel_rfl) ?_
     repeat (first | go_big_quiet_step (first | (go_at_call_of 178 (Value.string q.cat); exact c1 _ _ _) | (go_at_call_of 178 (Value.string r.cat); exact c2 _ _ _)) | quiet_step (first | (go_at_call_of 178 (Value.string q.cat); exact c1 _ _ _) | (go_at_call_of 178 (Value.string r.cat); exact c2 _ _ _)))
     refine wpQuiet_nil ?_
     intro _ hw'
     obtain ⟨⟨dq,osq⟩,hw''⟩ := hw'
     subst hw''
     have HBv := Lib.hid (bchain HBW.out (below_regrown W dq osq))
     have HCv := Lib.hid (HCW.out.below (below_regrown W dq osq))
     go_wp2
     go_roundw
     case rel => exact ⟨k + 1,by omega,by go_num,Lib.hid (by rw [← HK.out,HSt.out,HS.out,Bool.false_or]),HBv,HCv⟩
     case measure => simp [intOf]; omega
  ·
   obtain rfl : k = n := by omega
   go_wp2
   go_ret
   exact ⟨ret_bool (by rw [← HK.out,List.drop_eq_nil_of_le (Nat.le_of_eq HN.out.symm)]; rfl),bchain HW.out HB.out⟩
end Go.Proofs.YtjpfpojbalepeaaGreat
namespace Go.Proofs.YtjpfpojbalepeaaGreat
open Go.RowKit
open Vt (Rt)
def BlockR (w : World) (g : Nat) (ts : List Rt) : Prop := w.heap[g]? = some (.cells (ts.flatMap rv).toArray 25 (0,0))
theorem BlockR.row {w : World} {g : Nat} {ts : List Rt} (h : BlockR w g ts) (k : Nat) (hk : k < ts.length) : RowAt w g (k * 5) ts[k] := by
 have hc : ∀ p,p < 5 → w.cell? ⟨g,k * 5 + p,none⟩ = (rv ts[k])[p]? := by
  intro p hp
  rw [cell_of_row w g _ _ _ _ h,← flat_at ts k p hk hp]
  simp
 exact ⟨hc 0 (by omega),hc 1 (by omega),hc 2 (by omega),hc 3 (by omega),hc 4 (by omega)⟩
theorem BlockR.rts {w : World} {g : Nat} {ts zs : List Rt} (h : BlockR w g (ts ++ zs)) (n cap : Nat) (hn : n = ts.length) (hc : n ≤ cap) (hm : cap ≤ 9223372036854775807) (hs : ∀ r ∈ ts,Short r) : Rts w (some ⟨g,0,none⟩) n cap ts := by
 refine ⟨hn,hc,hm,(fun k => by cases k),.inr ⟨g,0,rfl,fun k hk => ?_⟩,hs⟩
 have hr := h.row k (by rw [List.length_append]; omega)
 rw [List.getElem_append_left hk] at hr
 rw [Nat.zero_add]
 exact hr
def zeroR : Rt := ⟨.empty,0,0,0,0⟩
def zeroV : Value := .agg #[.string .empty,.int .i64 0,.int .i64 0,.int .i64 0,.int .i64 0]
def zerosR (n : Nat) : Array Value := ((List.replicate n zeroR).flatMap rv).toArray
theorem infoZ : (Tryz.prog.info? 25).map (fun i => (i.zero,i.size,i.bytes)) = some (some zeroV,5,48) := by kernel_rfl
theorem sizeZ : (Tryz.prog.info? 25).map (·.size) = some 5 := by kernel_rfl
theorem made_rows (n : Nat) : madeCells zeroV.cells (n * 5) = zerosR n := by
 apply Array.ext_getElem?
 intro j
 by_cases hj : j < n * 5
 ·
  obtain ⟨k,p,rfl,hp⟩ : ∃ k p,j = k * 5 + p ∧ p < 5 := ⟨j / 5,j % 5,by omega,by omega⟩
  have hk : k < n := by omega
  have hz : (zerosR n)[k * 5 + p]? = (rv zeroR)[p]? := by
   unfold zerosR
   rw [List.getElem?_toArray,flat_at (List.replicate n zeroR) k p (by simpa using hk) hp,List.getElem_replicate]
  rw [hz]
  have e : (k * 5 + p) % 5 = p := by omega
  have hp' : p = 0 ∨ p = 1 ∨ p = 2 ∨ p = 3 ∨ p = 4 := by omega
  unfold madeCells
  rw [Array.getElem?_map,Array.getElem?_range,if_pos hj]
  simp only [Option.map_some]
  rw [show zeroV.cells.size = 5 from rfl,e]
  rcases hp' with rfl | rfl | rfl | rfl | rfl <;> rfl
 ·
  rw [Array.getElem?_eq_none (by rw [size_madeCells]; omega),Array.getElem?_eq_none]
  unfold zerosR
  rw [List.size_toArray,flat_len,List.length_replicate]
  omega
theorem make_rows (n : Nat) (hn : n ≤ 1000) (u : World) : (Instr.makeSlice 36 (.int .i64 (n : Int)) (.int .i64 (n : Int))).run Tryz.prog u =
  .ok (.slice (some ⟨u.heap.size,0,none⟩) n n) (u.alloc (.cells (zerosR n) 25)) := by
 obtain ⟨i0,hi,hz0,hz1,hz2⟩ := info_parts infoZ
 have h := run_make (P := Tryz.prog) u 36 25 i0 zeroV Tryz.underlying36 hi hz0 .i64 .i64 (n : Int) (n : Int) (by omega) (Int.le_refl _) (by rw [hz2]; omega) (by omega)
 rw [hz1,Int.toNat_natCast,made_rows] at h
 exact h
theorem block_made (u : World) (n : Nat) : BlockR (u.alloc (.cells (zerosR n) 25)) u.heap.size (List.replicate n zeroR) := heap_alloc_new u _
theorem copy_rows (u : World) (g : Nat) (ts : List Rt) (dCap : Nat) (ao : Option Addr) (n cap : Nat) (rs : List Rt) (hb : BlockR u g (List.replicate n zeroR ++ ts)) (hn : n = rs.length) (hs : SegR u ao rs) :
  ∃ u',(Builtin.copy_ #[36,36] 3 #[.slice (some ⟨g,0,none⟩) (n + ts.length) dCap,.slice ao n cap]).run Tryz.prog u = .ok (goInt n) u' ∧ BlockR u' g (rs ++ ts) ∧ (∀ B w0,Below B w0 u → B ≤ g → Below B w0 u') ∧ u'.heap.size = u.heap.size := by
 obtain ⟨i0,hi,hi5⟩ := Option.map_eq_some_iff.1 sizeZ
 have hmin : Nat.min n (n + ts.length) = n := Nat.min_eq_left (by omega)
 rcases hs with e | ⟨b,off,rfl,hc⟩
 ·
  subst e
  obtain rfl : n = 0 := hn
  refine ⟨u,?_,by simpa using hb,fun _ _ h _ => h,rfl⟩
  have hl : ∀ (x : Addr),(loadCells x 0).run Tryz.prog u = .ok #[] u := fun x => by simpa using run_loadCells_list (P := Tryz.prog) u x [] (by simp)
  cases ao <;> simp [Builtin.copy_,run_underlying Tryz.underlying36,Builtin.lenOf,Builtin.firstCells,sizeOf,typeInfo,hi,storeCells,hl]
 ·
  have hl := run_loadCells_list (P := Tryz.prog) u ⟨b,off,none⟩ (rs.flatMap rv) (fun j v hv => news_of hc j v hv)
  have hst := run_storeCells_at Tryz.prog g 0 25 (rs.flatMap rv) 0 _ u hb (by rw [List.size_toArray,flat_len,flat_len,List.length_append,List.length_replicate]; omega) (oneR rs)
  have hlen : (rs.flatMap rv).length = n * 5 := by rw [flat_len,hn]
  have e : (((List.replicate n zeroR ++ ts).flatMap rv).toArray.toList.take (0 + 0) ++ rs.flatMap rv ++ ((List.replicate n zeroR ++ ts).flatMap rv).toArray.toList.drop (0 + 0 + (rs.flatMap rv).length)) = (rs ++ ts).flatMap rv := by
   rw [List.toList_toArray,List.take_zero,List.nil_append,Nat.zero_add,hlen,List.flatMap_append,List.flatMap_append,List.drop_left' (by rw [flat_len,List.length_replicate])]
  rw [e] at hst
  refine ⟨u.setRow g ((rs ++ ts).flatMap rv).toArray,?_,setRow_heap u g _ _ 25 _ hb,fun B w0 h hB => below_setRow h hB _,by simp [World.setRow]⟩
  rw [hlen] at hl
  simp [Builtin.copy_,run_underlying Tryz.underlying36,Builtin.lenOf,Builtin.firstCells,sizeOf,typeInfo,hi,hi5,hmin,hl,hst]
end Go.Proofs.YtjpfpojbalepeaaGreat
namespace Go.Proofs.YtjpfpojbalepeaaGreat
open Go.RowKit
open Vt (Rt)
theorem sizeR (u : World) : (sizeOf (Tryz.prog.elem 36)).run Tryz.prog u = .ok 5 u := by
 have h : (Tryz.prog.info? (Tryz.prog.elem 36)).map (·.size) = some 5 := by kernel_rfl
 obtain ⟨i,hi,hs⟩ := Option.map_eq_some_iff.1 h
 simp [sizeOf,typeInfo,hi,hs]
theorem undR : Tryz.prog.underlying 36 = some (.slice (Tryz.prog.elem 36)) := by kernel_rfl
theorem rts_to {w : World} {ao : Option Addr} {n cap : Nat} {rs : List Rt} (h : Rts w ao n cap rs) (k : Nat) (hk : k ≤ n) :
  (∀ u,(Instr.slice 36 (.slice ao n cap) none (some (.int .i64 (k : Int))) none).run Tryz.prog u = .ok (.slice ao k cap) u) ∧ Rts w ao k cap (rs.take k) := by
 have hl := h.len
 have hf := h.fits
 refine ⟨fun u => ?_,⟨by rw [List.length_take]; omega,by omega,h.reach,h.nil,?_,fun r hr => h.short r (List.mem_of_mem_take hr)⟩⟩
 ·
  rw [run_slice_h u 36 ao n cap undR .i64 k (by omega) (by omega),sizeR]
  have e : Option.map (fun x : Addr => x.add 0) ao = ao := by cases ao <;> simp [Addr.add]
  simp [Result.andThen,sliced,e]
 ·
  rcases h.seg with e | ⟨b,off,e,hc⟩
  · exact .inl (by rw [e]; simp)
  ·
   refine .inr ⟨b,off,e,fun j hj => ?_⟩
   rw [List.length_take] at hj
   rw [List.getElem_take]
   exact hc j (by omega)
theorem rts_from {w : World} {ao : Option Addr} {n cap : Nat} {rs : List Rt} (h : Rts w ao n cap rs) (k : Nat) (hk : k ≤ n) :
  ∃ ao2 cap2,(∀ u,(Instr.slice 36 (.slice ao n cap) (some (.int .i64 (k : Int))) none none).run Tryz.prog u = .ok (.slice ao2 (n - k) cap2) u) ∧ Rts w ao2 (n - k) cap2 (rs.drop k) := by
 have hl := h.len
 have hf := h.fits
 refine ⟨if cap = k then ao else ao.map (·.add (k * 5)),cap - k,fun u => ?_,⟨by rw [List.length_drop]; omega,by omega,by have := h.reach; omega,?_,?_,fun r hr => h.short r (List.mem_of_mem_drop hr)⟩⟩
 ·
  rw [run_slice_l u 36 ao n cap undR .i64 k (by omega) (by omega),sizeR]
  simp [Result.andThen,sliced]
 ·
  by_cases e : cap = k
  · omega
  ·
   rw [if_neg e]
   cases ao with
   | none => have := h.nil rfl; omega
   | some a => exact fun k => by cases k
 ·
  by_cases hkn : k = n
  · exact .inl (List.drop_eq_nil_of_le (by omega))
  ·
   rcases h.seg with e | ⟨b,off,rfl,hc⟩
   · exact .inl (by rw [e]; simp)
   ·
    refine .inr ⟨b,off + k * 5,?_,fun j hj => ?_⟩
    ·
     rw [if_neg (by omega)]
     unfold Addr.add
     simp only [Option.map_some,Option.some.injEq]
     split
     ·
      rename_i e
      rw [e]
      rfl
     · rfl
    ·
     rw [List.length_drop] at hj
     rw [List.getElem_drop,show off + k * 5 + j * 5 = off + (k + j) * 5 by omega]
     exact hc (k + j) (by omega)
end Go.Proofs.YtjpfpojbalepeaaGreat
