/- THE DOCUMENT's OWN DISK: Crash. (By gencrash.py.) -/
import Derived.Test.YtegniklofhopeaaYDpDrK
import Derived.Test.YtegniklofhopeaaYDpDrH
import Derived.Deep.RegionLaw
import Derived.Deep.DeepCutAuto
import Derived.Deep.CutBlock
import Derived.BigQuiet
set_option maxRecDepth 100000
set_option linter.unusedVariables false
namespace Go.Proofs.Ytegniklofhopeaa
open Go.RowKit
open Mem Dk
def Dr.CrI (P : Nat → Prop) (w : World) (p : Nat) (fs : List F) (zs : List Int) (i : Nat) (wr : World) : Prop := Dr.Dsk (nw P w) wr p ⟨upto zs i fs,false,-1⟩ ∧ UpdQ P w wr
theorem Dr.CrI.next {P : Nat → Prop} {w wr wx : World} {p i : Nat} {fs : List F} {zs : List Int} (h : Dr.CrI P w p fs zs i wr) (hi : i < (upto zs i fs).length) (k : Dr.Dsk (nw (nw P w) wr) wx p ⟨(upto zs i fs).set i (tear (upto zs i fs)[i] (pick zs i)),false,-1⟩ ∧ UpdQ (nw P w) wr wx) : Dr.CrI P w p fs zs (i + 1) wx := by
 obtain ⟨a,u⟩ := k
 rw [upto_next zs fs hi] at a
 exact ⟨a.mono fun b z => nw_nw h.2.size b z,Dr.upd_new h.2 u⟩
theorem Dr.CrI.drew {P : Nat → Prop} {w wr : World} {p i : Nat} {fs : List F} {zs : List Int} (h : Dr.CrI P w p fs zs i wr) : Dr.CrI P w p fs zs i wr.drew := ⟨h.1.below (Below.refl _ _).drew,h.2.belowT (Below.refl _ _).drew⟩
section
variable {P : Nat → Prop} {w : World} {p : Nat} {d : D} {v : Sl} {rs : List Rq.T}
set_option maxHeartbeats 8000000 in
theorem dr_crash (h : Dr.At P w p d v rs) (ao : Option Addr) (n cap : Nat) (zs : List Int) (hI : Ints w ao n cap zs) (hap : zs ≠ [] → ∀ ad,ao = some ad → ¬ P ad.block) :
  Calls Try.prog 28 #[.pointer (some ⟨p,0,none⟩),.slice ao n cap] w fun e w' => e = .returned (.tuple #[]) ∧ Dr.Dsk (nw P w) w' p (crashD d zs) ∧ UpdQ P w w' := by
 obtain ⟨c0,c1,c2⟩ := h.box.cells
 have f1 := h.box.frozen 1
 have f2 := h.box.frozen 2
 obtain ⟨s1,s2⟩ := Dr.start h
 have H0 : Hid (Dr.CrI P w p d.fs zs 0 ((w.setCell ⟨p,2,none⟩ (.bool false)).setCell ⟨p,1,none⟩ (.int .i64 (-1)))) := Lib.hid ⟨⟨_,_,(by rw [upto_zero]; exact s1.mono fun b z => .inl z)⟩,s2⟩
 have HI := Lib.hid hI
 have HAp := Lib.hid hap
 have hIf := hI.fits
 have hIr := hI.reach
 have HIn := Lib.hid hI.len
 have HFew := Lib.hid h.few
 obtain ⟨nn,hnn⟩ : ∃ nn,d.fs.length = nn := ⟨_,rfl⟩
 have HNn := Lib.hid hnn
 have hnn1000 : nn ≤ 1000 := by
  have := HFew.out
  omega
 clear h hI hap s1 s2 hnn
 go_enter Try.func28,Try.ntmps28
 go_wp2
 clear c0 c1 c2 f1 f2
 go_loopw [4,5,6,7,8,9] (fun i _ _ _ _ _ wr => ∃ j : Nat,j ≤ nn ∧ i = .int .i64 j ∧ Hid (Dr.CrI P w p d.fs zs j wr)) (fun i _ _ _ _ _ _ => nn - (intOf i).toNat)
 case atStart => exact ⟨0,by omega,rfl,H0⟩
 case round =>
  clear H0
  rename World => wz
  obtain ⟨j,hj,rfl,H⟩ := hrel
  obtain ⟨vv,rr,a⟩ := H.out.1
  have hlen : (upto zs j d.fs).length = nn := (upto_len _ _ _).trans HNn.out
  by_cases hlt : j < nn
  ·
   have hjl : j < (upto zs j d.fs).length := by rw [hlen]; exact hlt
   obtain ⟨g,kp,bn,bo,bc,hvg,hjn,hnc,hcr,hkp,hbn,hkb,hbl,hL,hlx,hfin⟩ := Dr.torn_row a (i := j) hjl
   obtain ⟨t00,t01,t02,t03,t04,t05,t06,t07⟩ := hlx wz (Below.refl _ _)
   have HLx := Lib.hid hlx
   have HFin := Lib.hid hfin
   have HL := Lib.hid hL
   have HKp := Lib.hid hkp
   have HBn := Lib.hid hbn
   have HIw := Lib.hid (HI.out.keep H.out.2 HAp.out)
   obtain ⟨vao,vn,vcap⟩ := vv
   simp only at hvg hjn hnc hcr t00
   have hbf := hL.fits
   have hbr := hL.reach
   obtain ⟨uu,huu⟩ : ∃ uu : Nat,(bn : Int) - (kp : Int) = (uu : Int) := ⟨bn - kp,by omega⟩
   have huu2 : uu ≤ 4194304 := by omega
   have HUu : Hid (bn - kp = uu) := Lib.hid (by omega)
   have lb1 : Hid (∀ o,Below wz.heap.size wz (wz.alloc o).drew.drew) := Lib.hid fun o => (((Below.refl _ _).alloc (Nat.le_refl _) _).drew).drew
   clear hlx hfin hL hkp hbn a hvg
   by_cases hpos : ∃ q : Nat,0 < q ∧ zs[j]? = some (q : Int)
   ·
    obtain ⟨q,hq0,hqz⟩ := hpos
    have HPk := Lib.hid (pick_yes hqz)
    obtain ⟨st,hst⟩ : ∃ st,q % (uu + 1) = st := ⟨_,rfl⟩
    obtain ⟨qq,hqq⟩ : ∃ qq,q / (uu + 1) = qq := ⟨_,rfl⟩
    obtain ⟨od,hod⟩ : ∃ od,qq % 2 = od := ⟨_,rfl⟩
    have hst1 : st < uu + 1 := hst ▸ Nat.mod_lt _ (by omega)
    obtain ⟨e,he⟩ : ∃ e,kp + st = e := ⟨_,rfl⟩
    have heb : e ≤ bn := by omega
    have htm : (q : Int).tmod ((uu : Int) + 1) = (st : Int) := by
     rw [← hst]
     exact (Int.ofNat_tmod q (uu + 1)).symm
    have htd : (q : Int).tdiv ((uu : Int) + 1) = (qq : Int) := by
     rw [← hqq]
     exact (Int.ofNat_tdiv q (uu + 1)).symm
    have hto : (qq : Int).tmod 2 = (od : Int) := by
     rw [← hod]
     exact (Int.ofNat_tmod qq 2).symm
    have hqqb : (qq : Int) ≤ 9223372036854775807 := by
     have h1 := (HI.out.wf _ (List.mem_of_getElem? hqz)).2
     have h2 := Nat.div_le_self q (uu + 1)
     omega
    have hu0 : (((uu : Int) + 1) == 0) = false := by
     rw [beq_eq_false_iff_ne]
     omega
    have hwk : IntKind.i64.wrap ((kp : Int) + (st : Int)) = (e : Int) := by rw [IntKind.wrap_i64]; omega
    have hle : ((upto zs j d.fs)[j].bs.take e).length = e := by
     rw [List.length_take,HBn.out]
     omega
    have hqi : (q : Int) ≤ 9223372036854775807 := (HI.out.wf _ (List.mem_of_getElem? hqz)).2
    have hjn2 : j < n := by
     have := (List.getElem?_eq_some_iff.1 hqz).1
     have := HIn.out
     omega
    obtain ⟨b,off,hao,hcell⟩ : ∃ b off,ao = some ⟨b,off,none⟩ ∧ wz.cell? ⟨b,off + j,none⟩ = some (.int .i64 (q : Int)) := by
     have hz' : j < zs.length := HIn.out ▸ hjn2
     rcases HIw.out.seg with e | ⟨b,off,e,hc⟩
     ·
      rw [e] at hz'
      cases hz'
     ·
      refine ⟨b,off,e,?_⟩
      rw [hc j hz',(List.getElem?_eq_some_iff.1 hqz).2]
    subst hao
    have hgt : (0 : Int) < (q : Int) := by omega
    have hjn3 : (j : Int) < (n : Int) := by omega
    obtain ⟨hsl,hL2⟩ := HL.out.to e heb
    have hKle : (upto zs j d.fs)[j].kept ≤ (upto zs j d.fs)[j].bs.length := by rw [HKp.out,HBn.out]; exact hkb
    have hU1 : (upto zs j d.fs)[j].bs.length - (upto zs j d.fs)[j].kept + 1 = uu + 1 := by
     have := HUu.out
     rw [HKp.out,HBn.out]
     omega
    have HNo : Hid (¬ (0 < st ∧ od = 1) → tear (upto zs j d.fs)[j] (pick zs j) = ⟨(upto zs j d.fs)[j].name,(upto zs j d.fs)[j].bs.take e,e⟩) := Lib.hid fun hf => by
     rw [HPk.out,tear_no hKle (by rw [hU1,hst,hqq,hod]; exact hf),hU1,hst,HKp.out,he]
    have HYes : Hid (0 < st ∧ od = 1 → tear (upto zs j d.fs)[j] (pick zs j) = ⟨(upto zs j d.fs)[j].name,Dk.flip ((upto zs j d.fs)[j].bs.take e),e⟩) := Lib.hid fun hf => by
     rw [HPk.out,tear_yes hKle (by rw [hU1,hst,hqq,hod]; exact hf),hU1,hst,HKp.out,he]
    obtain ⟨fb,hfb⟩ : ∃ fb,(upto zs j d.fs)[j].bs.take e = fb := ⟨_,rfl⟩
    rw [hfb] at hL2 hle
    simp only [hfb] at HNo HYes
    have HLd := Lib.hid hL2
    have HLe := Lib.hid hle
    have HNx : Hid (∀ (y : World) (xa : Option Addr) (xn xc : Nat) (cs : List UInt8),Below wz.heap.size wz y → By.Own y wz.heap.size (.slice xa xn xc) cs → cs.length = e → tear (upto zs j d.fs)[j] (pick zs j) = ⟨(upto zs j d.fs)[j].name,cs,e⟩ → Dr.CrI P w p d.fs zs (j + 1) ((y.setCell ⟨g,j * 3 + 1,none⟩ (.slice xa xn xc)).setCell ⟨g,j * 3 + 2,none⟩ (.int .i64 (e : Int)))) := Lib.hid fun y xa xn xc cs b o hl ht => H.out.next hjl (HFin.out y xa xn xc (pick zs j) e _ b o hl ht)
    clear hL2 hle hfb hqz hst hqq hod hKle hU1 HPk HFin HL H HUu hq0 hjn2
    go_upto_region 8 with fail
    go_region
    all_goals
     go_upto_region 10 with fail
     go_cut [9] (fun bv wx => ∃ (xa : Option Addr) (xn xc : Nat),bv = .slice xa xn xc ∧ Hid (Below wz.heap.size wz wx) ∧ Hid (By.Own wx wz.heap.size (.slice xa xn xc) ([] ++ fb)))
     case first =>
      go_region_law (first | (refine By.step_append (wz.alloc (.cells #[] 5)).drew.drew wz (by exact lb1.out _) (by rfl) (.tmp 60) (.tmp 71) (by rfl) (.slice (some ⟨wz.heap.size,0,none⟩) 0 0) [] (by rfl) (By.own_empty (Nat.le_refl _) (heap_alloc_new wz _)) bo e bc fb (by rfl) HLd.out.len HLd.out.nil (HLd.out.seg.below (by exact lb1.out _)) (by simp; omega) ?_; intro v3 y3 o3 gr3 b3; (obtain ⟨xa,xn,xc,rfl⟩ := Dr.by_slice o3)) | fail)
      all_goals
       go_wp2
       go_meet
       exact ⟨_,_,_,rfl,Lib.hid b3,Lib.hid o3⟩
     case rest =>
      obtain ⟨xa,xn,xc,rfl,HB,HO⟩ := hcut
      obtain ⟨z0,z1,z2,z3,z4,z5,z6,z7⟩ := HLx.out wc HB.out
      have ho := HO.out
      rw [List.nil_append] at ho
      have hxn : xn = e := ((own_n (s := ⟨xa,xn,xc⟩) ho).1).trans HLe.out
      obtain ⟨hx0,hxf,hxr⟩ := own_n (s := ⟨xa,xn,xc⟩) ho
      simp only at hxf hxr
      clear hx0
      subst hxn
      clear HO hsl hwk HLd lb1 htm
      by_cases hf : 0 < st ∧ od = 1
      ·
       have ht := HYes.out hf
       obtain ⟨hf1,hf2⟩ := hf
       have hf1' : (0 : Int) < (st : Int) := by omega
       subst hf2
       obtain ⟨bb,e1,e2,e3,e4,e5⟩ := By.own_last (s := ⟨xa,xn,xc⟩) ho (by rw [HLe.out]; omega)
       simp only at e1
       subst e1
       have hbb := By.own_ge ho bb rfl
       have hgb : g ≠ bb := by
        have := HB.out.size
        omega
       rw [HLe.out] at e3 e4
       obtain ⟨m1,hm1⟩ : ∃ m1,xn - 1 = m1 := ⟨_,rfl⟩
       have hsub : (xn : Int) - 1 = (m1 : Int) := by omega
       have hm2 : m1 < xn := by omega
       rw [hm1] at e3 e4
       obtain ⟨yb,hyb⟩ : ∃ yb,fb.getLast?.getD 0 = yb := ⟨_,rfl⟩
       rw [hyb] at e3
       have hxor := xor_byte yb
       have HN := Lib.hid (HNx.out (wc.setCell ⟨bb,m1,none⟩ (.int .u8 ((yb ^^^ 255).toNat : Int))) _ _ _ (Dk.flip fb) (HB.out.setCell hbb _) (by
        have := e5 (yb ^^^ 255)
        rw [HLe.out,hm1] at this
        unfold Dk.flip
        rw [hyb,HLe.out,hm1]
        exact this) (by unfold Dk.flip; rw [List.length_set]; exact HLe.out) ht)
       have z1' : (wc.setCell ⟨bb,m1,none⟩ (.int .u8 ((yb ^^^ 255).toNat : Int))).cell? ⟨g,j * 3 + 1,none⟩ = some (.slice bo bn bc) := by simp [go_sem,z1]
       have z2' : (wc.setCell ⟨bb,m1,none⟩ (.int .u8 ((yb ^^^ 255).toNat : Int))).cell? ⟨g,j * 3 + 2,none⟩ = some (.int .i64 (kp : Int)) := by simp [go_sem,z2]
       have z3' : (wc.setCell ⟨bb,m1,none⟩ (.int .u8 ((yb ^^^ 255).toNat : Int))).frozen? ⟨g,j * 3 + 1,none⟩ = false := by simp [go_sem,z3]
       have z4' : (wc.setCell ⟨bb,m1,none⟩ (.int .u8 ((yb ^^^ 255).toNat : Int))).frozen? ⟨g,j * 3 + 2,none⟩ = false := by simp [go_sem,z4]
       change wc.cell? ⟨bb,m1,none⟩ = some (.int .u8 (yb.toNat : Int)) at e3
       generalize ((yb ^^^ 255).toNat : Int) = yx at *
       generalize (yb.toNat : Int) = yv at *
       clear e5 ho ht HB HNx HLx HNo HYes hyb hm1 hbb e2 z1 z2 z3 z4
       go_wp2
       go_roundw
       case rel => exact ⟨j + 1,by omega,by go_num,HN⟩
       case measure => simp [intOf]; omega
      ·
       have HN := Lib.hid (HNx.out wc xa xn xc fb HB.out ho HLe.out (HNo.out hf))
       clear HB HNx HLx HNo HYes ho
       by_cases h0 : 0 < st
       ·
        have h0' : (0 : Int) < (st : Int) := by omega
        have h1' : ((od : Int) == 1) = false := by
         rw [beq_eq_false_iff_ne]
         omega
        have h1'' : ¬ (od : Int) = 1 := beq_eq_false_iff_ne.1 h1'
        have h1n : ¬ od = 1 := by omega
        clear hf
        go_wp2
        go_roundw
        case rel => exact ⟨j + 1,by omega,by go_num,HN⟩
        case measure => simp [intOf]; omega
       ·
        obtain rfl : st = 0 := by omega
        clear hf h0
        go_wp2
        go_roundw
        case rel => exact ⟨j + 1,by omega,by go_num,HN⟩
        case measure => simp [intOf]; omega
   ·
    have HPk : Hid (pick zs j = 0) := Lib.hid (by
     by_cases hz : j < zs.length
     ·
      by_cases hz2 : 0 < zs[j]
      · exact absurd ⟨zs[j].toNat,by omega,by rw [List.getElem?_eq_getElem hz]; congr 1; omega⟩ hpos
      · exact pick_no (List.getElem?_eq_getElem hz) (by omega)
     · exact pick_out (by omega))
    have HT : Hid (tear (upto zs j d.fs)[j] (pick zs j) = ⟨(upto zs j d.fs)[j].name,(upto zs j d.fs)[j].bs.take kp,kp⟩) := Lib.hid (by
     rw [HPk.out,tear_no (by rw [HKp.out,HBn.out]; exact hkb) (by rw [Nat.zero_mod]; exact fun z => absurd z.1 (Nat.lt_irrefl _)),Nat.zero_mod,Nat.add_zero,HKp.out])
    have HNx : Hid (∀ (y : World) (xa : Option Addr) (xn xc : Nat),Below wz.heap.size wz y → By.Own y wz.heap.size (.slice xa xn xc) ([] ++ (upto zs j d.fs)[j].bs.take kp) → xn = kp ∧ Dr.CrI P w p d.fs zs (j + 1) ((y.setCell ⟨g,j * 3 + 1,none⟩ (.slice xa xn xc)).setCell ⟨g,j * 3 + 2,none⟩ (.int .i64 (kp : Int)))) := Lib.hid fun y xa xn xc b o => by
     rw [List.nil_append] at o
     have hl : ((upto zs j d.fs)[j].bs.take kp).length = kp := by
      rw [List.length_take,HBn.out]
      omega
     have e1 := (own_n (s := ⟨xa,xn,xc⟩) o).1
     simp only at e1
     exact ⟨e1.trans hl,H.out.next hjl (HFin.out y xa xn xc (pick zs j) kp _ b o hl HT.out)⟩
    obtain ⟨hsl,hL2⟩ := HL.out.to kp hkb
    obtain ⟨fb,hfb⟩ : ∃ fb,(upto zs j d.fs)[j].bs.take kp = fb := ⟨_,rfl⟩
    simp only [hfb] at hL2 HNx
    have HLd := Lib.hid hL2
    have HOut : Hid ((¬ (j : Int) < (n : Int)) ∨ ((j : Int) < (n : Int) ∧ ∃ b off z,ao = some ⟨b,off,none⟩ ∧ wz.cell? ⟨b,off + j,none⟩ = some (.int .i64 z) ∧ z ≤ 0)) := Lib.hid (by
     by_cases hz : j < n
     ·
      refine .inr ⟨by omega,?_⟩
      have hz' : j < zs.length := HIn.out ▸ hz
      rcases HIw.out.seg with e | ⟨b,off,e,hc⟩
      ·
       rw [e] at hz'
       cases hz'
      ·
       refine ⟨b,off,_,e,hc j hz',?_⟩
       apply Int.not_lt.1
       intro hz2
       exact hpos ⟨zs[j].toNat,by omega,by rw [List.getElem?_eq_getElem hz']; congr 1; omega⟩
     · exact .inl (by omega))
    have hwk : IntKind.i64.wrap (kp : Int) = (kp : Int) := by rw [IntKind.wrap_i64]; omega
    clear hL2 hfb hpos HPk HT HFin HL H HUu
    rcases HOut.out with ho | ⟨ho,b,off,z,rfl,hz1,hz2⟩
    all_goals
     clear HOut
     go_upto_region 8 with fail
     go_region
     all_goals
      go_upto_region 10 with fail
      go_cut [9] (fun bv wx => ∃ (xa : Option Addr) (xn xc : Nat),bv = .slice xa xn xc ∧ Hid (Below wz.heap.size wz wx) ∧ Hid (By.Own wx wz.heap.size (.slice xa xn xc) ([] ++ fb)))
      case first =>
       go_region_law (first | (refine By.step_append (wz.alloc (.cells #[] 5)).drew.drew wz (by exact lb1.out _) (by rfl) (.tmp 60) (.tmp 71) (by rfl) (.slice (some ⟨wz.heap.size,0,none⟩) 0 0) [] (by rfl) (By.own_empty (Nat.le_refl _) (heap_alloc_new wz _)) bo kp bc fb (by rfl) HLd.out.len HLd.out.nil (HLd.out.seg.below (by exact lb1.out _)) (by simp; omega) ?_; intro v3 y3 o3 gr3 b3; (obtain ⟨xa,xn,xc,rfl⟩ := Dr.by_slice o3)) | fail)
       all_goals
        go_wp2
        go_meet
        exact ⟨_,_,_,rfl,Lib.hid b3,Lib.hid o3⟩
      case rest =>
       obtain ⟨xa,xn,xc,rfl,HB,HO⟩ := hcut
       obtain ⟨z0,z1,z2,z3,z4,z5,z6,z7⟩ := HLx.out wc HB.out
       obtain ⟨hxn,hnext⟩ := HNx.out wc xa xn xc HB.out HO.out
       subst hxn
       have HN := Lib.hid hnext
       clear hnext HB HO HNx HLx hsl hwk HLd lb1
       go_wp2
       go_roundw
       case rel => exact ⟨j + 1,by omega,by go_num,HN⟩
       case measure => simp [intOf]; omega
  ·
   obtain rfl : j = nn := by omega
   obtain ⟨d0,d1,d2⟩ := a.box.cells
   have hvn := a.n
   have HE : Hid (Dr.Dsk (nw P w) wz p (crashD d zs)) := Lib.hid (by
    have e : crashD d zs = ⟨upto zs j d.fs,false,-1⟩ := by
     unfold crashD
     rw [← HNn.out,upto_all]
    rw [e]
    exact H.out.1)
   have HU := Lib.hid H.out.2
   obtain ⟨vao,vn,vcap⟩ := vv
   simp only at d0 hvn
   have hvn2 : vn = j := by
    have e1 : (upto zs j d.fs).length = j := hlen
    omega
   subst hvn2
   clear a H hvn hlen
   go_wp2
   go_end0
   exact ⟨rfl,HE.out,HU.out⟩
end
end Go.Proofs.Ytegniklofhopeaa
