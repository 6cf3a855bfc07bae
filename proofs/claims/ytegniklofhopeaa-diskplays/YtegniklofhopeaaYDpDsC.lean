/- impostlaw16's alike: both disks tell the same. -/
import Derived.Test.YtegniklofhopeaaYDpDsA
import Derived.Test.YtegniklofhopeaaYDpDrB
import Derived.Test.YtegniklofhopeaaYDpStB
import Derived.Test.YtegniklofhopeaaZDp3
import Derived.Deep.RegionHeld3
import Derived.Deep.DeepCutAuto
import Derived.Deep.CutBlock
set_option maxRecDepth 100000
set_option linter.unusedVariables false
namespace Go.Proofs.Ytegniklofhopeaa
open Go.RowKit
open Mem Dk
section
variable {R : Nat → Prop} {w : World} {q : Nat} {d : D}
theorem r_names (h : Dr.Dsk R w q d) : Calls Try.prog 29 #[.pointer (some ⟨q,0,none⟩)] w (NamesE w d.fs) := by
 obtain ⟨v,rs,a⟩ := h
 exact dr_names a
theorem r_total (h : Dr.Dsk R w q d) : Calls Try.prog 31 #[.pointer (some ⟨q,0,none⟩)] w fun e w' => e = .returned (.int .i64 (total d.fs : Nat)) ∧ w' = w := by
 obtain ⟨v,rs,a⟩ := h
 exact dr_total a
theorem r_off (h : Dr.Dsk R w q d) : w.cell? ⟨q,2,none⟩ = some (.bool d.off) ∧ q < w.heap.size := by
 obtain ⟨v,rs,a⟩ := h
 exact ⟨a.box.cells.2.2,a.box.lt⟩
theorem r_nth (h : Dr.Dsk R w q d) {k : Nat} (hk : k < d.fs.length) : Calls Try.prog 33 #[.pointer (some ⟨q,0,none⟩),.string d.fs[k].name] w fun e w' => w' = w ∧ ∃ ao n cap,e = .returned (.tuple #[.slice ao n cap,.bool true]) ∧ By.Ls w ao n cap d.fs[k].bs := by
 obtain ⟨v,rs,a⟩ := h
 obtain ⟨h1,h2⟩ := own_eq a.ok.sorted (List.getElem_mem hk) rfl
 refine (dr_read a d.fs[k].name).mono ?_
 rintro e w' ⟨rfl,⟨h3,rfl⟩ | ⟨_,ao,n,cap,rfl,hb⟩⟩
 ·
  rw [h1] at h3
  cases h3
 ·
  rw [h2] at hb
  exact ⟨rfl,ao,n,cap,rfl,hb⟩
end
set_option maxHeartbeats 8000000 in
theorem law_alike {w0 W : World} {p q : Nat} {d : D} (h : Bo w0 W p q d) (hN : Named d) (hf : d.fs.length ≤ 1000) :
  Calls Try.prog 9 #[.pointer (some ⟨p,0,none⟩),.pointer (some ⟨q,0,none⟩)] W fun e W' => e = .returned (.bool true) ∧ Below W.heap.size W W' := by
 obtain ⟨P,R,hb⟩ := h
 have HB := Lib.hid hb
 have HNm := Lib.hid hN
 obtain ⟨o1,o2⟩ := r_off hb.r
 have lx : Hid (∀ u,Below W.heap.size W u → Below W.heap.size W u ∧ u.cell? ⟨q,2,none⟩ = some (.bool d.off)) := Lib.hid fun u b => ⟨b,((bcell b).1 _ _ o2).trans o1⟩
 obtain ⟨nn,hnn⟩ : ∃ nn,d.fs.length = nn := ⟨_,rfl⟩
 have HNn := Lib.hid hnn
 have HLn : Hid ((names d.fs).length = nn) := Lib.hid (by unfold names; rw [List.length_map]; exact hnn)
 rw [hnn] at hf
 clear hb hN hnn o2 o1
 go_enter Try.func9,Try.ntmps9
 go_wp2_with (go_at_call 29; refine (r_names HB.out.r).mono ?_; rintro e W1 ⟨v1,rfl,n1,b1⟩; (obtain ⟨lo,lc,hv1,hNs⟩ := St.own_ls n1); rw [HLn.out] at hv1 hNs; subst hv1; have HNs := Lib.hid hNs; have hl1 := hNs.fits; have hl2 := hNs.reach; have HB1 := Lib.hid b1; have H1 := Lib.hid (HB.out.later b1); clear hNs b1 n1)
 obtain ⟨_,c2⟩ := lx.out W1 HB1.out
 have lx1 : Hid (∀ u,Below W1.heap.size W1 u → Below W1.heap.size W1 u ∧ u.cell? ⟨q,2,none⟩ = some (.bool d.off)) := Lib.hid fun u b => ⟨b,(lx.out u (bchain HB1.out b)).2⟩
 obtain ⟨tt,htt⟩ : ∃ tt,total d.fs = tt := ⟨_,rfl⟩
 have HTt := Lib.hid htt
 clear htt
 go_upto_region 2 with fail
 go_cut [35] (fun c wx => c = .bool false ∧ Hid (Below W1.heap.size W1 wx))
 case first =>
  have hB0 : Below W1.heap.size W1 W1.drew := (Below.refl _ _).drew
  go_region_held3 (fun u => Below W1.heap.size W1 u ∧ u.cell? ⟨q,2,none⟩ = some (.bool d.off)) (first | assumption | (apply lx1.out; first | assumption | exact (Below.refl _ _).drew | fail) | fail) (first | (go_at_call 18; refine (s_names (H1.out.later hB0).s).mono ?_; rintro e u1 ⟨v1,rfl,n1,b1⟩; (obtain ⟨no,nc,hv1,hN1⟩ := St.own_ls n1); rw [HLn.out] at hv1 hN1; subst hv1; have B1 := bchain hB0 b1; have S1 := lx1.out u1 B1; have CS := Lib.hid (St.same (names d.fs) no lo nn nc lc u1 hN1 (HNs.out.below B1)); clear n1 b1 hN1) | (go_at_call 30; refine CS.out.mono ?_; rintro e u2 ⟨rfl,b2⟩; have B2 := bchain B1 b2; have S2 := lx1.out u2 B2; clear b2 CS) | (go_at_call 19; refine (s_total (H1.out.later B2).s).mono ?_; rintro e u3 ⟨rfl,b3⟩; have B3 := bchain B2 b3; have S3 := lx1.out u3 B3; rw [HTt.out]; clear b3) | (go_at_call 31; refine (r_total (H1.out.later B3).r).mono ?_; rintro e u4 ⟨rfl,hu4⟩; rw [hu4,HTt.out]; clear hu4 u4) | (go_at_call 32; refine (s_off (H1.out.later B3).s).mono ?_; rintro e u5 ⟨rfl,hu5⟩; rw [hu5]; clear hu5 u5) | fail)
  all_goals
   go_wp2
   go_meet
   exact ⟨rfl,Lib.hid B3⟩
 case rest =>
  obtain ⟨rfl,hcut⟩ := hcut
  have HB2 := Lib.hid (bchain HB1.out hcut.out)
  have H2 := Lib.hid (H1.out.later hcut.out)
  have HN2 := Lib.hid (HNs.out.below hcut.out)
  clear hcut H1 HNs lx lx1 c2 HB1
  go_wp2_with fail
  go_loopw [6,7,8,9,10] (fun i _ _ _ _ wr => ∃ k : Nat,k ≤ nn ∧ i = .int .i64 k ∧ Hid (Below wc.heap.size wc wr)) (fun i _ _ _ _ _ => nn - (intOf i).toNat)
  case atStart => exact ⟨0,by omega,rfl,Lib.hid (Below.refl _ _)⟩
  case round =>
   rename World => wy
   obtain ⟨k,hk,rfl,HW⟩ := hrel
   have HY := Lib.hid (H2.out.later HW.out)
   by_cases hkn : k < nn
   ·
    have hkf : k < d.fs.length := HNn.out ▸ hkn
    have hk2 : k < (names d.fs).length := HLn.out ▸ hkn
    obtain ⟨b,off,rfl⟩ := HN2.out.at (by omega)
    have r0 := (HN2.out.below HW.out).row k hk2
    have e0 : (names d.fs)[k] = d.fs[k].name := by simp [names]
    rw [e0] at r0
    have C1 := Lib.hid (s_nth HY.out.s hkf)
    have HC2 : Hid (∀ u,Below wy.heap.size wy u → Calls Try.prog 33 #[.pointer (some ⟨q,0,none⟩),.string d.fs[k].name] u fun e w' => w' = u ∧ ∃ ao n cap,e = .returned (.tuple #[.slice ao n cap,.bool true]) ∧ By.Ls u ao n cap d.fs[k].bs) := Lib.hid fun u b => r_nth (HY.out.r.below b) hkf
    have hrm : d.fs[k].bs.length ≤ 4194304 := Nat.le_trans (total_mem (List.getElem_mem hkf)) HY.out.s.ok.room
    obtain ⟨f,hfk⟩ : ∃ f,d.fs[k] = f := ⟨_,rfl⟩
    rw [hfk] at r0 C1 HC2 hrm
    clear hfk e0
    go_wp2_with (first | (go_at_call 16; refine C1.out.mono ?_; rintro e W3 ⟨g3,rfl,hb3,b3⟩; have r0' := ((bcell b3).1 _ (off + k) (cell_lt r0)).trans r0; have C2 := Lib.hid (HC2.out W3 b3); have HB3 := Lib.hid b3; have HBk := Lib.hid hb3; clear b3 hb3 C1 r0) | (go_at_call 33; refine C2.out.mono ?_; rintro e W4 ⟨hw4,ao4,n4,cap4,rfl,hL4⟩; rw [hw4]; (have C3 := Lib.hid (By.same_any f.bs f.bs _ _ _ _ _ _ W3 (HBk.out.ls (by omega)) hL4)); rw [decide_eq_true rfl] at C3; clear hw4 W4 C2 hL4) | (go_at_call 17; refine C3.out.mono ?_; rintro e W5 ⟨rfl,b5⟩; have HW5 := Lib.hid (bchain HW.out (bchain HB3.out b5)); clear b5 C3))
    go_roundw
    case rel => exact ⟨k + 1,by omega,by go_num,HW5⟩
    case measure => simp [intOf]; omega
   ·
    obtain rfl : k = nn := by omega
    have C := Lib.hid (s_is HY.out.s nsf false (no_such HNm.out))
    go_wp2_with (go_at_call 16; refine C.out.mono ?_; rintro e W6 ⟨ro,rn,rc,rfl,b6⟩; have HB6 := Lib.hid (bchain HB2.out (bchain HW.out b6)); clear b6 C)
    go_ret
    exact ⟨rfl,HB6.out⟩
end Go.Proofs.Ytegniklofhopeaa
