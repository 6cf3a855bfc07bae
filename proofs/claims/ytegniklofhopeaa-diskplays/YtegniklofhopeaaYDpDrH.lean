/- THE DOCUMENT's OWN DISK: Cut. (By gendrf.py.) -/
import Derived.Test.YtegniklofhopeaaYDpDrF
import Derived.Deep.RegionLaw
import Derived.Deep.DeepCutAuto
import Derived.Deep.CutBlock
set_option maxRecDepth 100000
set_option linter.unusedVariables false
namespace Go.Proofs.Ytegniklofhopeaa
open Go.RowKit
open Mem Dk
section
variable {P : Nat → Prop} {w : World} {p : Nat} {d : D} {v : Sl} {rs : List Rq.T}
theorem Dk.cut_ok {d : D} (h : Ok d) {s : ByteArray} (hh : has s d.fs = true) {m : Nat} (hm : m ≤ (Dk.own s d.fs).bs.length) : Ok ⟨put ⟨s,(Dk.own s d.fs).bs.take m,min (Dk.own s d.fs).kept m⟩ d.fs,d.off,d.left⟩ := by
 have ht := total_put (f := ⟨s,(Dk.own s d.fs).bs.take m,min (Dk.own s d.fs).kept m⟩) h.sorted
 have hr := h.room
 simp only [List.length_take] at ht
 refine put_ok h ?_ ?_ (by omega)
 ·
  simp only [List.length_take]
  omega
 ·
  have := h.names _ (own_mem h.sorted hh)
  rw [own_name h.sorted] at this
  exact this
set_option maxHeartbeats 8000000 in
theorem dr_cut (h : Dr.At P w p d v rs) (s : ByteArray) (n : Int) (hn : Fit n) : Calls Try.prog 23 #[.pointer (some ⟨p,0,none⟩),.string s,.int .i64 n] w (Dr.OpE P w p (cutD d s n)) := by
 have CA := Lib.hid (dr_at h s)
 have CP := Lib.hid (dr_power h)
 obtain ⟨c0,c1,c2⟩ := h.box.cells
 obtain ⟨hn1,hn2⟩ := hn
 cases ho : d.off
 ·
  cases hh : has s d.fs
  ·
   have HE : Hid (Dr.OpE P w p (cutD d s n) (.returned (.int .i64 11)) w) := Lib.hid (by
    have e : cutD d s n = (11,d) := by
     unfold cutD
     rw [if_neg (by rw [ho]; exact Bool.false_ne_true),if_pos hh]
    rw [e]
    exact ⟨rfl,⟨v,rs,h.mono fun b z => .inl z⟩,UpdQ.refl _ _⟩)
   rw [Dr.atI_no hh] at CA
   rw [ho] at c2
   clear h ho hh
   go_enter Try.func23,Try.ntmps23
   go_wp2_with (go_at_call 44; refine CA.out.mono ?_; rintro e u ⟨rfl,hu⟩; rw [hu]; clear hu u CA)
   go_ret
   exact HE.out
  ·
   rw [Dr.atI_yes hh] at CA
   obtain ⟨g,r,hg,hkn,⟨q0,q1,q2⟩,hf,hkp,hL,hln,hOwn,hbl,hgl,hgp⟩ := h.cells hh
   have hvn := h.n
   obtain ⟨m2,m3⟩ := And.intro hvn.2.1 hvn.2.2.1
   rw [hg] at c0
   have hbr := hL.reach
   have hbf := hL.fits
   have hkle := h.ok.kept _ (own_mem h.ok.sorted hh)
   have hrm := own_room h.ok s
   have hrm2 := h.ok.room
   by_cases hbad : n < 0 ∨ ((Dk.own s d.fs).bs.length : Int) < n
   ·
    have HE : Hid (Dr.OpE P w p (cutD d s n) (.returned (.int .i64 1)) w) := Lib.hid (by
     have e : cutD d s n = (1,d) := by
      unfold cutD
      rw [if_neg (by rw [ho]; exact Bool.false_ne_true),if_neg (by rw [hh]; intro z; cases z),if_pos hbad]
     rw [e]
     exact ⟨rfl,⟨v,rs,h.mono fun b z => .inl z⟩,UpdQ.refl _ _⟩)
    rw [← hln] at hbad
    rw [ho] at c2
    clear h ho hh hf hkp hL hln hOwn hbl hvn hkle hrm hrm2
    generalize Dk.spot s d.fs = k at *
    by_cases hneg : n < 0
    ·
     go_enter Try.func23,Try.ntmps23
     go_wp2_with (go_at_call 44; refine CA.out.mono ?_; rintro e u ⟨rfl,hu⟩; rw [hu]; clear hu u CA)
     go_ret
     exact HE.out
    ·
     have hbig : (r.bytes.n : Int) < n := hbad.resolve_left hneg
     clear hbad
     go_enter Try.func23,Try.ntmps23
     go_wp2_with (go_at_call 44; refine CA.out.mono ?_; rintro e u ⟨rfl,hu⟩; rw [hu]; clear hu u CA)
     go_ret
     exact HE.out
   ·
    have HB := Lib.hid hbad
    have HE1 : Hid (∀ w',d.left = 0 → Dr.At P w' p (down d) v rs → UpdQ (fun b => b = p) w w' → Dr.OpE P w p (cutD d s n) (.returned (.int .i64 18)) w') := Lib.hid fun w' h0 a u => by
     have e : cutD d s n = (18,down d) := by
      unfold cutD
      rw [if_neg (by rw [ho]; exact Bool.false_ne_true),if_neg (by rw [hh]; intro z; cases z),if_neg HB.out,if_pos h0]
     rw [e]
     exact ⟨rfl,⟨v,rs,a.mono fun b z => .inl z⟩,u.mono fun b z => z ▸ h.pp⟩
    obtain ⟨m,rfl⟩ : ∃ m : Nat,n = (m : Int) := ⟨n.toNat,by omega⟩
    have hm : m ≤ (Dk.own s d.fs).bs.length := by omega
    have HE2 : Hid (d.left ≠ 0 → cutD d s (m : Int) = (0,with' d (put ⟨s,(Dk.own s d.fs).bs.take m,min (Dk.own s d.fs).kept m⟩ d.fs))) := Lib.hid fun h0 => by
     unfold cutD
     rw [if_neg (by rw [ho]; exact Bool.false_ne_true),if_neg (by rw [hh]; intro z; cases z),if_neg HB.out,if_neg h0,Int.toNat_natCast]
    have HOk := Lib.hid (cut_ok h.ok hh hm)
    have HPp := Lib.hid h.pp
    have hge : ¬ (m : Int) < 0 := by omega
    have hle : ¬ (r.bytes.n : Int) < (m : Int) := by omega
    rw [ho] at c2
    have HH := Lib.hid hh
    clear h ho hbad hvn hf hbl hOwn hh hln
    go_enter Try.func23,Try.ntmps23
    go_wp2_with (go_at_call 44; refine CA.out.mono ?_; rintro e u ⟨rfl,hu⟩; rw [hu]; clear hu u CA)
    refine CP.out.mono ?_
    rintro e W ⟨hE,u⟩
    clear q0 q1 q2 c0 c1 c2 hg hkn hkp hL hgl hgp m2 m3 hbr hbf hle
    rcases hE with ⟨h0,rfl,a⟩ | ⟨h0,rfl,a⟩
    ·
     have HEq := Lib.hid (HE2.out h0)
     obtain ⟨g,r,hg,hkn,⟨q0,q1,q2⟩,hf,hkp,hL,hln,hOwn,hbl,hgl,hgp⟩ := a.cells (show has s (spent d).fs = true from HH.out)
     change Dk.spot s d.fs < v.n at hkn
     change W.cell? ⟨g,Dk.spot s d.fs * 3,none⟩ = _ at q0
     change W.cell? ⟨g,Dk.spot s d.fs * 3 + 1,none⟩ = _ at q1
     change W.cell? ⟨g,Dk.spot s d.fs * 3 + 2,none⟩ = _ at q2
     change r.kept = ((Dk.own s d.fs).kept : Int) at hkp
     change By.Ls W r.bytes.ao r.bytes.n r.bytes.cap (Dk.own s d.fs).bs at hL
     change r.bytes.n = (Dk.own s d.fs).bs.length at hln
     obtain ⟨d0,d1,d2⟩ := a.box.cells
     rw [hg] at d0
     have hvn := a.n
     obtain ⟨m2,m3⟩ := And.intro hvn.2.1 hvn.2.2.1
     obtain ⟨kq,hkq⟩ : ∃ kq,min (Dk.own s d.fs).kept m = kq := ⟨_,rfl⟩
     have hmin : min r.kept (m : Int) = (kq : Int) := by
      rw [hkp]
      omega
     rw [hkq] at HEq HOk
     have hpl := a.box.lt
     have HF : Hid (∀ (y : World) (xa : Option Addr) (xn xc : Nat),Below W.heap.size W y → By.Own y W.heap.size (.slice xa xn xc) ([] ++ (Dk.own s d.fs).bs.take m) → Dr.OpE P w p (cutD d s (m : Int)) (.returned (.int .i64 0)) ((y.setCell ⟨g,Dk.spot s d.fs * 3 + 1,none⟩ (.slice xa xn xc)).setCell ⟨g,Dk.spot s d.fs * 3 + 2,none⟩ (.int .i64 (kq : Int)))) := Lib.hid fun y xa xn xc b o => by
      rw [List.nil_append] at o
      obtain ⟨a5,u5⟩ := a.two (s := s) HH.out hg b (x := ⟨xa,xn,xc⟩) (By.own_mono o (Nat.zero_le _)) (fun c ec => by
       have := By.own_ge o c ec
       exact ⟨.inr this,by omega,by omega⟩) (ok_dec HOk.out)
      rw [HEq.out]
      exact ⟨rfl,a5.mono fun b z => z.elim .inl fun z => .inr (Nat.le_trans u.size z),(u.mono fun b z => z ▸ HPp.out).trans u5⟩
     have lx : Hid (∀ u,Below W.heap.size W u → u.cell? ⟨p,0,none⟩ = some (.slice (some ⟨g,0,none⟩) v.n v.cap) ∧ u.cell? ⟨g,Dk.spot s d.fs * 3 + 1,none⟩ = some (.slice r.bytes.ao r.bytes.n r.bytes.cap) ∧ u.cell? ⟨g,Dk.spot s d.fs * 3 + 2,none⟩ = some (.int .i64 r.kept) ∧ (∀ o,u.frozen? ⟨g,o,none⟩ = false) ∧ p < u.heap.size ∧ g < u.heap.size) := Lib.hid fun u b => ⟨((bcell b).1 _ _ hpl).trans d0,((bcell b).1 _ _ hgl).trans q1,((bcell b).1 _ _ hgl).trans q2,fun o => ((bcell b).2 _ _ hgl).trans (hf o),Nat.lt_of_lt_of_le hpl b.size,Nat.lt_of_lt_of_le hgl b.size⟩
     obtain ⟨hsl,hL2⟩ := hL.to m (by omega)
     obtain ⟨fb,hfb⟩ : ∃ fb,(Dk.own s d.fs).bs.take m = fb := ⟨_,rfl⟩
     rw [hfb] at hL2 HF
     have HLd := Lib.hid hL2
     have hmb : m ≤ 4194304 := by omega
     have hbr := hL.reach
     have hbf := hL.fits
     have f1 := hf (Dk.spot s d.fs * 3 + 1)
     have lb1 : Hid (∀ o,Below W.heap.size W (W.alloc o).drew) := Lib.hid fun o => ((Below.refl _ _).alloc (Nat.le_refl _) _).drew
     have lb2 : Hid (∀ o o',Below W.heap.size W ((W.alloc o).alloc o').drew) := Lib.hid fun o o' => (below_box ((Below.refl _ _).alloc (Nat.le_refl _) _) _).drew
     clear a u hkp hL hL2 hln hOwn hbl hf hvn HEq h0 HE1 HE2 CP HOk hkq hfb hkle hrm hrm2 hm
     generalize Dk.spot s d.fs = k at *
     go_upto_region 10 with fail
     go_cut [] (fun wx => ∃ (y : World) (xa : Option Addr) (xn xc : Nat),Hid (wx = y.setCell ⟨g,k * 3 + 1,none⟩ (.slice xa xn xc)) ∧ Hid (Below W.heap.size W y) ∧ Hid (By.Own y W.heap.size (.slice xa xn xc) ([] ++ fb)))
     case first =>
      go_region_law (first | (refine By.step_append (W.alloc (.cells #[] 5)).drew W (by first | exact lb1.out _ | exact lb2.out _ _) (by rfl) (.tmp 44) (.tmp 54) (by rfl) (.slice (some ⟨W.heap.size,0,none⟩) 0 0) [] (by rfl) (By.own_empty (Nat.le_refl _) (heap_alloc_new W _)) r.bytes.ao m r.bytes.cap fb (by rfl) HLd.out.len HLd.out.nil (HLd.out.seg.below (by first | exact lb1.out _ | exact lb2.out _ _)) (by simp; omega) ?_; intro v3 y3 o3 gr3 b3; have s3 := lx.out _ b3; (obtain ⟨t30,t31,t32,t33,t34,t35⟩ := s3); (have t36 := t33 (k * 3 + 1)); (obtain ⟨xa,xn,xc,rfl⟩ := Dr.by_slice o3)) | fail)
      all_goals
       go_wp2
       go_meet
       exact ⟨_,_,_,_,Lib.hid rfl,Lib.hid b3,Lib.hid o3⟩
     case rest =>
      obtain ⟨y,xa,xn,xc,HW,HY,HO⟩ := hcut
      obtain ⟨z0,z1,z2,z3,z4,z5⟩ := lx.out y HY.out
      have w0 : wc.cell? ⟨p,0,none⟩ = some (.slice (some ⟨g,0,none⟩) v.n v.cap) := by
       rw [HW.out]
       simp [go_sem,z0]
      have w2 : wc.cell? ⟨g,k * 3 + 2,none⟩ = some (.int .i64 r.kept) := by
       rw [HW.out]
       simp [go_sem,z2]
      have w3 : wc.frozen? ⟨g,k * 3 + 2,none⟩ = false := by
       rw [HW.out]
       simp [go_sem,z3]
      have HG : Hid (Dr.OpE P w p (cutD d s (m : Int)) (.returned (.int .i64 0)) (wc.setCell ⟨g,k * 3 + 2,none⟩ (.int .i64 (kq : Int)))) := Lib.hid (by
       rw [HW.out]
       exact HF.out y xa xn xc HY.out HO.out)
      clear HW HY HO z0 z1 z2 z3 z4 z5 lx lb1 lb2 HLd HF hsl q0 q1 q2 d0 d1 d2 f1
      go_wp2
      go_region
      all_goals
       go_wp2
       go_ret
       exact HG.out.drew
    ·
     have HO := Lib.hid (HE1.out W h0 a u)
     clear a u h0
     go_wp2
     go_ret
     exact HO.out
 ·
  have HE : Hid (Dr.OpE P w p (cutD d s n) (.returned (.int .i64 18)) w) := Lib.hid (by
   have e : cutD d s n = (18,d) := by
    unfold cutD
    rw [if_pos ho]
   rw [e]
   exact ⟨rfl,⟨v,rs,h.mono fun b z => .inl z⟩,UpdQ.refl _ _⟩)
  rw [ho] at c2
  clear h ho
  go_enter Try.func23,Try.ntmps23
  go_wp2_with (go_at_call 44; refine CA.out.mono ?_; rintro e u ⟨rfl,hu⟩; rw [hu]; clear hu u CA)
  go_ret
  exact HE.out
end
end Go.Proofs.Ytegniklofhopeaa
