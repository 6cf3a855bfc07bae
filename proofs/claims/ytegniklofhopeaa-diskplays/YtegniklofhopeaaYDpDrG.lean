/- THE DOCUMENT's OWN DISK: Append. (By gendrf.py.) -/
import Derived.Test.YtegniklofhopeaaYDpDrF
import Derived.Test.YtegniklofhopeaaYDpDrD
import Derived.Deep.RegionLaw
set_option maxRecDepth 100000
set_option linter.unusedVariables false
namespace Go.Proofs.Ytegniklofhopeaa
open Go.RowKit
open Mem Dk
section
variable {P : Nat → Prop} {w : World} {p : Nat} {d : D} {v : Sl} {rs : List Rq.T}
set_option maxHeartbeats 8000000 in
theorem dr_append (h : Dr.At P w p d v rs) (s : ByteArray) (hs : s.size ≤ 9223372036854775807) (ao : Option Addr) (n cap : Nat) (zs : List UInt8) (hL : By.Ls w ao n cap zs) (hap : zs ≠ [] → ∀ ad,ao = some ad → ¬ P ad.block) (hm : n ≤ 140737488351232) (few : d.fs.length < 1000) :
  Calls Try.prog 20 #[.pointer (some ⟨p,0,none⟩),.string s,.slice ao n cap] w (Dr.OpE P w p (appD d s zs)) := by
 have CN := Lib.hid (dr_name s w hs)
 have CT := Lib.hid (dr_total h)
 have CP := Lib.hid (dr_power h)
 obtain ⟨c0,c1,c2⟩ := h.box.cells
 have hroom := h.ok.room
 have hlen := hL.len
 have hcf := hL.fits
 have hcr := hL.reach
 cases ho : d.off
 ·
  cases hn : nameOk s
  ·
   have HE : Hid (Dr.OpE P w p (appD d s zs) (.returned (.int .i64 19)) w) := Lib.hid (by
    have e : appD d s zs = (19,d) := by
     unfold appD
     rw [if_neg (by rw [ho]; exact Bool.false_ne_true),if_pos hn]
    rw [e]
    exact ⟨rfl,⟨v,rs,h.mono fun b z => .inl z⟩,UpdQ.refl _ _⟩)
   rw [hn] at CN
   rw [ho] at c2
   clear h ho hn hL
   go_enter Try.func20,Try.ntmps20
   go_wp2_with (go_at_call 42; refine CN.out.mono ?_; rintro e u ⟨rfl,hu⟩; rw [hu]; clear hu u CN)
   go_ret
   exact HE.out
  ·
   rw [hn] at CN
   have hs24 : s.size ≤ 24 := by
    by_cases q : s.size < 1 ∨ 24 < s.size
    ·
     rw [name_no q] at hn
     cases hn
    · omega
   obtain ⟨tt,htt⟩ : ∃ tt,total d.fs = tt := ⟨_,rfl⟩
   rw [htt] at CT hroom
   by_cases hbig : 4194304 < tt + n
   ·
    have HE : Hid (Dr.OpE P w p (appD d s zs) (.returned (.int .i64 14)) w) := Lib.hid (by
     have e : appD d s zs = (14,d) := by
      unfold appD
      rw [if_neg (by rw [ho]; exact Bool.false_ne_true),if_neg (by rw [hn]; intro z; cases z),if_pos (by rw [htt,← hlen]; exact hbig)]
     rw [e]
     exact ⟨rfl,⟨v,rs,h.mono fun b z => .inl z⟩,UpdQ.refl _ _⟩)
    have hb' : (4194304 : Int) < (tt : Int) + (n : Int) := by omega
    rw [ho] at c2
    clear h ho hn hL htt hlen
    go_enter Try.func20,Try.ntmps20
    go_wp2_with (first | (go_at_call 42; refine CN.out.mono ?_; rintro e u ⟨rfl,hu⟩; rw [hu]; clear hu u CN) | (go_at_call 31; refine CT.out.mono ?_; rintro e u ⟨rfl,hu⟩; rw [hu]; clear hu u CT))
    go_ret
    exact HE.out
   ·
    have hb' : ¬ (4194304 : Int) < (tt : Int) + (n : Int) := by omega
    have HNb : Hid (¬ 4194304 < total d.fs + zs.length) := Lib.hid (by rw [htt,← hlen]; exact hbig)
    have HE1 : Hid (∀ w',d.left = 0 → Dr.At P w' p (down d) v rs → UpdQ (fun b => b = p) w w' → Dr.OpE P w p (appD d s zs) (.returned (.int .i64 18)) w') := Lib.hid fun w' h0 a u => by
     have e : appD d s zs = (18,down d) := by
      unfold appD
      rw [if_neg (by rw [ho]; exact Bool.false_ne_true),if_neg (by rw [hn]; intro z; cases z),if_neg HNb.out,if_pos h0]
     rw [e]
     exact ⟨rfl,⟨v,rs,a.mono fun b z => .inl z⟩,u.mono fun b z => z ▸ h.pp⟩
    have HE2 : Hid (d.left ≠ 0 → appD d s zs = (0,with' d (put ⟨s,(Dk.own s d.fs).bs ++ zs,(Dk.own s d.fs).kept⟩ d.fs))) := Lib.hid fun h0 => by
     unfold appD
     rw [if_neg (by rw [ho]; exact Bool.false_ne_true),if_neg (by rw [hn]; intro z; cases z),if_neg HNb.out,if_neg h0]
    have HPp := Lib.hid h.pp
    have HL := Lib.hid hL
    have HAp := Lib.hid hap
    have HOk := Lib.hid h.ok
    rw [ho] at c2
    have hzz : zs.length ≤ 4194304 := by omega
    clear h ho hn htt hlen hL hap hbig
    go_enter Try.func20,Try.ntmps20
    go_wp2_with (first | (go_at_call 42; refine CN.out.mono ?_; rintro e u ⟨rfl,hu⟩; rw [hu]; clear hu u CN) | (go_at_call 31; refine CT.out.mono ?_; rintro e u ⟨rfl,hu⟩; rw [hu]; clear hu u CT))
    refine CP.out.mono ?_
    rintro e W ⟨hE,u⟩
    rcases hE with ⟨h0,rfl,a⟩ | ⟨h0,rfl,a⟩
    ·
     have HEq := Lib.hid (HE2.out h0)
     have HU := Lib.hid (u.mono (R := P) fun b z => z ▸ HPp.out)
     have HLW := Lib.hid (HL.out.keep HU.out fun hne ad e => HAp.out hne ad e)
     have CA := Lib.hid (dr_at a s)
     cases hh : has s d.fs
     ·
      rw [show Dr.atI s (spent d).fs = -1 from Dr.atI_no hh] at CA
      have CM := Lib.hid (dr_make a s hs24 hh few)
      have HT := Lib.hid (Dr.ins_told HOk.out hh)
      have HPu := Lib.hid (Dr.put_again HOk.out hh (zs := zs))
      clear a u hh h0 CP HE1 HE2 c0 c1 c2
      go_wp2_with (go_at_call 44; refine CA.out.mono ?_; rintro e u ⟨rfl,hu⟩; rw [hu]; clear hu u CA)
      refine CM.out.mono ?_
      rintro e W4 ⟨rfl,⟨v4,rs4,a4,_⟩,u4'⟩
      have u4 : UpdQ P W W4 := u4'.mono fun b z => z ▸ HPp.out
      clear u4'
      have HU4 := Lib.hid u4
      have hL4 := HLW.out.keep u4 HAp.out
      obtain ⟨g,nn,cc,r,fb,k1,k2,k3,k4,k5,k6,k7,k8,k9,ka⟩ := Dr.app_fin (D0 := ⟨ins ⟨s,[],0⟩ d.fs,(spent d).off,(spent d).left⟩) a4 HT.out.2.1 hL4 (by have e1 : total (ins ⟨s,[],0⟩ d.fs) = total d.fs := HT.out.2.2; have e2 := HNb.out; show total (ins ⟨s,[],0⟩ d.fs) + zs.length ≤ 4194304; omega) hs24
      have HF : Hid (∀ (y : World) (xa : Option Addr) (xn xc : Nat),Below W4.heap.size W4 y → By.Own y W4.heap.size (.slice xa xn xc) ([] ++ fb ++ zs) → Dr.OpE P w p (appD d s zs) (.returned (.int .i64 0)) (y.setCell ⟨g,Dk.spot s d.fs * 3 + 1,none⟩ (.slice xa xn xc))) := Lib.hid fun y xa xn xc b o => by
       obtain ⟨a5,u5⟩ := ka y xa xn xc b o
       have e5 : Dk.spot s (ins ⟨s,[],0⟩ d.fs) = Dk.spot s d.fs := HT.out.1
       have e6 := HPu.out
       simp only at a5 u5
       rw [e5] at a5 u5
       rw [e6] at a5
       rw [HEq.out]
       have hsz := HU.out.size
       have hsz4 := HU4.out.size
       refine ⟨rfl,a5.mono fun b z => ?_,Dr.upd_new (HU.out.trans HU4.out) (u5.mono fun b z => z.elim .inl fun z => .inr (Nat.le_trans hsz z))⟩
       rcases z with (z | z) | z
       · exact .inl z
       · exact .inr (by omega)
       · exact .inr (by omega)
      have hsp : Dk.spot s (ins ⟨s,[],0⟩ d.fs) = Dk.spot s d.fs := HT.out.1
      simp only at k6 k9
      rw [hsp] at k6 k9
      rw [show (spent d).fs = d.fs from rfl]
      generalize Dk.spot s d.fs = k at *
      have lx := Lib.hid k9
      have lb1 : Hid (∀ o,Below W4.heap.size W4 (W4.alloc o).drew) := Lib.hid fun o => ((Below.refl _ _).alloc (Nat.le_refl _) _).drew
      have lb2 : Hid (∀ o o',Below W4.heap.size W4 ((W4.alloc o).alloc o').drew) := Lib.hid fun o o' => (below_box ((Below.refl _ _).alloc (Nat.le_refl _) _) _).drew
      have HLd := Lib.hid k7
      have HLp := Lib.hid hL4
      obtain ⟨t00,t01,t02,t03,t04,t05⟩ := k9 W4 (Below.refl _ _)
      obtain ⟨t06,t07,t08,_⟩ := k9 _ ((Below.refl W4.heap.size W4).drew)
      have hfl : fb.length ≤ 4194304 := by omega
      have hrn : r.bytes.n ≤ 4194304 := by
       have := k7.len
       omega
      have hrf := k7.fits
      have hrr := k7.reach
      clear a4 u4 hL4 ka k9 k7
      go_wp2_with fail
      go_region_law (first | (refine By.step_append y1 W4 b1 (by rfl) (.tmp 50) (.tmp 51) (by rfl) v1 ([] ++ fb) (by rfl) o1 ao n cap zs (by rfl) HLp.out.len HLp.out.nil (HLp.out.seg.below b1) (by simp; omega) ?_; intro v3 y3 o3 gr3 b3; have s3 := lx.out _ b3; (obtain ⟨t30,t31,t32,t33,t34,t35⟩ := s3); (obtain ⟨xa,xn,xc,rfl⟩ := Dr.by_slice o3)) | (refine By.step_append (W4.alloc (.cells #[] 5)).drew W4 (by first | exact lb1.out _ | exact lb2.out _ _) (by rfl) (.tmp 41) (.tmp 49) (by rfl) (.slice (some ⟨W4.heap.size,0,none⟩) 0 0) [] (by rfl) (By.own_empty (Nat.le_refl _) (heap_alloc_new W4 _)) r.bytes.ao r.bytes.n r.bytes.cap fb (by rfl) HLd.out.len HLd.out.nil (HLd.out.seg.below (by first | exact lb1.out _ | exact lb2.out _ _)) (by simp; omega) ?_; intro v1 y1 o1 gr1 b1; have s1 := lx.out _ b1; (obtain ⟨t10,t11,t12,t13,t14,t15⟩ := s1)) | fail)
      all_goals
       go_wp2
       go_ret
       exact HF.out _ _ _ _ b3 o3
     ·
      rw [show Dr.atI s (spent d).fs = (Dk.spot s d.fs : Int) from Dr.atI_yes hh] at CA
      obtain ⟨g,nn,cc,r,fb,k1,k2,k3,k4,k5,k6,k7,k8,k9,ka⟩ := Dr.app_fin a (show has s (spent d).fs = true from hh) HLW.out (by have e2 := HNb.out; show total d.fs + zs.length ≤ 4194304; omega) hs24
      have HF : Hid (∀ (y : World) (xa : Option Addr) (xn xc : Nat),Below W.heap.size W y → By.Own y W.heap.size (.slice xa xn xc) ([] ++ fb ++ zs) → Dr.OpE P w p (appD d s zs) (.returned (.int .i64 0)) (y.setCell ⟨g,Dk.spot s d.fs * 3 + 1,none⟩ (.slice xa xn xc))) := Lib.hid fun y xa xn xc b o => by
       obtain ⟨a5,u5⟩ := ka y xa xn xc b o
       rw [HEq.out]
       exact ⟨rfl,a5.mono fun b z => z.elim .inl fun z => .inr (Nat.le_trans HU.out.size z),HU.out.trans u5⟩
      change Dk.spot s d.fs < nn at k6
      rw [show (spent d).fs = d.fs from rfl] at k9
      generalize Dk.spot s d.fs = k at *
      have lx := Lib.hid k9
      have lb1 : Hid (∀ o,Below W.heap.size W (W.alloc o).drew) := Lib.hid fun o => ((Below.refl _ _).alloc (Nat.le_refl _) _).drew
      have lb2 : Hid (∀ o o',Below W.heap.size W ((W.alloc o).alloc o').drew) := Lib.hid fun o o' => (below_box ((Below.refl _ _).alloc (Nat.le_refl _) _) _).drew
      have HLd := Lib.hid k7
      have HLp := Lib.hid HLW.out
      obtain ⟨t00,t01,t02,t03,t04,t05⟩ := k9 W (Below.refl _ _)
      obtain ⟨t06,t07,t08,_⟩ := k9 _ ((Below.refl W.heap.size W).drew)
      have hfl : fb.length ≤ 4194304 := by omega
      have hrn : r.bytes.n ≤ 4194304 := by
       have := k7.len
       omega
      have hrf := k7.fits
      have hrr := k7.reach
      clear a u hh h0 CP HE1 HE2 c0 c1 c2 ka k9 k7
      go_wp2_with (go_at_call 44; refine CA.out.mono ?_; rintro e u ⟨rfl,hu⟩; rw [hu]; clear hu u CA)
      go_region_law (first | (refine By.step_append y1 W b1 (by rfl) (.tmp 50) (.tmp 51) (by rfl) v1 ([] ++ fb) (by rfl) o1 ao n cap zs (by rfl) HLp.out.len HLp.out.nil (HLp.out.seg.below b1) (by simp; omega) ?_; intro v3 y3 o3 gr3 b3; have s3 := lx.out _ b3; (obtain ⟨t30,t31,t32,t33,t34,t35⟩ := s3); (obtain ⟨xa,xn,xc,rfl⟩ := Dr.by_slice o3)) | (refine By.step_append (W.alloc (.cells #[] 5)).drew W (by first | exact lb1.out _ | exact lb2.out _ _) (by rfl) (.tmp 41) (.tmp 49) (by rfl) (.slice (some ⟨W.heap.size,0,none⟩) 0 0) [] (by rfl) (By.own_empty (Nat.le_refl _) (heap_alloc_new W _)) r.bytes.ao r.bytes.n r.bytes.cap fb (by rfl) HLd.out.len HLd.out.nil (HLd.out.seg.below (by first | exact lb1.out _ | exact lb2.out _ _)) (by simp; omega) ?_; intro v1 y1 o1 gr1 b1; have s1 := lx.out _ b1; (obtain ⟨t10,t11,t12,t13,t14,t15⟩ := s1)) | fail)
      all_goals
       go_wp2
       go_ret
       exact HF.out _ _ _ _ b3 o3
    ·
     have HO := Lib.hid (HE1.out W h0 a u)
     clear a u h0
     go_wp2
     go_ret
     exact HO.out
 ·
  have HE : Hid (Dr.OpE P w p (appD d s zs) (.returned (.int .i64 18)) w) := Lib.hid (by
   have e : appD d s zs = (18,d) := by
    unfold appD
    rw [if_pos ho]
   rw [e]
   exact ⟨rfl,⟨v,rs,h.mono fun b z => .inl z⟩,UpdQ.refl _ _⟩)
  rw [ho] at c2
  clear h ho hL
  go_enter Try.func20,Try.ntmps20
  go_wp2
  go_ret
  exact HE.out
end
end Go.Proofs.Ytegniklofhopeaa
