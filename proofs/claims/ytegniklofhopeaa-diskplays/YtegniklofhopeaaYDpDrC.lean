/- THE DOCUMENT's OWN DISK: Remove. -/
import Derived.Test.YtegniklofhopeaaYDpDrB
import Derived.Deep.RegionLaw
set_option maxRecDepth 100000
set_option linter.unusedVariables false
namespace Go.Proofs.Ytegniklofhopeaa
open Go.RowKit
open Mem Dk
section
variable {P : Nat → Prop} {w : World} {p : Nat} {d : D} {v : Sl} {rs : List Rq.T}
theorem Dk.ok_dec {d : D} {fs : List F} (h : Ok ⟨fs,d.off,d.left⟩) : Ok ⟨fs,(spent d).off,(spent d).left⟩ := ⟨h.sorted,h.kept,h.room,h.names,dec_ok h.left⟩
set_option maxHeartbeats 8000000 in
theorem dr_remove (h : Dr.At P w p d v rs) (s : ByteArray) : Calls Try.prog 25 #[.pointer (some ⟨p,0,none⟩),.string s] w (Dr.OpE P w p (remD d s)) := by
 have CA := Lib.hid (dr_at h s)
 have CP := Lib.hid (dr_power h)
 obtain ⟨c0,c1,c2⟩ := h.box.cells
 cases ho : d.off
 ·
  cases hh : has s d.fs
  ·
   have HE : Hid (Dr.OpE P w p (remD d s) (.returned (.int .i64 11)) w) := Lib.hid (by
    have e : remD d s = (11,d) := by
     unfold remD
     rw [if_neg (by rw [ho]; exact Bool.false_ne_true),if_pos hh]
    rw [e]
    exact ⟨rfl,⟨v,rs,h.mono fun b z => .inl z⟩,UpdQ.refl _ _⟩)
   rw [Dr.atI_no hh] at CA
   rw [ho] at c2
   clear h ho hh
   go_enter Try.func25,Try.ntmps25
   go_wp2_with (go_at_call 44; refine CA.out.mono ?_; rintro e u ⟨rfl,hu⟩; rw [hu]; clear hu u CA)
   go_ret
   exact HE.out
  ·
   rw [Dr.atI_yes hh] at CA
   have HE1 : Hid (∀ w',d.left = 0 → Dr.At P w' p (down d) v rs → UpdQ (fun b => b = p) w w' → Dr.OpE P w p (remD d s) (.returned (.int .i64 18)) w') := Lib.hid fun w' h0 a u => by
    have e : remD d s = (18,down d) := by
     unfold remD
     rw [if_neg (by rw [ho]; exact Bool.false_ne_true),if_neg (by rw [hh]; intro z; cases z),if_pos h0]
    rw [e]
    exact ⟨rfl,⟨v,rs,a.mono fun b z => .inl z⟩,u.mono fun b z => z ▸ h.pp⟩
   have HE2 : Hid (d.left ≠ 0 → remD d s = (0,with' d (del s d.fs))) := Lib.hid fun h0 => by
    unfold remD
    rw [if_neg (by rw [ho]; exact Bool.false_ne_true),if_neg (by rw [hh]; intro z; cases z),if_neg h0]
   have HD := Lib.hid (del_ok h.ok (s := s))
   have HDl : Hid ((del s d.fs).length ≤ 1000) := Lib.hid (by have := del_len h.ok.sorted hh; have := h.few; omega)
   have HSp := Lib.hid (spot_lt h.ok.sorted hh)
   have HPp := Lib.hid h.pp
   rw [ho] at c2
   have HN := Lib.hid h.n
   clear h ho hh
   go_enter Try.func25,Try.ntmps25
   go_wp2_with (go_at_call 44; refine CA.out.mono ?_; rintro e u ⟨rfl,hu⟩; rw [hu]; clear hu u CA)
   refine CP.out.mono ?_
   rintro e W ⟨hE,u⟩
   rcases hE with ⟨h0,rfl,a⟩ | ⟨h0,rfl,a⟩
   ·
    have HU := Lib.hid u
    have HEq := Lib.hid (HE2.out h0)
    have HA := Lib.hid a
    obtain ⟨k,hk⟩ : ∃ k,Dk.spot s d.fs = k := ⟨_,rfl⟩
    have HF : Hid (∀ (y : World) (v3 : Value),Below W.heap.size W y → Rq.Own y W.heap.size v3 ([] ++ rs.take k ++ rs.drop (k + 1)) → Dr.OpE P w p (remD d s) (.returned (.int .i64 0)) (y.setCell ⟨p,0,none⟩ v3)) := Lib.hid fun y v3 b o => by
     rw [← hk] at o
     obtain ⟨v',_,a1,u1,_⟩ := a.relay b o (Dr.all_del (d := spent d) a) Dr.mem_del (Dk.ok_dec HD.out) HDl.out
     rw [HEq.out]
     refine ⟨rfl,⟨_,_,a1.mono fun b z => z.elim .inl fun z => .inr (Nat.le_trans u.size z)⟩,(u.mono fun b z => z ▸ HPp.out).trans (u1.mono fun b z => z ▸ HPp.out)⟩
    have hkn := HSp.out
    rw [hk] at hkn ⊢
    obtain ⟨d0,d1,d2⟩ := a.box.cells
    have hlt := a.box.lt
    have f0 := a.box.frozen 0
    have hl := a.ls
    obtain ⟨m1,m2,m3,m4⟩ := a.n
    have hfew := a.few
    obtain ⟨ao,n,cap⟩ := v
    simp only at d0 m1 m2 m3 m4 hl
    have HL := Lib.hid hl
    clear hl
    have hsp : (spent d).fs.length = d.fs.length := rfl
    rw [hsp] at m1 hfew
    have hkn' : k + 1 ≤ n := by
     rw [m1]
     exact hkn
    have hn1000 : n ≤ 1000 := by omega
    clear hsp
    obtain ⟨hs1,hR1⟩ := HL.out.to k (show k ≤ n by omega)
    obtain ⟨k1,hk1⟩ : ∃ k1,k + 1 = k1 := ⟨_,rfl⟩
    have hwr : IntKind.i64.wrap ((k : Int) + 1) = (k1 : Int) := by rw [IntKind.wrap_i64]; omega
    rw [hk1] at hkn' HF
    obtain ⟨ao2,cap2,hs2,hR2⟩ := HL.out.from k1 hkn'
    obtain ⟨j,hj⟩ : ∃ j,n - k1 = j := ⟨_,rfl⟩
    rw [hj] at hs2 hR2
    have HR1 := Lib.hid hR1
    have HR2 := Lib.hid hR2
    have hjb : j ≤ 1000 := by omega
    have hkb : k ≤ 1000 := by omega
    have lx : Hid (∀ u,Below W.heap.size W u → Below W.heap.size W u ∧ u.cell? ⟨p,0,none⟩ = some (.slice ao n cap) ∧ u.frozen? ⟨p,0,none⟩ = false ∧ p < u.heap.size) := Lib.hid fun u b => ⟨b,((bcell b).1 _ _ hlt).trans d0,((bcell b).2 _ _ hlt).trans f0,Nat.lt_of_lt_of_le hlt b.size⟩
    have lb1 : Hid (∀ o,Below W.heap.size W (W.alloc o).drew) := Lib.hid fun o => ((Below.refl _ _).alloc (Nat.le_refl _) _).drew
    have lb2 : Hid (∀ o o',Below W.heap.size W ((W.alloc o).alloc o').drew) := Lib.hid fun o o' => (below_box ((Below.refl _ _).alloc (Nat.le_refl _) _) _).drew
    clear hR1 hR2 hj hk hk1 u a m1 m4 hfew hkn h0 c0 c1 c2
    go_wp2
    go_region_law (first | (refine Rq.step_append y1 W b1 (by rfl) (.tmp 29) (.tmp 36) (by rfl) v1 ([] ++ rs.take k) (by rfl) o1 ao2 j cap2 (rs.drop k1) (by rfl) HR2.out.len HR2.out.nil (HR2.out.seg.below b1) (by simp; omega) ?_; intro v3 y3 o3 gr3 b3; have s3 := lx.out _ b3; (obtain ⟨_,t30,t31,t32⟩ := s3); (obtain ⟨xa,xn,xc,rfl⟩ := Dr.own_slice o3)) | (refine Rq.step_append (W.alloc (.cells #[] 69)).drew W (by first | exact lb1.out _ | exact lb2.out _ _) (by rfl) (.tmp 22) (.tmp 28) (by rfl) (.slice (some ⟨W.heap.size,0,none⟩) 0 0) [] (by rfl) (Rq.own_empty (Nat.le_refl _) (heap_alloc_new W _)) ao k cap (rs.take k) (by rfl) HR1.out.len HR1.out.nil (HR1.out.seg.below (by first | exact lb1.out _ | exact lb2.out _ _)) (by simp; omega) ?_; intro v1 y1 o1 gr1 b1; have s1 := lx.out _ b1; (obtain ⟨_,t10,t11,t12⟩ := s1)) | fail)
    all_goals
     go_wp2
     go_ret
     exact HF.out _ _ b3 o3
   ·
    have HO := Lib.hid (HE1.out W h0 a u)
    clear a u h0
    go_wp2
    go_ret
    exact HO.out
 ·
  have HE : Hid (Dr.OpE P w p (remD d s) (.returned (.int .i64 18)) w) := Lib.hid (by
   have e : remD d s = (18,d) := by
    unfold remD
    rw [if_pos ho]
   rw [e]
   exact ⟨rfl,⟨v,rs,h.mono fun b z => .inl z⟩,UpdQ.refl _ _⟩)
  rw [ho] at c2
  clear h ho
  go_enter Try.func25,Try.ntmps25
  go_wp2_with (go_at_call 44; refine CA.out.mono ?_; rintro e u ⟨rfl,hu⟩; rw [hu]; clear hu u CA)
  go_ret
  exact HE.out
end
end Go.Proofs.Ytegniklofhopeaa
