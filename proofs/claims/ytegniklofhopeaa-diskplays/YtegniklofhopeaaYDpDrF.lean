/- THE DOCUMENT's OWN DISK: Sync, Append. (By gendrf.py.) -/
import Derived.Test.YtegniklofhopeaaYDpDrE
import Derived.Deep.RegionLaw
set_option maxRecDepth 100000
set_option linter.unusedVariables false
namespace Go.Proofs.Ytegniklofhopeaa
open Go.RowKit
open Mem Dk
section
variable {P : Nat → Prop} {w : World} {p : Nat} {d : D} {v : Sl} {rs : List Rq.T}
theorem Dr.OpE.drew {P : Nat → Prop} {w w' : World} {p : Nat} {x : Int × D} {e : Ending} (h : Dr.OpE P w p x e w') : Dr.OpE P w p x e w'.drew := ⟨h.1,h.2.1.below (Below.refl _ _).drew,h.2.2.belowT (Below.refl _ _).drew⟩
theorem Dr.upd_new {P : Nat → Prop} {w u v : World} (h : UpdQ P w u) (k : UpdQ (nw P w) u v) : UpdQ P w v :=
 ⟨Nat.le_trans h.size k.size,fun b hb hq => (k.block b (Nat.lt_of_lt_of_le hb h.size) fun z => z.elim hq fun z => by omega).trans (h.block b hb hq),fun w0 a c => k.below w0 (h.below w0 a c) fun b z => z.elim (c b) fun z => Nat.le_trans a.size z⟩
theorem Dk.sync_ok {d : D} (h : Ok d) {s : ByteArray} (hh : has s d.fs = true) : Ok ⟨put ⟨s,(Dk.own s d.fs).bs,(Dk.own s d.fs).bs.length⟩ d.fs,d.off,d.left⟩ := by
 have ht := total_put (f := ⟨s,(Dk.own s d.fs).bs,(Dk.own s d.fs).bs.length⟩) h.sorted
 have hr := h.room
 simp only at ht
 refine put_ok h (Nat.le_refl _) ?_ (by omega)
 have := h.names _ (own_mem h.sorted hh)
 rw [own_name h.sorted] at this
 exact this
theorem Dk.app_ok {d : D} (h : Ok d) {s : ByteArray} (hn : s.size ≤ 24) {zs : List UInt8} (hr : total d.fs + zs.length ≤ 4194304) : Ok ⟨put ⟨s,(Dk.own s d.fs).bs ++ zs,(Dk.own s d.fs).kept⟩ d.fs,d.off,d.left⟩ := by
 have ht := total_put (f := ⟨s,(Dk.own s d.fs).bs ++ zs,(Dk.own s d.fs).kept⟩) h.sorted
 simp only [List.length_append] at ht
 refine put_ok h ?_ hn (by omega)
 have : (Dk.own s d.fs).kept ≤ (Dk.own s d.fs).bs.length := by
  cases hh : has s d.fs
  ·
   rw [own_no hh]
   exact Nat.le_refl _
  · exact h.kept _ (own_mem h.sorted hh)
 simp only [List.length_append]
 omega
set_option maxHeartbeats 4000000 in
theorem dr_sync (h : Dr.At P w p d v rs) (s : ByteArray) : Calls Try.prog 21 #[.pointer (some ⟨p,0,none⟩),.string s] w (Dr.OpE P w p (syncD d s)) := by
 have CA := Lib.hid (dr_at h s)
 have CP := Lib.hid (dr_power h)
 obtain ⟨c0,c1,c2⟩ := h.box.cells
 cases ho : d.off
 ·
  cases hh : has s d.fs
  ·
   have HE : Hid (Dr.OpE P w p (syncD d s) (.returned (.int .i64 11)) w) := Lib.hid (by
    have e : syncD d s = (11,d) := by
     unfold syncD
     rw [if_neg (by rw [ho]; exact Bool.false_ne_true),if_pos hh]
    rw [e]
    exact ⟨rfl,⟨v,rs,h.mono fun b z => .inl z⟩,UpdQ.refl _ _⟩)
   rw [Dr.atI_no hh] at CA
   rw [ho] at c2
   clear h ho hh
   go_enter Try.func21,Try.ntmps21
   go_wp2_with (go_at_call 44; refine CA.out.mono ?_; rintro e u ⟨rfl,hu⟩; rw [hu]; clear hu u CA)
   go_ret
   exact HE.out
  ·
   rw [Dr.atI_yes hh] at CA
   have HE1 : Hid (∀ w',d.left = 0 → Dr.At P w' p (down d) v rs → UpdQ (fun b => b = p) w w' → Dr.OpE P w p (syncD d s) (.returned (.int .i64 18)) w') := Lib.hid fun w' h0 a u => by
    have e : syncD d s = (18,down d) := by
     unfold syncD
     rw [if_neg (by rw [ho]; exact Bool.false_ne_true),if_neg (by rw [hh]; intro z; cases z),if_pos h0]
    rw [e]
    exact ⟨rfl,⟨v,rs,a.mono fun b z => .inl z⟩,u.mono fun b z => z ▸ h.pp⟩
   have HE2 : Hid (d.left ≠ 0 → syncD d s = (0,with' d (put ⟨s,(Dk.own s d.fs).bs,(Dk.own s d.fs).bs.length⟩ d.fs))) := Lib.hid fun h0 => by
    unfold syncD
    rw [if_neg (by rw [ho]; exact Bool.false_ne_true),if_neg (by rw [hh]; intro z; cases z),if_neg h0]
   have HOk := Lib.hid (sync_ok h.ok hh)
   have HPp := Lib.hid h.pp
   rw [ho] at c2
   clear h ho
   go_enter Try.func21,Try.ntmps21
   go_wp2_with (go_at_call 44; refine CA.out.mono ?_; rintro e u ⟨rfl,hu⟩; rw [hu]; clear hu u CA)
   refine CP.out.mono ?_
   rintro e W ⟨hE,u⟩
   rcases hE with ⟨h0,rfl,a⟩ | ⟨h0,rfl,a⟩
   ·
    have HEq := Lib.hid (HE2.out h0)
    obtain ⟨g,r,hg,hkn,⟨q0,q1,q2⟩,hf,hkp,hL,hln,hOwn,hbl,hgl,hgp⟩ := a.cells (show has s (spent d).fs = true from hh)
    change Dk.spot s d.fs < v.n at hkn
    change W.cell? ⟨g,Dk.spot s d.fs * 3,none⟩ = _ at q0
    change W.cell? ⟨g,Dk.spot s d.fs * 3 + 1,none⟩ = _ at q1
    change W.cell? ⟨g,Dk.spot s d.fs * 3 + 2,none⟩ = _ at q2
    change r.kept = ((Dk.own s d.fs).kept : Int) at hkp
    change By.Ls W r.bytes.ao r.bytes.n r.bytes.cap (Dk.own s d.fs).bs at hL
    change r.bytes.n = (Dk.own s d.fs).bs.length at hln
    obtain ⟨d0,d1,d2⟩ := a.box.cells
    rw [hg] at d0
    have hvn := a.n
    obtain ⟨m2,m3⟩ := And.intro hvn.2.1 hvn.2.2.1
    have HF : Hid (Dr.OpE P w p (syncD d s) (.returned (.int .i64 0)) (W.setCell ⟨g,Dk.spot s d.fs * 3 + 2,none⟩ (.int .i64 (r.bytes.n : Nat)))) := Lib.hid (by
     obtain ⟨a1,u1⟩ := a.keepAll (s := s) hh hg (ok_dec HOk.out)
     rw [HEq.out,hln]
     exact ⟨rfl,a1.mono fun b z => z.elim .inl fun z => .inr (Nat.le_trans u.size z),(u.mono fun b z => z ▸ HPp.out).trans u1⟩)
    have f2 := hf (Dk.spot s d.fs * 3 + 2)
    have hbr := hL.reach
    have hbf := hL.fits
    clear a u hkp hL hln hOwn hbl hf hvn HEq h0 hh c0 c1 c2 HE1 HE2 CP HOk
    generalize Dk.spot s d.fs = k at *
    go_wp2
    go_region
    all_goals
     go_wp2
     go_ret
     exact HF.out.drew
   ·
    have HO := Lib.hid (HE1.out W h0 a u)
    clear a u h0
    go_wp2
    go_ret
    exact HO.out
 ·
  have HE : Hid (Dr.OpE P w p (syncD d s) (.returned (.int .i64 18)) w) := Lib.hid (by
   have e : syncD d s = (18,d) := by
    unfold syncD
    rw [if_pos ho]
   rw [e]
   exact ⟨rfl,⟨v,rs,h.mono fun b z => .inl z⟩,UpdQ.refl _ _⟩)
  rw [ho] at c2
  clear h ho
  go_enter Try.func21,Try.ntmps21
  go_wp2_with (go_at_call 44; refine CA.out.mono ?_; rintro e u ⟨rfl,hu⟩; rw [hu]; clear hu u CA)
  go_ret
  exact HE.out
set_option maxHeartbeats 8000000 in
theorem Dr.app_fin {D0 : D} {W : World} {vv : Sl} {rr : List Rq.T} {Q : Nat → Prop} (a : Dr.At Q W p D0 vv rr) {s : ByteArray} (hh : has s D0.fs = true) {ao : Option Addr} {n cap : Nat} {zs : List UInt8} (hL : By.Ls W ao n cap zs) (hr : total D0.fs + zs.length ≤ 4194304) (hn : s.size ≤ 24) :
  ∃ (g nn cc : Nat) (r : Rq.T) (fb : List UInt8),vv.ao = some ⟨g,0,none⟩ ∧ vv.n = nn ∧ vv.cap = cc ∧ nn ≤ cc ∧ cc ≤ 9223372036854775807 ∧ Dk.spot s D0.fs < nn ∧ By.Ls W r.bytes.ao r.bytes.n r.bytes.cap fb ∧ fb.length + zs.length ≤ 4194304 ∧ (∀ u,Below W.heap.size W u → u.cell? ⟨p,0,none⟩ = some (.slice (some ⟨g,0,none⟩) nn cc) ∧ u.cell? ⟨g,Dk.spot s D0.fs * 3 + 1,none⟩ = some (.slice r.bytes.ao r.bytes.n r.bytes.cap) ∧ u.frozen? ⟨g,Dk.spot s D0.fs * 3 + 1,none⟩ = false ∧ p < u.heap.size ∧ g < u.heap.size ∧ g ≠ p) ∧
   ∀ (y : World) (xa : Option Addr) (xn xc : Nat),Below W.heap.size W y → By.Own y W.heap.size (.slice xa xn xc) ([] ++ fb ++ zs) → Dr.Dsk (nw Q W) (y.setCell ⟨g,Dk.spot s D0.fs * 3 + 1,none⟩ (.slice xa xn xc)) p ⟨put ⟨s,(Dk.own s D0.fs).bs ++ zs,(Dk.own s D0.fs).kept⟩ D0.fs,D0.off,D0.left⟩ ∧ UpdQ Q W (y.setCell ⟨g,Dk.spot s D0.fs * 3 + 1,none⟩ (.slice xa xn xc)) := by
 obtain ⟨g,r,hg,hkn,⟨q0,q1,q2⟩,hf,hkp,hLd,hln,hOwn,hbl,hgl,hgp⟩ := a.cells hh
 obtain ⟨d0,d1,d2⟩ := a.box.cells
 rw [hg] at d0
 have hvn := a.n
 have hroom := own_room a.ok s
 have hpl := a.box.lt
 refine ⟨g,vv.n,vv.cap,r,(Dk.own s D0.fs).bs,hg,rfl,rfl,hvn.2.1,hvn.2.2.1,hkn,hLd,by omega,fun u b => ⟨((bcell b).1 _ _ hpl).trans d0,((bcell b).1 _ _ hgl).trans q1,((bcell b).2 _ _ hgl).trans (hf _),Nat.lt_of_lt_of_le hpl b.size,Nat.lt_of_lt_of_le hgl b.size,hgp⟩,fun y xa xn xc b o => ?_⟩
 exact a.data hh hg b (x := ⟨xa,xn,xc⟩) (by rw [List.nil_append] at o; exact o) (app_ok a.ok hn hr)
theorem Dr.put_again {d : D} (h : Ok d) {s : ByteArray} (hh : has s d.fs = false) {zs : List UInt8} : put ⟨s,(Dk.own s (ins ⟨s,[],0⟩ d.fs)).bs ++ zs,(Dk.own s (ins ⟨s,[],0⟩ d.fs)).kept⟩ (ins ⟨s,[],0⟩ d.fs) = put ⟨s,(Dk.own s d.fs).bs ++ zs,(Dk.own s d.fs).kept⟩ d.fs := by
 have e : put ⟨s,[],0⟩ d.fs = ins ⟨s,[],0⟩ d.fs := if_neg (by rw [show has _ d.fs = false from hh]; exact Bool.false_ne_true)
 obtain ⟨s1,s2,s3⟩ := put_spot (f := ⟨s,[],0⟩) h.sorted
 have hp := put_put (f := ⟨s,[],0⟩) (g := ⟨s,(Dk.own s (put ⟨s,[],0⟩ d.fs)).bs ++ zs,(Dk.own s (put ⟨s,[],0⟩ d.fs)).kept⟩) h.sorted rfl
 have e3 : Dk.own s (put ⟨s,[],0⟩ d.fs) = ⟨s,[],0⟩ := s3
 rw [← e,hp,e3,own_no hh]
theorem Dr.ins_told {d : D} (h : Ok d) {s : ByteArray} (hh : has s d.fs = false) : Dk.spot s (ins ⟨s,[],0⟩ d.fs) = Dk.spot s d.fs ∧ has s (ins ⟨s,[],0⟩ d.fs) = true ∧ total (ins ⟨s,[],0⟩ d.fs) = total d.fs := by
 have e : put ⟨s,[],0⟩ d.fs = ins ⟨s,[],0⟩ d.fs := if_neg (by rw [show has _ d.fs = false from hh]; exact Bool.false_ne_true)
 obtain ⟨s1,s2,s3⟩ := put_spot (f := ⟨s,[],0⟩) h.sorted
 rw [e] at s1 s2
 refine ⟨s1,s2,?_⟩
 rw [total_ins]
 rfl
end
end Go.Proofs.Ytegniklofhopeaa
