/- A SAVE THAT IS BROKEN OFF, AND OPENS THAT ARE: what a law of wal holds. -/
import Derived.Test.YtlmjeackfepllaaGreatDoorZWk11
import Derived.Test.YtlmjeackfepllaaGreatDoorYWkWlBt
set_option maxRecDepth 100000
set_option linter.unusedVariables false
namespace Go.Proofs.YtlmjeackfepllaaGreatDoor.Wl
open Go.RowKit
open Mem Dk
section
variable {R T : Nat → Prop} {w0 w u v : World} {g p n n' i b : Nat} {m : Int} {s s' : Sg} {d : D} {r : Hd.T} {l : List Et.T} {h : H} {e0 : Int}
theorem fit_few {k : Nat} (hm : (k : Int) ≤ 4) : Fit (k : Int) := ⟨by omega,by omega⟩
theorem Both.arm (h : Both R w0 w g p n false s d) (m : Int) (hm : Fit m) : Calls Tryz.prog 22 #[.pointer (some ⟨p,0,none⟩),.int .i64 m] w fun e w' => e = .returned (.tuple #[]) ∧ Both R w0 w' g p n false s (armD d m) ∧ UpdQ R w w' := by
 obtain ⟨P,Q,hp⟩ := h
 refine (s_arm hp.dsk m hm).mono ?_
 rintro e w' ⟨rfl,hs,hu⟩
 exact ⟨rfl,⟨P,Q,hp.wal.keep hu fun b z z2 => hp.ap b z z2,hs,hp.sub,hp.ap,fun b z => Nat.lt_of_lt_of_le (hp.pl b z) hu.size,fun b z => Nat.lt_of_lt_of_le (hp.ql b z) hu.size,hp.pr,hp.qr⟩,hu.mono hp.qr⟩
theorem tg_ge (h : Below w0.heap.size w0 w) (hs : ∀ b,R b → w0.heap.size ≤ b) : ∀ b,tg R w u b → w0.heap.size ≤ b := fun b z => z.1.elim (hs b) fun z => Nat.le_trans h.size z
structure Dm (R : Nat → Prop) (w0 w : World) (p n : Nat) (s : Sg) (h : H) (e0 : Int) (d : D) : Prop where
 dsk : S R w0 w p d
 lt : ∀ b,R b → b < w.heap.size
 cut : ∀ zs,∃ n' s',Cut n s h e0 (crashD d zs).fs n' s'
theorem Dm.later (h1 : Dm R w0 w p n s h e0 d) (k : Below w.heap.size w u) : Dm R w0 u p n s h e0 d := ⟨h1.dsk.later k,fun b z => Nat.lt_of_lt_of_le (h1.lt b z) k.size,h1.cut⟩
theorem armed_rest (h : Rest n s d) (m : Int) : Rest n s (armD d m) := ⟨h.one,h.wf,h.rdy,h.lt,h.off,h.len⟩
theorem cut_save (hb : Both R w0 w g p n false s (armD d m)) (hr : Rest n s d) (hs : ∀ b,R b → w0.heap.size ≤ b) (hn : n + 1 < 100) (hl : Hl R w r l) (hg : right (Hd.h r l) = true) :
  Calls Tryz.prog 11 #[.pointer (some ⟨g,0,none⟩),Hd.val r] w fun e w' => ∃ (e0 : Int) (d' : D),e = .returned (.int .i64 e0) ∧ Dm (tg R w w') w0 w' p n s (Hd.h r l) e0 d' ∧ UpdQ R w w' := by
 have hz : r.snap.size ≤ 140737488355328 := by
  unfold right snapOk at hg
  simp only [Bool.and_eq_true,decide_eq_true_eq] at hg
  have := hg.2.1.2
  have e : (Hd.h r l).snap.size = r.snap.size := rfl
  omega
 have hf : (armD d m).fs.length < 1000 := by
  have := hr.few
  show d.fs.length < 1000
  omega
 refine (wl_save hb hn hf r l hl.ls hz).mono ?_
 rintro x w' ⟨rfl,hb2,hu⟩
 have hge : ∀ b,tg R w w' b → w0.heap.size ≤ b := tg_ge hb.bel hs
 exact ⟨_,_,rfl,⟨hb2.tight.dsk hge,fun b z => z.2,fun zs => save_cut (armed_rest hr m) hn hg zs⟩,hu⟩
theorem Dm.crash (h1 : Dm R w0 w p n s h e0 d) {ao : Option Addr} {m cap : Nat} {zs : List Int} (hI : Ints w0 ao m cap zs) :
  Calls Tryz.prog 24 #[.pointer (some ⟨p,0,none⟩),.slice ao m cap] w fun e w' => e = .returned (.tuple #[]) ∧ ∃ n' s' d',Dn (tg R w w') w0 w' p n' s' d' ∧ Cut n s h e0 d'.fs n' s' ∧ UpdQ R w w' := by
 refine (s_crash_old h1.dsk hI).mono ?_
 rintro e w' ⟨rfl,hs,hu⟩
 obtain ⟨n',s',hc⟩ := h1.cut zs
 exact ⟨rfl,n',s',crashD d zs,⟨S.wide hs (fun b z => ⟨.inl z,Nat.lt_of_lt_of_le (h1.lt b z) hu.size⟩) (tg_ge h1.dsk.bel h1.dsk.sub),fun b z => z.2,hc.tells,hc.neat,hc.wf,rfl,rfl,hc.len⟩,hc,hu⟩
theorem Dn.arm (h1 : Dn R w0 w p n' s' d) (hc : Cut n s h e0 d.fs n' s') (m : Int) (hm : Fit m) :
  Calls Tryz.prog 22 #[.pointer (some ⟨p,0,none⟩),.int .i64 m] w fun e w' => e = .returned (.tuple #[]) ∧ ∃ d',S R w0 w' p d' ∧ (∀ b,R b → b < w'.heap.size) ∧ Cut n s h e0 d'.fs n' s' ∧ UpdQ R w w' := by
 refine (s_arm h1.dsk m hm).mono ?_
 rintro e w' ⟨rfl,hs,hu⟩
 exact ⟨rfl,armD d m,hs,fun b z => Nat.lt_of_lt_of_le (h1.lt b z) hu.size,hc,hu⟩
theorem cut_open (hs : S R w0 w p d) (hlt : ∀ b,R b → b < w.heap.size) (hc : Cut n s h e0 d.fs n' s') :
  Calls Tryz.prog 10 #[.pointer (some ⟨p,0,none⟩)] w fun e w' => (∃ (po : Option Addr) (x : Int),e = .returned (.tuple #[.pointer po,.int .i64 x])) ∧ ∃ d',Dm (tg R w w') w0 w' p n s h e0 d' ∧ UpdQ R w w' := by
 obtain ⟨x,d',e,h1,h2,h3,h4,h5,h6⟩ := open_tells hc.tells hc.neat
 have hm : ∀ zs,∃ n' s',Cut n s h e0 (crashD d' zs).fs n' s' := fun zs => ⟨n',s',by
  rw [crash_neat h1 zs]
  exact ⟨h1,h2,hc.wf,hc.part,hc.ok,hc.le,fun m => Nat.le_trans (h5 m) (hc.len m),Nat.le_trans h3 hc.few⟩⟩
 refine (wl_open hs hc.neat.nm).mono ?_
 rintro y w' hO
 rw [e] at hO
 have hge : ∀ b,tg R w w' b → w0.heap.size ≤ b := tg_ge hs.bel hs.sub
 rcases hO with ⟨_,g,rfl,hb,hu⟩ | ⟨_,rfl,hs2,hu⟩
 · exact ⟨⟨_,_,rfl⟩,d',⟨hb.tight.dsk hge,fun b z => z.2,hm⟩,hu⟩
 · exact ⟨⟨_,_,rfl⟩,d',⟨hs2.tight,fun b z => z.2,hm⟩,hu⟩
theorem Kn.new (hw : Ws R w0 w g p n s d) (h : Kn R w0 w b r l) {e : Ending} (hE : NxE w r l e u) :
  ∃ r' l',e = .returned (Hd.val r') ∧ Below w.heap.size w u ∧ Ws R w0 (Hd.box u r') g p n s d ∧ Kn R w0 (Hd.box u r') b r l ∧ Kn R w0 (Hd.box u r') u.heap.size r' l' := by
 obtain ⟨r',l',rfl,hb,ho⟩ := hE
 have hw1 := hw.later hb
 have h1 := h.later hb
 have hx := Hd.below_own u r'
 have hlt : ∀ b,R b → b < u.heap.size := hw1.lt
 have hv : Hv R (Hd.box u r') u.heap.size r' := Hv.new u r' hlt
 have hge : w0.heap.size ≤ u.heap.size := hw1.bo.bel.size
 refine ⟨r',l',rfl,hb,hw1.later hx,h1.later hx,?_⟩
 rcases ho with ⟨rfl,rfl⟩ | ⟨ho,hs,hr,hm⟩
 ·
  exact ⟨hv,h1.hl.later hx,fun ad e z => by
   have h2 := (h1.hl.out ad e).1
   omega,hge,h.right,h.l40,h.z9⟩
 ·
  obtain ⟨z1,z2⟩ := small_le hm
  obtain ⟨hl,hge2⟩ := hl_fresh ho hs
  exact ⟨hv,⟨hl.below hx,fun ad e => ⟨Nat.lt_of_lt_of_le (hge2 ad e).2 hx.size,fun z => by
   have h1 := hw.lt _ z
   have h2 := (hge2 ad e).1
   omega⟩⟩,fun ad e z => by
   have h2 := (hge2 ad e).2
   omega,hge,right_of hr,z1,z2⟩
theorem told_between (hw : Ws R w0 w g p n' s' d) (hp : Part s.h h s'.h) {a x : Hd.T} {la lx : List Et.T} (ha : s.h = (Hd.h a la).bare) (hx : h = Hd.h x lx) (v : Sl) (hl : Hl R u (row s'.h v) s'.h.log) (hla : Et.Ls u a.log.ao a.log.n a.log.cap la) (hlx : Et.Ls u x.log.ao x.log.n x.log.cap lx) (hwf : Wf s') :
  Calls Tryz.prog 34 #[Hd.val (row s'.h v),Hd.val (noSnap a),Hd.val (noSnap x)] u fun e w' => e = .returned (.bool true) ∧ Below u.heap.size u w' := by
 refine lw_between (row s'.h v) (noSnap a) (noSnap x) s'.h.log la lx u hl.ls hla hlx hwf.snap ?_
 rw [h_row,noSnap_h,noSnap_h]
 subst hx
 rcases hp with e | e | ⟨m,hm,e⟩
 · exact .inl (e.trans ha)
 · exact .inr (.inl (by rw [e,ha]; rfl))
 · exact .inr (.inr ⟨m,hm,e⟩)
end
end Go.Proofs.YtlmjeackfepllaaGreatDoor.Wl
