import Derived.Deep.RegionWith
import Derived.Test.YtlmjeackfepllaaGreatDoorZWk9
import Derived.Test.YtlmjeackfepllaaGreatDoorZWk10
import Derived.Test.YtlmjeackfepllaaGreatDoorZWk11
set_option maxRecDepth 100000
set_option linter.unusedVariables false
namespace Go.Proofs.YtlmjeackfepllaaGreatDoor.Wl
open Go.RowKit
open Mem Dk
structure Dn (R : Nat → Prop) (w0 w : World) (p n : Nat) (s : Sg) (d : D) : Prop where
 dsk : S R w0 w p d
 lt : ∀ b,R b → b < w.heap.size
 tells : Tells d.fs n s
 neat : Neat d.fs
 wf : Wf s
 off : d.off = false
 left : d.left = -1
 lens : ∀ m,(flOf d.fs m).length ≤ 500000
section
variable {R T : Nat → Prop} {w0 w u v : World} {g p n i b : Nat} {s : Sg} {d : D} {r : Hd.T} {l : List Et.T}
theorem Ws.dn (h : Ws R w0 w g p n s d) : Dn R w0 w p n s d := ⟨h.bo.dsk h.sub,h.lt,h.rest.tells,h.rest.neat,h.rest.wf,h.rest.off,h.left,h.rest.lens⟩
theorem Dn.later (h : Dn R w0 w p n s d) (k : Below w.heap.size w u) : Dn R w0 u p n s d := ⟨h.dsk.later k,fun b z => Nat.lt_of_lt_of_le (h.lt b z) k.size,h.tells,h.neat,h.wf,h.off,h.left,h.lens⟩
theorem Dn.reopen (h : Dn R w0 w p n s d) : Calls Tryz.prog 10 #[.pointer (some ⟨p,0,none⟩)] w fun e w' => ∃ g d',e = .returned (.tuple #[.pointer (some ⟨g,0,none⟩),.int .i64 0]) ∧ Ws (tg R w w') w0 w' g p n s d' ∧ UpdQ R w w' :=
 k_open h.dsk h.tells h.neat h.wf h.off h.left h.lens
theorem Dn.crash (h : Dn R w0 w p n s d) {ao : Option Addr} {m cap : Nat} {zs : List Int} (hI : Ints w0 ao m cap zs) :
  Calls Tryz.prog 24 #[.pointer (some ⟨p,0,none⟩),.slice ao m cap] w fun e w' => e = .returned (.tuple #[]) ∧ ∃ d',Dn (tg R w w') w0 w' p n s d' ∧ UpdQ R w w' := by
 refine (s_crash_old h.dsk hI).mono ?_
 rintro e w' ⟨rfl,hs,hu⟩
 have e : (crashD d zs).fs = d.fs := crash_neat h.neat zs
 have hb : ∀ b,tg R w w' b → w0.heap.size ≤ b := fun b z => z.1.elim (h.dsk.sub b) fun z => Nat.le_trans h.dsk.bel.size z
 exact ⟨rfl,crashD d zs,⟨S.wide hs (fun b z => ⟨.inl z,Nat.lt_of_lt_of_le (h.lt b z) hu.size⟩) hb,fun b z => z.2,by rw [e]; exact h.tells,by rw [e]; exact h.neat,h.wf,rfl,rfl,by rw [e]; exact h.lens⟩,hu⟩
structure Kn (R : Nat → Prop) (w0 w : World) (b : Nat) (r : Hd.T) (l : List Et.T) : Prop where
 hv : Hv R w b r
 hl : Hl R w r l
 nb : ∀ ad,r.log.ao = some ad → ad.block ≠ b
 ge : w0.heap.size ≤ b
 right : right (Hd.h r l) = true
 l40 : l.length ≤ 40
 z9 : r.snap.size ≤ 9000
theorem Kn.upd (h : Kn R w0 w b r l) (k : UpdQ R w u) : Kn (tg R w u) w0 u b r l := ⟨h.hv.upd k,h.hl.upd k,h.nb,h.ge,h.right,h.l40,h.z9⟩
theorem Kn.later (h : Kn R w0 w b r l) (k : Below w.heap.size w u) : Kn R w0 u b r l := ⟨h.hv.later k,h.hl.later k,h.nb,h.ge,h.right,h.l40,h.z9⟩
theorem smallL_le : ∀ (l : List Et.T) (n : Int),smallL n l = true → n ≤ 9000
 | [],n,h => by
  unfold smallL at h
  exact of_decide_eq_true h
 | e :: l,n,h => by
  unfold smallL at h
  by_cases c : n + (e.data.size : Int) > 9000
  ·
   rw [if_pos c] at h
   cases h
  · omega
theorem small_le {h : H} (k : small h = true) : h.log.length ≤ 40 ∧ h.snap.size ≤ 9000 := by
 unfold small at k
 by_cases c : (h.log.length : Int) > 40
 ·
  rw [if_pos c] at k
  cases k
 ·
  rw [if_neg c] at k
  have := smallL_le _ _ k
  omega
theorem hl_fresh {B : Nat} {x : Sl} (ho : Et.Own u B (sv x) l) (hs : ∀ e ∈ l,Et.Short e) : Et.Ls u x.ao x.n x.cap l ∧ ∀ ad,x.ao = some ad → B ≤ ad.block ∧ ad.block < u.heap.size := by
 obtain ⟨vo,vn,vc⟩ := x
 obtain ⟨ao,cap,e2,hl,-⟩ := Et.own_ls ho hs
 have e3 : (Value.slice vo vn vc) = .slice ao l.length cap := e2
 injection e3 with i1 i2 i3
 subst i1 i2 i3
 refine ⟨hl,fun ad e4 => ?_⟩
 have e5 : vo = some ad := e4
 have hob : (sv ⟨vo,l.length,vc⟩).ownBlock = some ad.block := by rw [e5]; rfl
 exact ⟨Et.own_ge ho _ hob,(World.ownsRow.lt ho _ hob).2⟩
theorem Kn.next (hw : Ws R w0 w g p n s d) (h : Kn R w0 w b r l) {e : Ending} (hE : NxE w r l e u) :
  ∃ r' l',e = .returned (Hd.val r') ∧ Below w.heap.size w u ∧ Hd.Block u b [r] ∧ ∀ v,(v = lay u b 0 r' ∨ v = (lay u b 0 r').drew) → Ws R w0 v g p n s d ∧ Kn R w0 v b r' l' := by
 obtain ⟨r',l',rfl,hb,ho⟩ := hE
 have hw1 := hw.later hb
 have h1 := h.later hb
 have hu := lay_upd u b 0 r'
 have hw2 := hw1.off hu fun x z => by rw [z]; exact ⟨h.ge,h.hv.out⟩
 have hblk : Hd.Block (lay u b 0 r') b [r'] := hd_lay h1.hv.blk r'
 refine ⟨r',l',rfl,hb,h1.hv.blk,?_⟩
 have hk : Kn R w0 (lay u b 0 r') b r' l' := by
  rcases ho with ⟨rfl,rfl⟩ | ⟨ho,hs,hr,hm⟩
  · exact ⟨⟨hblk,h.hv.out⟩,⟨ls_keep h1.hl.ls hu fun ad e z => h.nb ad e z,fun ad e => ⟨Nat.lt_of_lt_of_le (h1.hl.out ad e).1 hu.size,(h1.hl.out ad e).2⟩⟩,h.nb,h.ge,h.right,h.l40,h.z9⟩
  ·
   obtain ⟨z1,z2⟩ := small_le hm
   obtain ⟨hl,hge⟩ := hl_fresh ho hs
   have hbl := h.hv.lt
   have k1 : Et.Ls (lay u b 0 r') r'.log.ao r'.log.n r'.log.cap l' := ls_keep hl hu fun ad e z => by
    have h1 := (hge ad e).1
    have h2 : ad.block = b := z
    omega
   have k2 : Hl R (lay u b 0 r') r' l' := ⟨k1,fun ad e => ⟨Nat.lt_of_lt_of_le (hge ad e).2 hu.size,fun z => by
    have h1 := hw.lt _ z
    have h2 := (hge ad e).1
    omega⟩⟩
   have k3 : ∀ ad,r'.log.ao = some ad → ad.block ≠ b := fun ad e z => by
    have h1 := (hge ad e).1
    omega
   exact ⟨⟨hblk,h.hv.out⟩,k2,k3,h.ge,right_of hr,z1,z2⟩
 rintro v (rfl | rfl)
 · exact ⟨hw2,hk⟩
 · exact ⟨hw2.later (Below.refl _ _).drew,hk.later (Below.refl _ _).drew⟩
def Ki (w0 w : World) (g p b i : Nat) : Prop := ∃ (R : Nat → Prop) (n : Nat) (s : Sg) (d : D) (r : Hd.T) (l : List Et.T),Ws R w0 w g p n s d ∧ Kn R w0 w b r l ∧ s.h = (Hd.h r l).bare ∧ n ≤ i + 1
theorem Ki.more (h : Ki w0 w g p b i) : Ki w0 w g p b (i + 1) := by
 obtain ⟨R,n,s,d,r,l,h1,h2,h3,h4⟩ := h
 exact ⟨R,n,s,d,r,l,h1,h2,h3,by omega⟩
theorem Ki.bel (h : Ki w0 w g p b i) : Below w0.heap.size w0 w := by
 obtain ⟨R,n,s,d,r,l,h1,-⟩ := h
 exact h1.bo.bel
end
end Go.Proofs.YtlmjeackfepllaaGreatDoor.Wl
namespace Go.Proofs.YtlmjeackfepllaaGreatDoor.Wl
open Go.RowKit
open Mem Dk
def w1n : ByteArray := ⟨#[119,97,108,46,49]⟩
def w2n : ByteArray := ⟨#[119,97,108,46,50]⟩
theorem w1n_eq : wname 1 = w1n := by
 unfold wname
 rw [dec_form (by omega)]
 rfl
theorem w2n_eq : wname 2 = w2n := by
 unfold wname
 rw [dec_form (by omega)]
 rfl
def rr1 : Hd.T := ⟨1,0,0,0,7,⟨#[]⟩,⟨none,0,0⟩⟩
def rr2 (b : Nat) : Hd.T := ⟨1,0,0,0,7,⟨#[]⟩,⟨some ⟨b,0,none⟩,1,1⟩⟩
def rr3 : Hd.T := ⟨1,0,1,1,7,⟨#[115]⟩,⟨none,0,0⟩⟩
def rr4 : Hd.T := ⟨0,9,0,0,7,⟨#[]⟩,⟨none,0,0⟩⟩
def ll2 : List Et.T := [⟨1,0,⟨#[120]⟩⟩]
theorem rr1_ok : right (Hd.h rr1 []) = true := by decide
theorem rr2_ok (b : Nat) : right (Hd.h (rr2 b) ll2) = true := by
 show right ⟨1,0,0,0,7,⟨#[]⟩,ll2⟩ = true
 decide
theorem rr3_ok : right (Hd.h rr3 []) = true := by decide
theorem rr4_no : right (Hd.h rr4 []) = false := by decide
theorem rr1_small : (frames (pays (whole (Hd.h rr1 [])))).length ≤ 8192 := by
 obtain ⟨a,b,c⟩ := right_ok rr1_ok
 have h1 := (fine_whole b a).2
 have h2 := frames_size _ fun p hp => (h1 p hp).2
 have h3 := whole_len (Hd.h rr1 [])
 have h4 : (Hd.h rr1 []).log.length = 0 := rfl
 omega
theorem ll2_new (w : World) : Et.Ls (w.alloc (.cells #[.int .i64 1,.int .i64 0,.string ⟨#[120]⟩] 36)) (some ⟨w.heap.size,0,none⟩) 1 1 ll2 := by
 refine ⟨rfl,Nat.le_refl _,by omega,fun z => (by cases z),.inr ⟨w.heap.size,0,rfl,fun k hk => ?_⟩,fun r hr => ?_⟩
 ·
  have : k = 0 := by
   have : k < 1 := hk
   omega
  subst this
  exact ⟨by simp [go_sem,ll2],by simp [go_sem,ll2],by simp [go_sem,ll2]⟩
 ·
  rw [List.mem_singleton.1 hr]
  exact ⟨⟨by decide,by decide⟩,⟨by decide,by decide⟩,by decide⟩
theorem bare_self {h : H} (k : h.snap = .empty) : h.bare = h := by
 obtain ⟨a,b,c,d,e,f,g⟩ := h
 dsimp only at k
 subst k
 rfl
theorem k_refuse {R : Nat → Prop} {w0 w : World} {g p n : Nat} {s : Sg} {d : D} {r : Hd.T} {l : List Et.T} (h : Ws R w0 w g p n s d) (hn : n + 1 < 100) (hl : Et.Ls w r.log.ao r.log.n r.log.cap l) (hz : r.snap.size ≤ 140737488355328) (hg : right (Hd.h r l) = false) :
  Calls Tryz.prog 11 #[.pointer (some ⟨g,0,none⟩),Hd.val r] w fun e w' => e = .returned (.int .i64 1) ∧ UpdQ R w w' := by
 refine (wl_save h.bo hn h.few r l hl hz).mono ?_
 rintro x w' ⟨rfl,hb,hu⟩
 refine ⟨?_,hu⟩
 unfold saveS
 rw [if_pos hg]
theorem below_upd {R : Nat → Prop} {w0 w u : World} (h : Below w0.heap.size w0 w) (k : UpdQ R w u) (hs : ∀ b,R b → w0.heap.size ≤ b) : Below w0.heap.size w0 u := k.below w0 h hs
set_option maxHeartbeats 8000000 in
theorem walRuns_any (w : World) : Calls Tryz.prog 3 #[] w fun e w' => e = .returned (.bool true) ∧ Below w.heap.size w w' := by
 go_enter Tryz.func3,Tryz.ntmps3
 go_wp2_with (go_at_call 9; refine (s_new w).mono ?_; rintro e W0 ⟨p,rfl,h0⟩; have C0 := Lib.hid (k_new h0.tight); clear h0)
 refine C0.out.mono ?_
 rintro e W1 ⟨g,rfl,h1,-⟩
 obtain ⟨R1,h1⟩ : ∃ R,Wn R w W1 g p := ⟨_,h1⟩
 have H1 := Lib.hid h1
 have HG1 : Hid (w.heap.size ≤ W1.heap.size) := Lib.hid h1.bo.bel.size
 clear C0
 go_wp2_with fail
 obtain ⟨W2,hW2,hb2,hc2⟩ := Hd.boxed1 W1 rr1
 have hv2 : Hv R1 W2 W1.heap.size rr1 := hW2 ▸ Hv.new W1 rr1 h1.lt
 unfold rr1 at hW2
 dsimp only at hW2
 rw [hW2]
 have h2 := h1.later hb2
 have C2 := Lib.hid (k_first h2 (Hl.nil W2 rfl) rr1_ok)
 have HV2 := Lib.hid hv2
 clear h1 h2 hb2 hc2 hv2 H1 hW2
 refine C2.out.mono ?_
 rintro e W3 ⟨rfl,d3,h3,f3,q3⟩
 obtain ⟨R3,h3,v3⟩ : ∃ R,Ws R w W3 g p 1 ⟨(Hd.h rr1 []).bare,true,true⟩ d3 ∧ Hv R W3 W1.heap.size rr1 := ⟨_,h3,HV2.out.upd q3⟩
 have hn3 : anewB ⟨(Hd.h rr1 []).bare,true,true⟩ d3 1 (Hd.h (rr2 0) ll2) = false := by
  have h8 := rr1_small
  have e8 : flen d3 1 = (frames (pays (whole (Hd.h rr1 [])))).length := congrArg List.length f3
  unfold anewB
  rw [decide_eq_false (show ¬ 8192 < flen d3 1 by omega)]
  decide
 have HN3 := Lib.hid hn3
 have C3 := Lib.hid (k_names h3)
 rw [w1n_eq] at C3
 unfold w1n at C3
 have HV3 := Lib.hid v3
 clear h3 v3 q3 f3 hn3 C2 HV2
 go_wp2_with fail
 refine C3.out.mono ?_
 rintro e W4 ⟨ao4,cap4,rfl,h4,b4,c4⟩
 have C4 := Lib.hid c4
 have H4 := Lib.hid h4
 have HV4 := Lib.hid (HV3.out.later b4)
 clear c4 h4 b4 C3
 go_wp2_with fail
 refine C4.out.mono ?_
 rintro e W5 ⟨rfl,b5⟩
 have H5 := Lib.hid (H4.out.later b5)
 have v5 := HV4.out.later b5
 have HV5 := Lib.hid v5
 clear b5 C4 H4 HV4
 obtain ⟨W6,hW6⟩ : ∃ W6,W5.alloc (.cells #[.int .i64 1,.int .i64 0,.string ⟨#[120]⟩] 36) = W6 := ⟨_,rfl⟩
 have hb6 : Below W5.heap.size W5 W6 := hW6 ▸ (Below.refl _ _).alloc (Nat.le_refl _) _
 have hl6 : Et.Ls W6 (some ⟨W5.heap.size,0,none⟩) 1 1 ll2 := hW6 ▸ ll2_new W5
 have v6 := v5.later hb6
 obtain ⟨W7,hW7⟩ : ∃ W7,W6.setCell ⟨W1.heap.size,6,none⟩ (.slice (some ⟨W5.heap.size,0,none⟩) 1 1) = W7 := ⟨_,rfl⟩
 have hu7 : UpdQ (fun b => b = W1.heap.size) W6 W7 := hW7 ▸ upd_set W6 W1.heap.size 6 _
 have v7 : Hv R3 W7 W1.heap.size (rr2 W5.heap.size) := ⟨hW7 ▸ Hd.Block.log v6.blk ⟨some ⟨W5.heap.size,0,none⟩,1,1⟩,v6.out⟩
 obtain ⟨a0,a1,a2,a3,a4,a5,a6⟩ := v6.blk.cells
 unfold rr1 at a0 a1 a2 a3 a4 a5 a6
 dsimp only at a0 a1 a2 a3 a4 a5 a6
 have fz := v6.frozen
 have HT7 := Lib.hid (And.intro hb6 (And.intro hl6 (And.intro hu7 v7)))
 have hlt7 := v6.lt
 obtain ⟨d0,d1,d2,d3',d4,d5,d6⟩ := v7.blk.cells
 unfold rr2 at d0 d1 d2 d3' d4 d5 d6
 dsimp only at d0 d1 d2 d3' d4 d5 d6
 have hnb : ¬ R3 W5.heap.size := fun z => Nat.lt_irrefl _ (H5.out.lt _ z)
 have h7 : Ws R3 w W7 g p 1 ⟨(Hd.h rr1 []).bare,true,true⟩ d3 := (H5.out.later hb6).off hu7 fun b z => by rw [z]; exact ⟨HG1.out,v6.out⟩
 have l7 : Hl R3 W7 (rr2 W5.heap.size) ll2 := ⟨ls_keep hl6 hu7 fun ad e z => by
  cases e
  have := v5.lt
  have z' : W5.heap.size = W1.heap.size := z
  omega,fun ad e => by
  cases e
  exact ⟨(by have := hu7.size; have : W6.heap.size = W5.heap.size + 1 := (by rw [← hW6]; simp); show W5.heap.size < W7.heap.size; omega),hnb⟩⟩
 have C7 := Lib.hid (k_save h7 (by omega) l7 (rr2_ok _))
 have HL7 := Lib.hid l7
 have HV7 := Lib.hid v7
 unfold Hd.val rr2 at C7
 dsimp only at C7
 clear hb6 hl6 hu7 v7 v6 v5 h7 l7 hnb
 go_wp2_with fail
 refine C7.out.mono ?_
 rintro e W8 ⟨rfl,n8,s8,d8,h8,e8,-,-,n8',-,q8⟩
 obtain rfl : n8 = 1 := n8' HN3.out
 obtain ⟨R8,h8,v8,l8⟩ : ∃ R,Ws R w W8 g p 1 s8 d8 ∧ Hv R W8 W1.heap.size (rr2 W5.heap.size) ∧ Hl R W8 (rr2 W5.heap.size) ll2 := ⟨_,h8,HV7.out.upd q8,HL7.out.upd q8⟩
 have C8 := Lib.hid h8.reopen
 have HV8 := Lib.hid (And.intro v8 l8)
 have HE8 := Lib.hid e8
 clear h8 v8 l8 q8 e8 C7 HV7 HL7 n8' HN3 hW6 hW7 a0 a1 a2 a3 a4 a5 a6 d0 d1 d2 d3' d4 d5 d6 fz hlt7 HT7 H5 HV5
 go_wp2_with fail
 refine C8.out.mono ?_
 rintro e W9 ⟨g9,d9,rfl,h9,q9⟩
 obtain ⟨R9,h9,v9,l9⟩ : ∃ R,Ws R w W9 g9 p 1 s8 d9 ∧ Hv R W9 W1.heap.size (rr2 W5.heap.size) ∧ Hl R W9 (rr2 W5.heap.size) ll2 := ⟨_,h9,HV8.out.1.upd q9,HV8.out.2.upd q9⟩
 have H9 := Lib.hid (And.intro h9 (And.intro v9 l9))
 have CH : Hid (∀ u,Below W9.heap.size W9 u → Calls Tryz.prog 15 #[.pointer (some ⟨g9,0,none⟩)] u fun e w' => ∃ v,e = .returned (Hd.val (row s8.h v)) ∧ Hl R9 w' (row s8.h v) s8.h.log ∧ Below W9.heap.size W9 w') := Lib.hid fun u k => (k_hard (h9.later k)).mono fun e w' z => by
  obtain ⟨v,z1,z2,z3⟩ := z
  exact ⟨v,z1,z2,bchain k z3⟩
 have CS : Hid (∀ u v,Below W9.heap.size W9 u → Hl R9 u (row s8.h v) s8.h.log → Calls Tryz.prog 14 #[Hd.val (row s8.h v),Hd.val (rr2 W5.heap.size)] u fun e w' => e = .returned (.bool true) ∧ Below W9.heap.size W9 w') := Lib.hid fun u v k hl => (rf_same (row s8.h v) (rr2 W5.heap.size) s8.h.log ll2 u hl.ls (l9.later k).ls).mono fun e w' z => by
  obtain ⟨z1,z2⟩ := z
  have e9 : sameA (Hd.h (row s8.h v) s8.h.log) (Hd.h (rr2 W5.heap.size) ll2) = true := sameA_iff.2 (by rw [h_row,HE8.out]; exact bare_self rfl)
  rw [e9] at z1
  exact ⟨z1,bchain k z2⟩
 obtain ⟨d0,d1,d2,d3',d4,d5,d6⟩ := v9.blk.cells
 unfold rr2 at d0 d1 d2 d3' d4 d5 d6
 unfold Hd.val rr2 at CS
 dsimp only at d0 d1 d2 d3' d4 d5 d6 CS
 have lz : ∀ y,Below W9.heap.size W9 y → y.cell? ⟨W1.heap.size,0,none⟩ = some (.int .i64 1) ∧ y.cell? ⟨W1.heap.size,1,none⟩ = some (.int .i64 0) ∧ y.cell? ⟨W1.heap.size,2,none⟩ = some (.int .i64 0) ∧ y.cell? ⟨W1.heap.size,3,none⟩ = some (.int .i64 0) ∧ y.cell? ⟨W1.heap.size,4,none⟩ = some (.int .i64 7) ∧ y.cell? ⟨W1.heap.size,5,none⟩ = some (.string ⟨#[]⟩) ∧ y.cell? ⟨W1.heap.size,6,none⟩ = some (.slice (some ⟨W5.heap.size,0,none⟩) 1 1) := fun y k => ⟨((bcell k).1 _ _ (cell_lt d0)).trans d0,((bcell k).1 _ _ (cell_lt d1)).trans d1,((bcell k).1 _ _ (cell_lt d2)).trans d2,((bcell k).1 _ _ (cell_lt d3')).trans d3',((bcell k).1 _ _ (cell_lt d4)).trans d4,((bcell k).1 _ _ (cell_lt d5)).trans d5,((bcell k).1 _ _ (cell_lt d6)).trans d6⟩
 clear C8 HV8 h9 v9 l9 q9
 go_wp2_with fail
 go_region_held3 (fun y => y.cell? ⟨W1.heap.size,0,none⟩ = some (.int .i64 1) ∧ y.cell? ⟨W1.heap.size,1,none⟩ = some (.int .i64 0) ∧ y.cell? ⟨W1.heap.size,2,none⟩ = some (.int .i64 0) ∧ y.cell? ⟨W1.heap.size,3,none⟩ = some (.int .i64 0) ∧ y.cell? ⟨W1.heap.size,4,none⟩ = some (.int .i64 7) ∧ y.cell? ⟨W1.heap.size,5,none⟩ = some (.string ⟨#[]⟩) ∧ y.cell? ⟨W1.heap.size,6,none⟩ = some (.slice (some ⟨W5.heap.size,0,none⟩) 1 1)) (first | with_reducible assumption | (apply lz; repeat (first | with_reducible assumption | with_reducible apply Below.drew | with_reducible exact Below.refl _ _)) | fail) (first | (go_at_call 15; refine (CH.out _ (by first | exact Below.refl _ _ | exact (Below.refl _ _).drew)).mono ?_; rintro e u1 ⟨⟨vo,vn,vc⟩,rfl,l1,b1⟩; have t1 := lz _ b1; have CS1 := Lib.hid (CS.out u1 ⟨vo,vn,vc⟩ b1 l1); clear l1 CH) | (go_at_call 14; refine CS1.out.mono ?_; rintro e u2 ⟨rfl,b2⟩; have t2 := lz _ b2; have HB2 := Lib.hid b2; clear CS1) | fail)
 all_goals
  have hH := H9.out.1.later HB2.out
  have hanew : anewB s8 d9 1 (Hd.h rr3 []) = true := by
   unfold anewB basedB
   rw [HE8.out]
   simp [Hd.h,rr3,H.bare]
  have hsame : sameH s8.h (Hd.h rr3 []) = false := by
   unfold sameH basedB
   rw [HE8.out]
   simp [Hd.h,rr3,H.bare]
  have C3b := Lib.hid (k_save hH (by omega) (Hl.nil u2 rfl) rr3_ok)
  have HX3 := Lib.hid (And.intro hanew hsame)
  unfold Hd.val rr3 at C3b
  dsimp only at C3b
  clear hH hanew hsame CS lz d0 d1 d2 d3' d4 d5 d6 t1 t2 b1 b2
  go_wp2_with fail
  refine C3b.out.mono ?_
  rintro e Wa ⟨rfl,na,sa,da,ha,-,-,-,-,na',qa⟩
  obtain rfl : na = 2 := na' HX3.out.2 HX3.out.1
  obtain ⟨Ra,ha⟩ : ∃ R,Ws R w Wa g9 p 2 sa da := ⟨_,ha⟩
  have HA := Lib.hid ha
  have CN := Lib.hid (k_names ha)
  rw [w2n_eq] at CN
  unfold w2n at CN
  clear ha qa C3b na' HX3 H9
  go_wp2_with (first | (go_at_call 10; refine (wl_open_nil _).mono ?_; rintro e u ⟨rfl,hu⟩; rw [hu]; clear hu u) | fail)
  refine CN.out.mono ?_
  rintro e Wb ⟨aob,capb,rfl,hb,bb,cb⟩
  have CB := Lib.hid cb
  have HBb := Lib.hid hb
  clear cb hb bb CN
  go_wp2_with fail
  refine CB.out.mono ?_
  rintro e Wc ⟨rfl,bc⟩
  have hc := HBb.out.later bc
  have CC := Lib.hid (k_refuse hc (by omega) (Et.ls_nil Wc) (by decide) rr4_no)
  unfold Hd.val rr4 at CC
  dsimp only at CC
  have HC := Lib.hid hc
  clear hc bc CB HBb
  go_wp2_with fail
  refine CC.out.mono ?_
  rintro e Wd ⟨rfl,qd⟩
  have HD := Lib.hid (below_upd HC.out.bo.bel qd HC.out.sub)
  clear qd CC
  go_wp2_with fail
  go_ret
  exact ⟨rfl,HD.out⟩
end Go.Proofs.YtlmjeackfepllaaGreatDoor.Wl
namespace Go.Proofs.YtlmjeackfepllaaGreatDoor
open Go.RowKit
theorem walRuns_walk (w : World) : Calls Tryz.prog 3 #[] w fun e w' => e = .returned (.bool true) ∧ Below w.heap.size w w' := Wl.walRuns_any w
end Go.Proofs.YtlmjeackfepllaaGreatDoor
