import Derived.Deep.RegionHeld3
import Derived.Laws.CopyOwn
import Derived.Laws.MakeOwn
import Derived.Lib.QuietBelow
import Derived.Deep.RegionLaw
import Derived.Deep.DeepCutAuto
import Derived.Deep.CutBlock
import Derived.Deep.RegionHeld
import Derived.Laws.Externs
import Derived.Test.YtillcleccjgocaaGreatZIr1
import Derived.Test.YtillcleccjgocaaGreatZIr2
import Derived.Test.YtillcleccjgocaaGreatZIr3
import Derived.Test.YtillcleccjgocaaGreatZIr4
import Derived.Test.YtillcleccjgocaaGreatZIr5
import Derived.Test.YtillcleccjgocaaGreatZIr6
set_option maxRecDepth 100000
set_option linter.unusedVariables false
namespace Go.Proofs.YtillcleccjgocaaGreat
open Go.RowKit
open Mem Pk Cm
theorem Im.items_all {α : Type} {f : St → α × St} {P : α → Prop} (h : ∀ s,P (f s).1) : ∀ (k : Nat) (s : St),∀ x ∈ (Im.rItems f k s).1,P x
 | 0,_,x,hx => by cases hx
 | k + 1,s,x,hx => by
  rw [Im.rItems] at hx
  rcases List.mem_cons.1 hx with rfl | hx
  · exact h s
  · exact Im.items_all h k _ x hx
theorem Im.fit_0 : Fit 0 := ⟨by omega,by omega⟩
theorem Im.rate_short (bs : List UInt8) (s : St) : Short (Im.rRate bs s).1 := ⟨by have := Im.text_64 bs s; show (rText bs 64 s).1.size ≤ _; omega,rNum_fit _ _,rNum_fit _ _,rNum_fit _ _,rNum_fit _ _⟩
theorem Im.ser_short (bs : List UInt8) (s : St) : Sr.Short (Im.rSer bs s).1 := ⟨by have := Im.text_64 bs s; show (rText bs 64 s).1.size ≤ _; omega,Im.fit_0,rNum_fit _ _⟩
theorem Im.sess_short (bs : List UInt8) (s : St) : Sn.Short (Im.rSess bs s).1 := ⟨rNum_fit _ _,rNum_fit _ _,rNum_fit _ _,rNum_fit _ _,rNum_fit _ _⟩
def Im.PsS (p : Bl.Ps) : Prop := p.ser.size ≤ 64 ∧ p.num = 0 ∧ (Fit p.y ∧ Fit p.m ∧ Fit p.d) ∧ (p.tot.net = 0 ∧ p.tot.tax = 0 ∧ p.tot.gross = 0) ∧ p.ofS.size ≤ 64 ∧ Fit p.ofN
theorem Im.post_short (bs : List UInt8) (s : St) : Im.PsS (Im.rPost bs s).1 := ⟨Im.text_64 _ _,rfl,⟨rNum_fit _ _,rNum_fit _ _,rNum_fit _ _⟩,⟨rfl,rfl,rfl⟩,Im.text_64 _ _,rNum_fit _ _⟩
theorem Im.rows_short {w : World} {rs : List Pd.T} {ps : List Bl.Ps} (h : Bl.Each w rs ps) (k : ∀ p ∈ ps,Im.PsS p) : ∀ r ∈ rs,Pd.Short r := by
 intro r hr
 obtain ⟨i,hi,rfl⟩ := List.getElem_of_mem hr
 have e := h.each i hi
 obtain ⟨a1,a2,a3,a4,a5,a6⟩ := k _ (List.getElem_mem (h.len ▸ hi))
 have f0 := Im.fit_0
 exact ⟨by rw [e.ser]; omega,by rw [e.num,a2]; exact f0,by rw [e.y]; exact a3.1,by rw [e.m]; exact a3.2.1,by rw [e.d]; exact a3.2.2,by rw [e.net,a4.1]; exact f0,by rw [e.tax,a4.2.1]; exact f0,by rw [e.gross,a4.2.2]; exact f0,by rw [e.ofS]; omega,by rw [e.ofN]; exact a6⟩
theorem Rx.two {w u : World} {p : Nat} {ao : Option Addr} {n cap : Nat} {bs : List UInt8} {s : St} {T : TypeId} {zs cs : Array Value} (h : Rx w u p ao n cap bs s T zs cs) : w.heap.size + 2 ≤ u.heap.size := Nat.succ_le_of_lt (Array.getElem?_eq_some_iff.1 h.var).1
theorem inA_of {A B n : Nat} {ao : Option Addr} (h : ∀ ad,ao = some ad → ∃ g,ad = ⟨g,0,none⟩ ∧ B ≤ g) (k : A ≤ B) : InP (fun b => A ≤ b) ao n := fun _ b off e => by
 obtain ⟨g,h1,h2⟩ := h _ e
 cases h1
 exact Nat.le_trans k h2
structure Im.Rn (A B1 B2 B3 B4 : Nat) (w : World) (h : Bl.Sv) (s : Bl.St) (rs : List Pd.T) : Prop where
 le1 : A ≤ B1
 le2 : B1 ≤ B2
 le3 : B2 ≤ B3
 le4 : B3 ≤ B4
 le5 : B4 ≤ w.heap.size
 ser : Sr.Own w B1 (Bl.sl h.ser) s.ser
 serB : ∀ b,(Bl.sl h.ser).ownBlock = some b → b < B2
 post : Pd.Own w B2 (Bl.sl h.post) rs
 postB : ∀ b,(Bl.sl h.post).ownBlock = some b → b < B3
 short : ∀ r ∈ rs,Pd.Short r
 each : Bl.Each w rs s.post
 pto : PtO w B2 (Bl.sl h.post) rs s.post
 ptoB : ∀ i (hi : i < rs.length) b,(Bl.sl rs[i].parts).ownBlock = some b → b < B3
 tab : Rts w h.tab.ao h.tab.n h.tab.cap s.tab
 sess : Sn.Ls w h.sess.ao h.sess.n h.sess.cap s.sess
 next : h.next = s.next
 fit : Fit s.next
 ptab : InP (fun b => A ≤ b ∧ b < B4 ∧ (b < B1 ∨ B3 ≤ b)) h.tab.ao h.tab.n
 psess : InP (fun b => A ≤ b ∧ b < B4 ∧ (b < B1 ∨ B3 ≤ b)) h.sess.ao h.sess.n
structure Im.Rs (s : Bl.St) : Prop where
 tab : s.tab.length ≤ 24
 ser : s.ser.length ≤ 8
 post : s.post.length ≤ 40
 sess : s.sess.length ≤ 8
 parts : ∀ p ∈ s.post,p.tot.parts.length ≤ 12
 serS : ∀ r ∈ s.ser,Sr.Short r
 postS : ∀ p ∈ s.post,Im.PsS p
 partS : ∀ p ∈ s.post,∀ x ∈ p.tot.parts,Pt.Short x ∧ x.cat.size ≤ 64
theorem Im.list_len {α : Type} (f : St → α × St) (bs : List UInt8) (most : Int) (s : St) (hm : 0 ≤ most) : ((Im.rList bs most f s).1.length : Int) ≤ most := by
 have h := Im.count_most bs most s
 have h2 := rCount_pos bs most s
 have e : (Im.rList bs most f s).1.length = (rCount bs most s).1.toNat := by
  unfold Im.rList
  exact Im.rItems_len f _ _
 rw [e]
 rcases h with h | h <;> omega
theorem Im.state_rs (bs : List UInt8) (s : St) : Im.Rs (Im.rState bs s).1 := by
 have l1 := Im.list_len (Im.rRate bs) bs 24 s (by omega)
 have l2 := fun s => Im.list_len (Im.rSer bs) bs 8 s (by omega)
 have l3 := fun s => Im.list_len (Im.rPost bs) bs 40 s (by omega)
 have l4 := fun s => Im.list_len (Im.rSess bs) bs 8 s (by omega)
 have l5 := fun s => Im.list_len (Im.rPart bs) bs 12 s (by omega)
 unfold Im.rState
 dsimp only
 refine ⟨?_,?_,?_,?_,fun p hp => ?_,fun r hr => ?_,fun p hp => ?_,fun p hp x hx => ?_⟩
 · exact_mod_cast l1
 · exact_mod_cast l2 _
 · exact_mod_cast l3 _
 · exact_mod_cast l4 _
 · exact Im.items_all (P := fun p => p.tot.parts.length ≤ 12) (fun s => by have := l5; unfold Im.rPost; dsimp only; exact_mod_cast this _) _ _ p hp
 · exact Im.items_all (Im.ser_short bs) _ _ r hr
 · exact Im.items_all (Im.post_short bs) _ _ p hp
 · exact Im.items_all (P := fun p => ∀ x ∈ p.tot.parts,Pt.Short x ∧ x.cat.size ≤ 64) (fun s x hx => by unfold Im.rPost at hx; dsimp only at hx; exact ⟨Im.parts_short bs _ _ x hx,Im.items_all (P := fun x => x.cat.size ≤ 64) (fun s => Im.text_64 bs s) _ _ x hx⟩) _ _ p hp x hx
set_option maxHeartbeats 4000000 in
theorem ird_state (p : Nat) (ao : Option Addr) (n cap : Nat) (bs : List UInt8) (s : St) (w : World) (hR : Rd w p ao n cap bs s) :
  Calls Tryz.prog 17 #[.pointer (some ⟨p,0,none⟩)] w fun e w' => ∃ h : Bl.Sv,e = .returned h.val ∧ Bl.Lp (fun b => w.heap.size + 2 ≤ b) w' h (Im.rState bs s).1 ∧ (∃ B1 B2 B3 B4 rs,Im.Rn (w.heap.size + 2) B1 B2 B3 B4 w' h (Im.rState bs s).1 rs) ∧ Rd w' p ao n cap bs (Im.rState bs s).2 ∧ Upd w p w' := by
 have HX0 := Lib.hid (Rx.start hR #[.slice none 0 0,.slice none 0 0,.slice none 0 0,.slice none 0 0,.slice none 0 0,.int .i64 0] 30)
 have hlt := cell_lt hR.c0
 have hnp : w.heap.size ≠ p := by omega
 have hnp1 : w.heap.size + 1 ≠ p := by omega
 obtain ⟨U,hU⟩ : ∃ U,(w.alloc (.cells #[.slice none 0 0,.slice none 0 0,.slice none 0 0,.slice none 0 0,.slice none 0 0,.int .i64 0] 30)).alloc (.cells #[.slice none 0 0,.slice none 0 0,.slice none 0 0,.slice none 0 0,.slice none 0 0,.int .i64 0] 30) = U := ⟨_,rfl⟩
 rw [hU] at HX0
 have HLp0 := Lib.hid (Bl.Lp.nils (fun b => w.heap.size + 2 ≤ b) U (x := 0) (y := 0) rfl Im.fit_0)
 clear hR
 go_enter Tryz.func17,Tryz.ntmps17
 go_wp2_with fail
 clear hU
 refine (ird_itemsRt p ao n cap bs 24 s U HX0.out.rd (by omega)).mono ?_
 rintro e w1 ⟨v1,rfl,o1,r1,k1⟩
 obtain ⟨po1,pc1,hvp1,l1,g1⟩ := own_rts o1 (Im.items_all (Im.rate_short bs) _ _)
 subst hvp1
 have HZ1 := Lib.hid HX0.out.two
 have HPk1 : Hid (KpP (fun b => w.heap.size + 2 ≤ b) U w1) := Lib.hid (k1.kpP fun b hb => by have := hb; omega)
 have HG1 : Hid (∀ m,InP (fun b => w.heap.size + 2 ≤ b) po1 m) := Lib.hid fun m => inA_of g1 (by have := HZ1.out; omega)
 have HFg1 : Hid (Fg (w.heap.size + 2) U w1) := Lib.hid (Fg.upd k1 (by omega))
 have HOw1 := Lib.hid o1
 have HLt1 := Lib.hid (World.ownsRow.lt o1)
 obtain ⟨a1,s1,hv1⟩ : ∃ a s',Im.rList bs 24 (Im.rRate bs) s = (a,s') := ⟨_,_,rfl⟩
 rw [hv1] at r1 l1 HOw1 HLt1
 dsimp only at r1 l1 HOw1 HLt1
 have HV1 := Lib.hid hv1
 have HL1 := Lib.hid l1
 rw [hv1]
 dsimp only
 obtain ⟨m1,hm1⟩ : ∃ m,a1.length = m := ⟨_,rfl⟩
 rw [hm1] at HL1 HOw1 HLt1
 rw [hm1]
 have HC1 := Lib.hid (HX0.out.call k1 r1)
 clear r1 k1 hv1 o1 l1 g1 hm1
 have c0 := HC1.out.cell 0
 have c1 := HC1.out.cell 1
 have c2 := HC1.out.cell 2
 have c3 := HC1.out.cell 3
 have c4 := HC1.out.cell 4
 have c5 := HC1.out.cell 5
 simp only [List.getElem?_toArray,List.getElem?_cons_zero,List.getElem?_cons_succ] at c0 c1 c2 c3 c4 c5
 have z0 := HC1.out.fz 0
 have HX1 : Hid (Rx w (w1.setCell ⟨w.heap.size + 1,0,none⟩ (.slice po1 m1 pc1)) p ao n cap bs s1 30 #[.slice none 0 0,.slice none 0 0,.slice none 0 0,.slice none 0 0,.slice none 0 0,.int .i64 0] #[.slice po1 m1 pc1,.slice none 0 0,.slice none 0 0,.slice none 0 0,.slice none 0 0,.int .i64 0]) := Lib.hid (HC1.out.set 0 (.slice po1 m1 pc1))
 have HLp1 : Hid (Bl.Lp (fun b => w.heap.size + 2 ≤ b) (w1.setCell ⟨w.heap.size + 1,0,none⟩ (.slice po1 m1 pc1)) ⟨⟨po1,m1,pc1⟩,Bl.z0,Bl.z0,Bl.z0,Bl.z0,0⟩ ⟨a1,[],[],[],[],0⟩) := Lib.hid (by
  have z := HLp0.out.kp HPk1.out
  exact Bl.Lp.kp ⟨HL1.out,z.ser,z.post,z.book,z.sess,z.next,z.fit,HG1.out _,z.pser,z.ppost,z.pbook,z.psess⟩ (KpP.set w1 (by omega) _ _))
 obtain ⟨u1,hu1⟩ : ∃ u,(w1.setCell ⟨w.heap.size + 1,0,none⟩ (.slice po1 m1 pc1)) = u := ⟨_,rfl⟩
 rw [hu1] at HX1 HLp1
 have HFs1 : Hid (Fg (w.heap.size + 2) w1 u1) := Lib.hid (hu1 ▸ Fg.set w1 (by omega) _ _)
 go_wp2_with fail
 clear hu1 c0 c1 c2 c3 c4 c5 z0
 refine (ird_itemsSr p ao n cap bs 8 s1 u1 HX1.out.rd (by omega)).mono ?_
 rintro e w2 ⟨v2,rfl,o2,r2,k2⟩
 obtain ⟨po2,pc2,hvp2,l2,g2⟩ := Sr.own_ls o2 (Im.items_all (Im.ser_short bs) _ _)
 subst hvp2
 have HZ2 := Lib.hid HX1.out.two
 have HPk2 : Hid (KpP (fun b => w.heap.size + 2 ≤ b) u1 w2) := Lib.hid (k2.kpP fun b hb => by have := hb; omega)
 have HG2 : Hid (∀ m,InP (fun b => w.heap.size + 2 ≤ b) po2 m) := Lib.hid fun m => inA_of g2 (by have := HZ2.out; omega)
 have HFg2 : Hid (Fg (w.heap.size + 2) u1 w2) := Lib.hid (Fg.upd k2 (by omega))
 have HOw2 := Lib.hid o2
 have HLt2 := Lib.hid (World.ownsRow.lt o2)
 obtain ⟨a2,s2,hv2⟩ : ∃ a s',Im.rList bs 8 (Im.rSer bs) s1 = (a,s') := ⟨_,_,rfl⟩
 rw [hv2] at r2 l2 HOw2 HLt2
 dsimp only at r2 l2 HOw2 HLt2
 have HV2 := Lib.hid hv2
 have HL2 := Lib.hid l2
 rw [hv2]
 dsimp only
 obtain ⟨m2,hm2⟩ : ∃ m,a2.length = m := ⟨_,rfl⟩
 rw [hm2] at HL2 HOw2 HLt2
 rw [hm2]
 have HC2 := Lib.hid (HX1.out.call k2 r2)
 clear r2 k2 hv2 o2 l2 g2 hm2
 have c0 := HC2.out.cell 0
 have c1 := HC2.out.cell 1
 have c2 := HC2.out.cell 2
 have c3 := HC2.out.cell 3
 have c4 := HC2.out.cell 4
 have c5 := HC2.out.cell 5
 simp only [List.getElem?_toArray,List.getElem?_cons_zero,List.getElem?_cons_succ] at c0 c1 c2 c3 c4 c5
 have z1 := HC2.out.fz 1
 have HX2 : Hid (Rx w (w2.setCell ⟨w.heap.size + 1,1,none⟩ (.slice po2 m2 pc2)) p ao n cap bs s2 30 #[.slice none 0 0,.slice none 0 0,.slice none 0 0,.slice none 0 0,.slice none 0 0,.int .i64 0] #[.slice po1 m1 pc1,.slice po2 m2 pc2,.slice none 0 0,.slice none 0 0,.slice none 0 0,.int .i64 0]) := Lib.hid (HC2.out.set 1 (.slice po2 m2 pc2))
 have HLp2 : Hid (Bl.Lp (fun b => w.heap.size + 2 ≤ b) (w2.setCell ⟨w.heap.size + 1,1,none⟩ (.slice po2 m2 pc2)) ⟨⟨po1,m1,pc1⟩,⟨po2,m2,pc2⟩,Bl.z0,Bl.z0,Bl.z0,0⟩ ⟨a1,a2,[],[],[],0⟩) := Lib.hid (by
  have z := HLp1.out.kp HPk2.out
  exact Bl.Lp.kp ⟨z.tab,HL2.out,z.post,z.book,z.sess,z.next,z.fit,z.ptab,HG2.out _,z.ppost,z.pbook,z.psess⟩ (KpP.set w2 (by omega) _ _))
 obtain ⟨u2,hu2⟩ : ∃ u,(w2.setCell ⟨w.heap.size + 1,1,none⟩ (.slice po2 m2 pc2)) = u := ⟨_,rfl⟩
 rw [hu2] at HX2 HLp2
 have HFs2 : Hid (Fg (w.heap.size + 2) w2 u2) := Lib.hid (hu2 ▸ Fg.set w2 (by omega) _ _)
 go_wp2_with fail
 clear hu2 c0 c1 c2 c3 c4 c5 z1
 refine (ird_itemsPd p ao n cap bs 40 s2 u2 HX2.out.rd (by omega)).mono ?_
 rintro e w3 ⟨v3,rs3,rfl,o3,e3,q3,y3,r3,k3⟩
 obtain ⟨po3,pc3,hvp3,l3,g3⟩ := Pd.own_ls o3 (Im.rows_short e3 (Im.items_all (Im.post_short bs) _ _))
 subst hvp3
 have HZ3 := Lib.hid HX2.out.two
 have HPk3 : Hid (KpP (fun b => w.heap.size + 2 ≤ b) u2 w3) := Lib.hid (k3.kpP fun b hb => by have := hb; omega)
 have HG3 : Hid (∀ m,InP (fun b => w.heap.size + 2 ≤ b) po3 m) := Lib.hid fun m => inA_of g3 (by have := HZ3.out; omega)
 have HFg3 : Hid (Fg (w.heap.size + 2) u2 w3) := Lib.hid (Fg.upd k3 (by omega))
 have HOw3 := Lib.hid o3
 have HLt3 := Lib.hid (World.ownsRow.lt o3)
 have HY3 := Lib.hid y3
 have HSh3 := Lib.hid (Im.rows_short e3 (Im.items_all (Im.post_short bs) _ _))
 have HQ3 : Hid (∀ r ∈ rs3,InP (fun b => w.heap.size + 2 ≤ b) r.parts.ao r.parts.n) := Lib.hid fun r hr => (q3 r hr).mono fun b hb => by have := hb.1; have := HZ3.out; omega
 have HE3 := Lib.hid e3
 obtain ⟨a3,s3,hv3⟩ : ∃ a s',Im.rList bs 40 (Im.rPost bs) s2 = (a,s') := ⟨_,_,rfl⟩
 rw [hv3] at r3 HE3 HY3
 dsimp only at r3 HE3 HY3
 have HV3 := Lib.hid hv3
 have HL3 := Lib.hid l3
 obtain ⟨m3,hm3⟩ : ∃ m,rs3.length = m := ⟨_,rfl⟩
 rw [hm3] at HL3 HOw3 HLt3 HY3
 rw [hm3]
 have HC3 := Lib.hid (HX2.out.call k3 r3)
 clear r3 k3 hv3 o3 l3 g3 hm3 e3 q3 y3
 have c0 := HC3.out.cell 0
 have c1 := HC3.out.cell 1
 have c2 := HC3.out.cell 2
 have c3 := HC3.out.cell 3
 have c4 := HC3.out.cell 4
 have c5 := HC3.out.cell 5
 simp only [List.getElem?_toArray,List.getElem?_cons_zero,List.getElem?_cons_succ] at c0 c1 c2 c3 c4 c5
 have z2 := HC3.out.fz 2
 have HX3 : Hid (Rx w (w3.setCell ⟨w.heap.size + 1,2,none⟩ (.slice po3 m3 pc3)) p ao n cap bs s3 30 #[.slice none 0 0,.slice none 0 0,.slice none 0 0,.slice none 0 0,.slice none 0 0,.int .i64 0] #[.slice po1 m1 pc1,.slice po2 m2 pc2,.slice po3 m3 pc3,.slice none 0 0,.slice none 0 0,.int .i64 0]) := Lib.hid (HC3.out.set 2 (.slice po3 m3 pc3))
 have HLp3 : Hid (Bl.Lp (fun b => w.heap.size + 2 ≤ b) (w3.setCell ⟨w.heap.size + 1,2,none⟩ (.slice po3 m3 pc3)) ⟨⟨po1,m1,pc1⟩,⟨po2,m2,pc2⟩,⟨po3,m3,pc3⟩,Bl.z0,Bl.z0,0⟩ ⟨a1,a2,a3,[],[],0⟩) := Lib.hid (by
  have z := HLp2.out.kp HPk3.out
  exact Bl.Lp.kp ⟨z.tab,z.ser,⟨rs3,HL3.out,HE3.out,HQ3.out⟩,z.book,z.sess,z.next,z.fit,z.ptab,z.pser,HG3.out _,z.pbook,z.psess⟩ (KpP.set w3 (by omega) _ _))
 obtain ⟨u3,hu3⟩ : ∃ u,(w3.setCell ⟨w.heap.size + 1,2,none⟩ (.slice po3 m3 pc3)) = u := ⟨_,rfl⟩
 rw [hu3] at HX3 HLp3
 have HFs3 : Hid (Fg (w.heap.size + 2) w3 u3) := Lib.hid (hu3 ▸ Fg.set w3 (by omega) _ _)
 go_wp2_with fail
 clear hu3 c0 c1 c2 c3 c4 c5 z2
 refine (ird_itemsSn p ao n cap bs 8 s3 u3 HX3.out.rd (by omega)).mono ?_
 rintro e w4 ⟨v4,rfl,o4,r4,k4⟩
 obtain ⟨po4,pc4,hvp4,l4,g4⟩ := Sn.own_ls o4 (Im.items_all (Im.sess_short bs) _ _)
 subst hvp4
 have HZ4 := Lib.hid HX3.out.two
 have HPk4 : Hid (KpP (fun b => w.heap.size + 2 ≤ b) u3 w4) := Lib.hid (k4.kpP fun b hb => by have := hb; omega)
 have HG4 : Hid (∀ m,InP (fun b => w.heap.size + 2 ≤ b) po4 m) := Lib.hid fun m => inA_of g4 (by have := HZ4.out; omega)
 have HFg4 : Hid (Fg (w.heap.size + 2) u3 w4) := Lib.hid (Fg.upd k4 (by omega))
 have HOw4 := Lib.hid o4
 have HLt4 := Lib.hid (World.ownsRow.lt o4)
 obtain ⟨a4,s4,hv4⟩ : ∃ a s',Im.rList bs 8 (Im.rSess bs) s3 = (a,s') := ⟨_,_,rfl⟩
 rw [hv4] at r4 l4 HOw4 HLt4
 dsimp only at r4 l4 HOw4 HLt4
 have HV4 := Lib.hid hv4
 have HL4 := Lib.hid l4
 rw [hv4]
 dsimp only
 obtain ⟨m4,hm4⟩ : ∃ m,a4.length = m := ⟨_,rfl⟩
 rw [hm4] at HL4 HOw4 HLt4
 rw [hm4]
 have HC4 := Lib.hid (HX3.out.call k4 r4)
 clear r4 k4 hv4 o4 l4 g4 hm4
 have c0 := HC4.out.cell 0
 have c1 := HC4.out.cell 1
 have c2 := HC4.out.cell 2
 have c3 := HC4.out.cell 3
 have c4 := HC4.out.cell 4
 have c5 := HC4.out.cell 5
 simp only [List.getElem?_toArray,List.getElem?_cons_zero,List.getElem?_cons_succ] at c0 c1 c2 c3 c4 c5
 have z4 := HC4.out.fz 4
 have HX4 : Hid (Rx w (w4.setCell ⟨w.heap.size + 1,4,none⟩ (.slice po4 m4 pc4)) p ao n cap bs s4 30 #[.slice none 0 0,.slice none 0 0,.slice none 0 0,.slice none 0 0,.slice none 0 0,.int .i64 0] #[.slice po1 m1 pc1,.slice po2 m2 pc2,.slice po3 m3 pc3,.slice none 0 0,.slice po4 m4 pc4,.int .i64 0]) := Lib.hid (HC4.out.set 4 (.slice po4 m4 pc4))
 have HLp4 : Hid (Bl.Lp (fun b => w.heap.size + 2 ≤ b) (w4.setCell ⟨w.heap.size + 1,4,none⟩ (.slice po4 m4 pc4)) ⟨⟨po1,m1,pc1⟩,⟨po2,m2,pc2⟩,⟨po3,m3,pc3⟩,Bl.z0,⟨po4,m4,pc4⟩,0⟩ ⟨a1,a2,a3,[],a4,0⟩) := Lib.hid (by
  have z := HLp3.out.kp HPk4.out
  exact Bl.Lp.kp ⟨z.tab,z.ser,z.post,z.book,HL4.out,z.next,z.fit,z.ptab,z.pser,z.ppost,z.pbook,HG4.out _⟩ (KpP.set w4 (by omega) _ _))
 obtain ⟨u4,hu4⟩ : ∃ u,(w4.setCell ⟨w.heap.size + 1,4,none⟩ (.slice po4 m4 pc4)) = u := ⟨_,rfl⟩
 rw [hu4] at HX4 HLp4
 have HFs4 : Hid (Fg (w.heap.size + 2) w4 u4) := Lib.hid (hu4 ▸ Fg.set w4 (by omega) _ _)
 go_wp2_with fail
 clear hu4 c0 c1 c2 c3 c4 c5 z4
 refine (rd_num p ao n cap bs s4 u4 HX4.out.rd).mono ?_
 rintro e w5 ⟨rfl,r5,k5⟩
 have HFt := Lib.hid (rNum_fit bs s4)
 obtain ⟨a5,s5,hv5⟩ : ∃ a s',rNum bs s4 = (a,s') := ⟨_,_,rfl⟩
 rw [hv5] at r5 HFt ⊢
 dsimp only at r5 HFt ⊢
 have HV5 := Lib.hid hv5
 have HFg5 : Hid (Fg (w.heap.size + 2) u4 w5) := Lib.hid (Fg.upd k5 (by omega))
 have HPk5 : Hid (KpP (fun b => w.heap.size + 2 ≤ b) u4 w5) := Lib.hid (k5.kpP fun b hb => by have := hb; omega)
 have HC5 := Lib.hid (HX4.out.call k5 r5)
 clear r5 k5 hv5
 have c0 := HC5.out.cell 0
 have c1 := HC5.out.cell 1
 have c2 := HC5.out.cell 2
 have c3 := HC5.out.cell 3
 have c4 := HC5.out.cell 4
 have c5 := HC5.out.cell 5
 simp only [List.getElem?_toArray,List.getElem?_cons_zero,List.getElem?_cons_succ] at c0 c1 c2 c3 c4 c5
 have z5 := HC5.out.fz 5
 have HX5 : Hid (Rx w (w5.setCell ⟨w.heap.size + 1,5,none⟩ (.int .i64 a5)) p ao n cap bs s5 30 #[.slice none 0 0,.slice none 0 0,.slice none 0 0,.slice none 0 0,.slice none 0 0,.int .i64 0] #[.slice po1 m1 pc1,.slice po2 m2 pc2,.slice po3 m3 pc3,.slice none 0 0,.slice po4 m4 pc4,.int .i64 a5]) := Lib.hid (HC5.out.set 5 (.int .i64 a5))
 have HLp5 : Hid (Bl.Lp (fun b => w.heap.size + 2 ≤ b) (w5.setCell ⟨w.heap.size + 1,5,none⟩ (.int .i64 a5)) ⟨⟨po1,m1,pc1⟩,⟨po2,m2,pc2⟩,⟨po3,m3,pc3⟩,Bl.z0,⟨po4,m4,pc4⟩,a5⟩ ⟨a1,a2,a3,[],a4,a5⟩) := Lib.hid (by
  have z := HLp4.out.kp HPk5.out
  exact Bl.Lp.kp ⟨z.tab,z.ser,z.post,z.book,z.sess,rfl,HFt.out,z.ptab,z.pser,z.ppost,z.pbook,z.psess⟩ (KpP.set w5 (by omega) _ _))
 obtain ⟨u5,hu5⟩ : ∃ u,w5.setCell ⟨w.heap.size + 1,5,none⟩ (.int .i64 a5) = u := ⟨_,rfl⟩
 rw [hu5] at HX5 HLp5
 have HFs5 : Hid (Fg (w.heap.size + 2) w5 u5) := Lib.hid (hu5 ▸ Fg.set w5 (by omega) _ _)
 have hA5 : Bl.At u5 (w.heap.size + 1) ⟨⟨po1,m1,pc1⟩,⟨po2,m2,pc2⟩,⟨po3,m3,pc3⟩,Bl.z0,⟨po4,m4,pc4⟩,a5⟩ := HX5.out.var
 have hZ5 : Bl.At u5 w.heap.size Bl.zsv := HX5.out.res
 go_wp2_with (first | ((with_reducible apply Bl.wpl_load hA5); rfl; rfl; rfl) | ((with_reducible apply Bl.wpl_put (h := ⟨⟨po1,m1,pc1⟩,⟨po2,m2,pc2⟩,⟨po3,m3,pc3⟩,Bl.z0,⟨po4,m4,pc4⟩,a5⟩) hZ5); rfl; rfl; rfl; rfl))
 have HV : Hid (Im.rState bs s = ((⟨a1,a2,a3,[],a4,a5⟩ : Bl.St),s5)) := Lib.hid (by
  unfold Im.rState
  dsimp only
  rw [HV1.out]
  try dsimp only
  rw [HV2.out]
  try dsimp only
  rw [HV3.out]
  try dsimp only
  rw [HV4.out]
  try dsimp only
  rw [HV5.out]
  try dsimp only
  )
 refine bodyPost_ret (Bl.results1 Tryz.results17 rfl (hZ5.lay _)) rfl ⟨_,rfl,?_,?_,?_,?_⟩
 ·
  rw [HV.out]
  exact HLp5.out.kp (KpP.row u5 (by omega) _)
 ·
  rw [HV.out]
  have F5 := HFs5.out.trans (Fg.row u5 (A := w.heap.size + 2) (g := w.heap.size) (by omega) (Bl.rv ⟨⟨po1,m1,pc1⟩,⟨po2,m2,pc2⟩,⟨po3,m3,pc3⟩,Bl.z0,⟨po4,m4,pc4⟩,a5⟩).toArray)
  have F4 := (HFs4.out.trans HFg5.out).trans F5
  have F3 := (HFs3.out.trans HFg4.out).trans F4
  have F2 := (HFs2.out.trans HFg3.out).trans F3
  have F1 := (HFs1.out.trans HFg2.out).trans F2
  have z1 := HZ1.out
  have z2 := HZ2.out
  have z3 := HZ3.out
  have z4 := HZ4.out
  have y1 := HFg1.out.size
  have y2 := HFs1.out.size
  have y3 := HFg2.out.size
  have y4 := HFs2.out.size
  have y5 := HFg3.out.size
  have y6 := HFs3.out.size
  have y7 := HFg4.out.size
  have y8 := HFs4.out.size
  have lp := HLp5.out.kp (KpP.row (P := (fun b => w.heap.size + 2 ≤ b)) u5 (g := w.heap.size) (by omega) (Bl.rv ⟨⟨po1,m1,pc1⟩,⟨po2,m2,pc2⟩,⟨po3,m3,pc3⟩,Bl.z0,⟨po4,m4,pc4⟩,a5⟩).toArray)
  refine ⟨u1.heap.size,u2.heap.size,u3.heap.size,u4.heap.size,rs3,?_⟩
  refine ⟨by omega,by omega,by omega,by omega,?_,F2.rows HOw2.out (by omega),fun b e => ?_,F3.rows HOw3.out (by omega),fun b e => ?_,HSh3.out,⟨HE3.out.len,fun i hi => (HE3.out.each i hi).kpP (HQ3.out _ (List.getElem_mem hi)) (F3.kpP fun b hb => hb)⟩,HY3.out.keep fun i hi g hg => F3.block g ?_ ?_,fun i hi b e => ?_,lp.tab,lp.sess,rfl,HFt.out,fun hn b off e => ?_,fun hn b off e => ?_⟩
  · exact Nat.le_trans HFg5.out.size F5.size
  ·
   have := (HLt2.out b e).2
   omega
  ·
   have := (HLt3.out b e).2
   omega
  ·
   have := (HY3.out.lt HE3.out.len i hi g hg).1
   omega
  · exact (HY3.out.lt HE3.out.len i hi g hg).2
  ·
   have := (HY3.out.lt HE3.out.len i hi b e).2
   omega
  ·
   have h1 := lp.ptab hn b off e
   have h2 := HLt1.out b (by show Value.ownBlock (.slice po1 m1 pc1) = _; rw [show po1 = _ from e]; rfl)
   exact ⟨h1,by omega,.inl (by omega)⟩
  ·
   have h1 := lp.psess hn b off e
   have h2 := HLt4.out b (by show Value.ownBlock (.slice po4 m4 pc4) = _; rw [show po4 = _ from e]; rfl)
   exact ⟨h1,by omega,.inr h2.1⟩
 ·
  rw [HV.out]
  exact HX5.out.rd.row HX5.out.off0 _
 · exact HX5.out.upd.row (Nat.le_refl _) _
end Go.Proofs.YtillcleccjgocaaGreat
namespace Go.Proofs.YtillcleccjgocaaGreat
open Go.RowKit
open Mem Pk Cm
def Im.cntR (c : ByteArray) : List Pd.T → Nat
 | [] => 0
 | r :: l => (if r.ser = c then 1 else 0) + Im.cntR c l
theorem Im.cntR_app (c : ByteArray) : ∀ a b : List Pd.T,Im.cntR c (a ++ b) = Im.cntR c a + Im.cntR c b
 | [],b => by rw [List.nil_append,Im.cntR,Nat.zero_add]
 | r :: a,b => by rw [List.cons_append,Im.cntR,Im.cntR,Im.cntR_app c a b]; omega
theorem Im.cntR_take (c : ByteArray) {l : List Pd.T} {k : Nat} (h : k < l.length) : Im.cntR c (l.take (k + 1)) = Im.cntR c (l.take k) + (if l[k].ser = c then 1 else 0) := by
 rw [List.take_succ_eq_append_getElem h,Im.cntR_app,Im.cntR,Im.cntR,Nat.add_zero]
theorem Im.cntR_len (c : ByteArray) : ∀ l : List Pd.T,Im.cntR c l ≤ l.length
 | [] => Nat.le_refl _
 | r :: l => by
  have := Im.cntR_len c l
  rw [Im.cntR,List.length_cons]
  split <;> omega
set_option maxHeartbeats 2000000 in
theorem img_count (rs : List Pd.T) (c : ByteArray) (ao : Option Addr) (n cap : Nat) (w0 w : World) (hw : Below w0.heap.size w0 w) (hL : Pd.Ls w ao n cap rs) (hn : n ≤ 1000) :
  Calls Tryz.prog 96 #[.slice ao n cap,.string c] w fun e w' => e = .returned (.int .i64 (Im.cntR c rs : Int)) ∧ Below w0.heap.size w0 w' := by
 have HW := Lib.hid hw
 have HL := Lib.hid hL
 have HN := Lib.hid hL.len
 have hcap := hL.reach
 have hfit := hL.fits
 clear hL hw
 go_enter Tryz.func96,Tryz.ntmps96
 go_wp2_with fail
 go_loopw [5,7,10] (fun t _ j wr => ∃ (k m : Nat),k ≤ n ∧ m ≤ k ∧ t = .int .i64 m ∧ j = .int .i64 k ∧ Hid (Im.cntR c (rs.take k) = m) ∧ Hid (Below w.heap.size w wr)) (fun _ _ j _ => n - (intOf j).toNat)
 case atStart => exact ⟨0,0,by omega,by omega,rfl,rfl,Lib.hid rfl,Lib.hid (Below.refl _ _)⟩
 case round =>
  rename World => wz
  obtain ⟨k,m,hk,hmk,rfl,rfl,HT,HB⟩ := hrel
  by_cases hlt : k < n
  ·
   obtain ⟨b,off,rfl⟩ := HL.out.at (by omega)
   have hkl : k < rs.length := HN.out ▸ hlt
   have hrow := (HL.out.row k hkl).below HB.out
   have HS := Lib.hid (Im.cntR_take c hkl)
   obtain ⟨r,hr⟩ : ∃ r,rs[k] = r := ⟨_,rfl⟩
   rw [hr] at hrow HS
   clear hr
   have hA := Pd.c_box wz r
   have HBW := Lib.hid (bchain HB.out (Pd.below_own wz r))
   unfold Pd.C at hA
   obtain ⟨a0,a1,a2,a3,a4,a5,a6,a7,a8,a9,a10,a11⟩ := hA
   by_cases he : r.ser = c
   ·
    have q0 : (r.ser.toList == c.toList) = true := beq_iff_eq.2 (by rw [he])
    have HE := Lib.hid he
    clear he
    go_wp2_with (first | ((with_reducible apply Pd.wpl_load hrow); rfl; rfl; rfl) | ((with_reducible apply Pd.wpl_store (r := r) (g := wz.heap.size)); rfl; rfl; rfl; rfl; rfl; rfl))
    go_roundw
    case rel => exact ⟨k + 1,m + 1,by omega,by omega,by go_num,by go_num,Lib.hid (by rw [HS.out,HT.out,if_pos HE.out]),HBW⟩
    case measure => simp [intOf]; omega
   ·
    have q0 : (r.ser.toList == c.toList) = false := Bl.tl_ne he
    have HE := Lib.hid he
    clear he
    go_wp2_with (first | ((with_reducible apply Pd.wpl_load hrow); rfl; rfl; rfl) | ((with_reducible apply Pd.wpl_store (r := r) (g := wz.heap.size)); rfl; rfl; rfl; rfl; rfl; rfl))
    go_roundw
    case rel => exact ⟨k + 1,m,by omega,by omega,by go_num,by go_num,Lib.hid (by rw [HS.out,HT.out,if_neg HE.out,Nat.add_zero]),HBW⟩
    case measure => simp [intOf]; omega
  ·
   obtain rfl : k = n := by omega
   have HM : Hid (Im.cntR c rs = m) := Lib.hid (by
    have h := HT.out
    rw [List.take_of_length_le (Nat.le_of_eq HN.out.symm)] at h
    exact h)
   go_wp2_with fail
   go_ret
   exact ⟨by rw [HM.out]; rfl,bchain HW.out HB.out⟩
end Go.Proofs.YtillcleccjgocaaGreat
namespace Go.Proofs.YtillcleccjgocaaGreat.Im
open Bl
def wr (x : Int) : Int := IntKind.i64.wrap x
theorem wr_fit {x : Int} (h : Fit x) : wr x = x := by
 unfold wr
 rw [IntKind.wrap_i64]
 unfold Fit at h
 omega
theorem wr_add (x y : Int) : wr (wr x + y) = wr (x + y) := by
 unfold wr
 rw [IntKind.wrap_i64,IntKind.wrap_i64,IntKind.wrap_i64]
 omega
theorem wr_wr (x : Int) : wr (wr x) = wr x := by
 have := wr_add x 0
 rwa [Int.add_zero,Int.add_zero] at this
def setNum (p : Ps) (n : Int) : Ps := ⟨p.ser,n,p.y,p.m,p.d,p.tot,p.ofS,p.ofN,p.back⟩
def setBack (p : Ps) (b : Bool) : Ps := ⟨p.ser,p.num,p.y,p.m,p.d,p.tot,p.ofS,p.ofN,b⟩
def setTot (p : Ps) (t : Iv.Tot) : Ps := ⟨p.ser,p.num,p.y,p.m,p.d,t,p.ofS,p.ofN,p.back⟩
def setNext (r : Sr.T) (n : Int) : Sr.T := ⟨r.name,n,r.limit,r.shut⟩
def numF (l : List Ps) : List Ps := l.mapIdx fun i p => setNum p ((cnt p.ser (l.take i) : Int) + 1)
def hitB (c : ByteArray) (n : Int) (l : List Ps) : Bool := l.any fun q => decide (q.ofS = c ∧ q.ofN = n)
def credF (l : List Ps) : List Ps := l.mapIdx fun i p => setBack p (hitB p.ser p.num (l.drop (i + 1)))
def serF (rs : List Sr.T) (l : List Ps) : List Sr.T := rs.map fun r => setNext r ((cnt r.name l : Int) + 1)
def partF (p : Pt.T) : Pt.T := ⟨p.cat,p.bp,p.net,Sh.taxV p.net p.bp⟩
def netW (a : Int) : List Pt.T → Int
 | [] => a
 | p :: l => netW (wr (a + p.net)) l
def taxW (a : Int) : List Pt.T → Int
 | [] => a
 | p :: l => taxW (wr (a + p.tax)) l
def totF (t : Iv.Tot) : Iv.Tot := ⟨netW t.net t.parts,taxW t.tax (t.parts.map partF),wr (netW t.net t.parts + taxW t.tax (t.parts.map partF)),t.parts.map partF⟩
def totE (t : Iv.Tot) : Bool := t.parts.all fun p => decide (Sh.taxE p.net p.bp = 0)
def postF (l : List Ps) : List Ps := (credF (numF l)).map fun p => setTot p (totF p.tot)
def fill (s : Bl.St) : Option Bl.St :=
 if (s.post.all fun p => totE p.tot) = true then
  match enterAll (postF s.post) [] with
  | some b => some ⟨s.tab,serF s.ser s.post,postF s.post,b,s.sess,s.next⟩
  | none => none
 else none
def cutPart (p : Pt.T) : Pt.T := ⟨p.cat,p.bp,p.net,0⟩
def cutPost (p : Ps) : Ps := ⟨p.ser,0,p.y,p.m,p.d,⟨0,0,0,p.tot.parts.map cutPart⟩,p.ofS,p.ofN,false⟩
def cutSer (r : Sr.T) : Sr.T := ⟨r.name,0,r.limit,r.shut⟩
def strip (s : Bl.St) : Bl.St := ⟨s.tab,s.ser.map cutSer,s.post.map cutPost,[],s.sess,s.next⟩
theorem stB_strip (s : Bl.St) : stB (strip s) = stB s := by
 unfold stB strip
 rw [listB_map serB cutSer (fun _ => rfl),listB_map postB cutPost (fun p => by unfold postB cutPost; rw [listB_map partB cutPart (fun _ => rfl)])]
theorem cnt_cut (c : ByteArray) : ∀ l : List Ps,cnt c (l.map cutPost) = cnt c l
 | [] => rfl
 | p :: l => by rw [List.map_cons,cnt,cnt,cnt_cut c l]; rfl
theorem netW_eq : ∀ (l : List Pt.T) (a : Int),wr a = a → netW a l = wr (a + netsP l)
 | [],a,h => by rw [netW,netsP,Int.add_zero,h]
 | p :: l,a,h => by rw [netW,netW_eq l _ (wr_wr _),wr_add,netsP,Int.add_assoc]
theorem taxW_eq : ∀ (l : List Pt.T) (a : Int),wr a = a → taxW a l = wr (a + taxesP l)
 | [],a,h => by rw [taxW,taxesP,Int.add_zero,h]
 | p :: l,a,h => by rw [taxW,taxW_eq l _ (wr_wr _),wr_add,taxesP,Int.add_assoc]
theorem wr_0 : wr 0 = 0 := wr_fit ⟨by omega,by omega⟩
theorem nets_cut : ∀ l : List Pt.T,netsP (l.map cutPart) = netsP l
 | [] => rfl
 | p :: l => by rw [List.map_cons,netsP,netsP,nets_cut l]; rfl
theorem part_back {t : Iv.Tot} (h : TotR t) : (t.parts.map cutPart).map partF = t.parts := by
 rw [List.map_map]
 refine (List.map_congr_left (g := id) fun p hp => ?_).trans (List.map_id _)
 have := (h.each p hp).2.2.2.2
 show (⟨p.cat,p.bp,p.net,Sh.taxV p.net p.bp⟩ : Pt.T) = p
 rw [this]
theorem tot_back {t : Iv.Tot} (h : TotR t) : totF ⟨0,0,0,t.parts.map cutPart⟩ = t := by
 have h1 : netW 0 (t.parts.map cutPart) = t.net := by rw [netW_eq _ _ wr_0,nets_cut,Int.zero_add,← h.net,wr_fit h.fit.1]
 have h2 : taxW 0 ((t.parts.map cutPart).map partF) = t.tax := by rw [part_back h,taxW_eq _ _ wr_0,Int.zero_add,← h.tax,wr_fit h.fit.2.1]
 unfold totF
 simp only
 rw [h1,h2,part_back h,← h.gross,wr_fit h.fit.2.2]
theorem totE_cut {t : Iv.Tot} (h : TotR t) : totE ⟨0,0,0,t.parts.map cutPart⟩ = true := by
 unfold totE
 rw [List.all_eq_true]
 intro p hp
 obtain ⟨q,hq,rfl⟩ := List.mem_map.1 hp
 exact decide_eq_true (h.each q hq).2.2.2.1
theorem hitB_iff {c : ByteArray} {n : Int} {l : List Ps} {i : Nat} : hitB c n (l.drop i) = true ↔ ∃ j,∃ hj : j < l.length,i ≤ j ∧ l[j].ofS = c ∧ l[j].ofN = n := by
 unfold hitB
 rw [List.any_eq_true]
 constructor
 ·
  rintro ⟨q,hq,hd⟩
  obtain ⟨k,hk,rfl⟩ := List.getElem_of_mem hq
  rw [List.length_drop] at hk
  rw [List.getElem_drop] at hd
  exact ⟨i + k,by omega,by omega,of_decide_eq_true hd⟩
 ·
  rintro ⟨j,hj,hij,e⟩
  refine ⟨l[j],?_,decide_eq_true e⟩
  have h1 : j - i < (l.drop i).length := by rw [List.length_drop]; omega
  have h2 : (l.drop i)[j - i] = l[j] := by
   rw [List.getElem_drop]
   simp only [show i + (j - i) = j by omega]
  rw [← h2]
  exact List.getElem_mem h1
theorem num_get (l : List Ps) (i : Nat) (h : i < (numF l).length) : (numF l)[i] = setNum (l[i]'(by unfold numF at h; rw [List.length_mapIdx] at h; exact h)) ((cnt (l[i]'(by unfold numF at h; rw [List.length_mapIdx] at h; exact h)).ser (l.take i) : Int) + 1) := by
 exact List.getElem_mapIdx
theorem numF_len (l : List Ps) : (numF l).length = l.length := List.length_mapIdx
theorem credF_len (l : List Ps) : (credF l).length = l.length := List.length_mapIdx
theorem postF_len (l : List Ps) : (postF l).length = l.length := by unfold postF; rw [List.length_map,credF_len,numF_len]
theorem cred_get (l : List Ps) (i : Nat) (h : i < (credF l).length) : (credF l)[i] = setBack (l[i]'(by rw [credF_len] at h; exact h)) (hitB (l[i]'(by rw [credF_len] at h; exact h)).ser (l[i]'(by rw [credF_len] at h; exact h)).num (l.drop (i + 1))) := by
 exact List.getElem_mapIdx
theorem post_get (l : List Ps) (i : Nat) (h : i < (postF l).length) : (postF l)[i] = setTot ((credF (numF l))[i]'(by rw [postF_len] at h; rw [credF_len,numF_len]; exact h)) (totF ((credF (numF l))[i]'(by rw [postF_len] at h; rw [credF_len,numF_len]; exact h)).tot) := by
 exact List.getElem_map _
theorem post_back {s : Bl.St} (h : Right s) : postF (s.post.map cutPost) = s.post := by
 refine List.ext_getElem (by rw [postF_len,List.length_map]) fun i h1 h2 => ?_
 have hn : ∀ (j : Nat) (hj : j < s.post.length),(numF (s.post.map cutPost))[j]'(by rw [numF_len,List.length_map]; exact hj) = setNum (cutPost s.post[j]) s.post[j].num := by
  intro j hj
  rw [num_get,List.getElem_map,← List.map_take,cnt_cut]
  rw [show (cutPost s.post[j]).ser = s.post[j].ser from rfl,← h.num j hj]
 rw [post_get,cred_get,hn i h2]
 have hb : hitB (setNum (cutPost s.post[i]) s.post[i].num).ser (setNum (cutPost s.post[i]) s.post[i].num).num ((numF (s.post.map cutPost)).drop (i + 1)) = s.post[i].back := by
  have key : hitB (setNum (cutPost s.post[i]) s.post[i].num).ser (setNum (cutPost s.post[i]) s.post[i].num).num ((numF (s.post.map cutPost)).drop (i + 1)) = true ↔ s.post[i].back = true := by
   rw [hitB_iff,(h.link i h2).back]
   constructor
   ·
    rintro ⟨j,hj,hij,e⟩
    have hj' : j < s.post.length := by rw [numF_len,List.length_map] at hj; exact hj
    rw [hn j hj'] at e
    exact ⟨j,hj',by omega,e⟩
   ·
    rintro ⟨j,hj,hij,e⟩
    refine ⟨j,by rw [numF_len,List.length_map]; exact hj,by omega,?_⟩
    rw [hn j hj]
    exact e
  cases hx : s.post[i].back
  ·
   rw [hx] at key
   simpa using key
  · exact key.2 hx
 rw [hb]
 have ht := tot_back (h.tot s.post[i] (List.getElem_mem h2))
 show setTot (setBack (setNum (cutPost s.post[i]) s.post[i].num) s.post[i].back) (totF ⟨0,0,0,s.post[i].tot.parts.map cutPart⟩) = s.post[i]
 rw [ht]
 rfl
theorem ser_back {s : Bl.St} (h : Right s) : serF (s.ser.map cutSer) (s.post.map cutPost) = s.ser := by
 unfold serF
 rw [List.map_map]
 refine (List.map_congr_left (g := id) fun r hr => ?_).trans (List.map_id _)
 show (⟨r.name,(cnt r.name (s.post.map cutPost) : Int) + 1,r.limit,r.shut⟩ : Sr.T) = r
 rw [cnt_cut]
 have := h.full r hr
 rw [show (cnt r.name s.post : Int) + 1 = r.next by omega]
theorem fill_strip {s : Bl.St} (h : Right s) : fill (strip s) = some s := by
 unfold fill strip
 simp only
 rw [if_pos,post_back h,h.book,ser_back h]
 rw [List.all_eq_true]
 intro p hp
 obtain ⟨q,hq,rfl⟩ := List.mem_map.1 hp
 exact totE_cut (h.tot q hq)
theorem strip_fill {s t : Bl.St} (hr : Raw s) (h : fill s = some t) : strip t = s := by
 unfold fill at h
 split at h
 ·
  split at h
  ·
   rename_i b hb
   cases h
   unfold strip
   simp only
   have e1 : (serF s.ser s.post).map cutSer = s.ser := by
    unfold serF
    rw [List.map_map]
    refine (List.map_congr_left (g := id) fun r hq => ?_).trans (List.map_id _)
    have := (hr.ser.2 r hq).2.2
    show (⟨r.name,0,r.limit,r.shut⟩ : Sr.T) = r
    rw [← this]
   have e2 : (postF s.post).map cutPost = s.post := by
    refine List.ext_getElem (by rw [List.length_map,postF_len]) fun i h1 h2 => ?_
    rw [List.getElem_map]
    rw [post_get,cred_get,num_get]
    obtain ⟨_,_,_,_,⟨_,hp⟩,q1,q2,q3,q4,q5⟩ := hr.post.2 s.post[i] (List.getElem_mem h2)
    have e3 : (s.post[i].tot.parts.map partF).map cutPart = s.post[i].tot.parts := by
     rw [List.map_map]
     refine (List.map_congr_left (g := id) fun x hx => ?_).trans (List.map_id _)
     have := (hp x hx).2.2.2
     show (⟨x.cat,x.bp,x.net,0⟩ : Pt.T) = x
     rw [← this]
    generalize s.post[i] = p at *
    obtain ⟨ser,num,y,m,d,⟨net,tax,gross,parts⟩,ofS,ofN,back⟩ := p
    simp only at q1 q2 q3 q4 q5 e3
    subst q1 q2 q3 q4 q5
    show (⟨ser,0,y,m,d,⟨0,0,0,(parts.map partF).map cutPart⟩,ofS,ofN,false⟩ : Ps) = _
    rw [e3]
   rw [e1,e2,← hr.book]
  · cases h
 · cases h
theorem bytes_fill {s t : Bl.St} (hr : Raw s) (h : fill s = some t) : stB t = stB s := by
 rw [← stB_strip t,strip_fill hr h]
theorem name_24 {c : ByteArray} (h : Rn.name (txt c) = true) : c.size ≤ 24 := by
 unfold Rn.name at h
 simp only [Bool.and_eq_true,decide_eq_true_iff] at h
 have h2 := h.1.2
 have e : c.size = (txt c).length := by unfold txt; rw [Array.length_toList]; rfl
 omega
end Go.Proofs.YtillcleccjgocaaGreat.Im
namespace Go.Proofs.YtillcleccjgocaaGreat
open Go.RowKit
open Mem Pk Cm
def Im.mix {α : Type} (f : Nat → α → α) (k : Nat) (l : List α) : List α := l.mapIdx fun i x => if i < k then f i x else x
section
variable {α : Type} {f : Nat → α → α} {l : List α}
theorem Im.mix_len (k : Nat) : (Im.mix f k l).length = l.length := List.length_mapIdx
theorem Im.mix_get (k i : Nat) (h : i < (Im.mix f k l).length) : (Im.mix f k l)[i] = if i < k then f i (l[i]'(by rw [Im.mix_len] at h; exact h)) else l[i]'(by rw [Im.mix_len] at h; exact h) := List.getElem_mapIdx
theorem Im.mix_zero : Im.mix f 0 l = l := by
 refine List.ext_getElem (Im.mix_len 0) fun i h1 h2 => ?_
 rw [Im.mix_get,if_neg (Nat.not_lt_zero i)]
theorem Im.mix_full {k : Nat} (h : l.length ≤ k) : Im.mix f k l = l.mapIdx f := by
 refine List.ext_getElem (by rw [Im.mix_len,List.length_mapIdx]) fun i h1 h2 => ?_
 rw [Im.mix_get,if_pos (by rw [Im.mix_len] at h1; omega),List.getElem_mapIdx]
theorem Im.mix_at {k : Nat} (h : k < l.length) : (Im.mix f k l)[k]'(by rw [Im.mix_len]; exact h) = l[k] := by
 rw [Im.mix_get,if_neg (Nat.lt_irrefl k)]
theorem Im.mix_set {k : Nat} (h : k < l.length) : (Im.mix f k l).set k (f k l[k]) = Im.mix f (k + 1) l := by
 refine List.ext_getElem (by rw [List.length_set,Im.mix_len,Im.mix_len]) fun i h1 h2 => ?_
 rw [List.getElem_set,Im.mix_get,Im.mix_get]
 by_cases e : k = i
 ·
  subst e
  rw [if_pos rfl,if_pos (Nat.lt_succ_self k)]
 ·
  rw [if_neg e]
  by_cases h3 : i < k
  · rw [if_pos h3,if_pos (by omega)]
  · rw [if_neg h3,if_neg (by omega)]
theorem Im.mix_all {P : α → Prop} (k : Nat) (h0 : ∀ x ∈ l,P x) (h1 : ∀ i (hi : i < l.length),P (f i l[i])) : ∀ x ∈ Im.mix f k l,P x := by
 intro x hx
 obtain ⟨i,hi,rfl⟩ := List.getElem_of_mem hx
 rw [Im.mix_get]
 rw [Im.mix_len] at hi
 split
 · exact h1 i hi
 · exact h0 _ (List.getElem_mem hi)
theorem Im.mix_map {β : Type} (g : α → β) (k : Nat) (h : ∀ i x,g (f i x) = g x) : (Im.mix f k l).map g = l.map g := by
 refine List.ext_getElem (by rw [List.length_map,List.length_map,Im.mix_len]) fun i h1 h2 => ?_
 rw [List.getElem_map,List.getElem_map,Im.mix_get]
 split
 · exact h _ _
 · rfl
end
theorem Im.cntR_map (c : ByteArray) : ∀ {l m : List Pd.T},l.map (·.ser) = m.map (·.ser) → Im.cntR c l = Im.cntR c m
 | [],[],_ => rfl
 | [],_ :: _,h => by cases h
 | _ :: _,[],h => by cases h
 | a :: l,b :: m,h => by
  rw [List.map_cons,List.map_cons,List.cons.injEq] at h
  rw [Im.cntR,Im.cntR,Im.cntR_map c h.2,h.1]
def Im.rNum (r : Pd.T) (n : Int) : Pd.T := ⟨r.ser,n,r.y,r.m,r.d,r.net,r.tax,r.gross,r.parts,r.ofS,r.ofN,r.back⟩
def Im.rBack (r : Pd.T) (b : Bool) : Pd.T := ⟨r.ser,r.num,r.y,r.m,r.d,r.net,r.tax,r.gross,r.parts,r.ofS,r.ofN,b⟩
def Im.nF (rs : List Pd.T) (i : Nat) (r : Pd.T) : Pd.T := Im.rNum r ((Im.cntR r.ser (rs.take i) : Int) + 1)
def Im.hitR (c : ByteArray) (n : Int) (l : List Pd.T) : Bool := l.any fun q => decide (q.ofS = c ∧ q.ofN = n)
def Im.bF (rs : List Pd.T) (i : Nat) (r : Pd.T) : Pd.T := Im.rBack r (Im.hitR r.ser r.num (rs.drop (i + 1)))
theorem Im.own_g {w : World} {A n cap : Nat} {ao : Option Addr} {e k : Nat} {xs : List Value} (h : w.ownsRow A e k (.slice ao n cap) n xs) (hn : 0 < n) : ∃ g,ao = some ⟨g,0,none⟩ := by
 rcases h.2 with ⟨_,h2⟩ | ⟨g',cap',cur,h',_⟩
 · omega
 ·
  simp only [Value.slice.injEq] at h'
  obtain ⟨rfl,_,rfl⟩ := h'
  exact ⟨g',rfl⟩
theorem Im.ser_short' {r : Pd.T} (h : Pd.Short r) (n : Int) (hn : Fit n) : Pd.Short (Im.rNum r n) := ⟨h.1,hn,h.2.2⟩
theorem Im.back_short' {r : Pd.T} (h : Pd.Short r) (b : Bool) : Pd.Short (Im.rBack r b) := h
theorem Im.nF_short {rs : List Pd.T} (h : ∀ r ∈ rs,Pd.Short r) (hn : rs.length ≤ 1000) (k : Nat) : ∀ r ∈ Im.mix (Im.nF rs) k rs,Pd.Short r :=
 Im.mix_all k h fun i hi => Im.ser_short' (h _ (List.getElem_mem hi)) _ (by
  have h1 := Im.cntR_len rs[i].ser (rs.take i)
  rw [List.length_take] at h1
  exact ⟨by omega,by omega⟩)
theorem Im.bF_short {rs : List Pd.T} (h : ∀ r ∈ rs,Pd.Short r) (k : Nat) : ∀ r ∈ Im.mix (Im.bF rs) k rs,Pd.Short r :=
 Im.mix_all k h fun i hi => Im.back_short' (h _ (List.getElem_mem hi)) _
set_option maxHeartbeats 4000000 in
theorem img_number (rs : List Pd.T) (ao : Option Addr) (n cap A : Nat) (w : World) (hO : Pd.Own w A (.slice ao n cap) rs) (hs : ∀ r ∈ rs,Pd.Short r) (hn : n = rs.length) (hm : n ≤ 1000) :
  Calls Tryz.prog 53 #[.slice ao n cap] w fun e w' => e = .returned (.tuple #[]) ∧ Pd.Own w' A (.slice ao n cap) (rs.mapIdx (Im.nF rs)) ∧ UpdQ (fun b => (Value.slice ao n cap).ownBlock = some b) w w' := by
 have HO0 := Lib.hid hO
 have HS := Lib.hid hs
 have HN := Lib.hid hn
 have hcl : n ≤ cap ∧ cap ≤ 9223372036854775807 := by
  obtain ⟨a,c,e,l,_⟩ := Pd.own_ls hO hs
  simp only [Value.slice.injEq] at e
  obtain ⟨rfl,rfl,rfl⟩ := e
  exact ⟨l.fits,l.reach⟩
 obtain ⟨hnc,hcm⟩ := hcl
 clear hO hs hn
 go_enter Tryz.func53,Tryz.ntmps53
 go_wp2_with fail
 go_loopw [2,5] (fun _ j wr => ∃ k : Nat,k ≤ n ∧ j = .int .i64 k ∧ Hid (Pd.Own wr A (.slice ao n cap) (Im.mix (Im.nF rs) k rs)) ∧ Hid (UpdQ (fun b => (Value.slice ao n cap).ownBlock = some b) w wr)) (fun _ j _ => n - (intOf j).toNat)
 case atStart => exact ⟨0,by omega,rfl,Lib.hid (by rw [Im.mix_zero]; exact HO0.out),Lib.hid (UpdQ.refl _ _)⟩
 case round =>
  rename World => wz
  obtain ⟨k,hk,rfl,HO,HU⟩ := hrel
  by_cases hlt : k < n
  ·
   have hkr : k < rs.length := HN.out ▸ hlt
   have hkm : k < (Im.mix (Im.nF rs) k rs).length := by rw [Im.mix_len]; exact hkr
   obtain ⟨g,hao⟩ := Im.own_g (by have := HO.out; unfold Pd.Own at this; rw [Im.mix_len,← HN.out] at this; exact this) (by omega)
   subst hao
   have HSh := Lib.hid (Im.nF_short HS.out (by have := HN.out; omega) k)
   obtain ⟨ha,hf,_⟩ := Pd.own_at HO.out k hkm
   have hat := Im.mix_at (f := Im.nF rs) hkr
   have hst := Im.mix_set (f := Im.nF rs) hkr
   rw [hat] at ha
   have HL : Hid (Pd.Ls wz (some ⟨g,0,none⟩) n cap (Im.mix (Im.nF rs) k rs)) := Lib.hid (by
    obtain ⟨a,c,e,l,_⟩ := Pd.own_ls HO.out HSh.out
    rw [Im.mix_len,← HN.out] at e l
    simp only [Value.slice.injEq] at e
    obtain ⟨rfl,_,rfl⟩ := e
    exact l)
   obtain ⟨hsl,hLt⟩ := HL.out.to k (by omega)
   have HLt := Lib.hid hLt
   obtain ⟨r,hr⟩ : ∃ r,rs[k] = r := ⟨_,rfl⟩
   have HC : Hid (Im.cntR r.ser ((Im.mix (Im.nF rs) k rs).take k) = Im.cntR r.ser (rs.take k)) := Lib.hid (Im.cntR_map _ (by rw [List.map_take,List.map_take,Im.mix_map (f := Im.nF rs) (·.ser) k fun _ _ => rfl]))
   rw [hr] at ha hat hst
   have HAt := Lib.hid hat
   have HSt := Lib.hid hst
   have HCo : Hid (∀ u,Below wz.heap.size wz u → Calls Tryz.prog 96 #[.slice (some ⟨g,0,none⟩) k cap,.string r.ser] u fun e w' => e = .returned (.int .i64 (Im.cntR r.ser (rs.take k) : Int)) ∧ Below wz.heap.size wz w') := Lib.hid fun u hu => by
    have h := img_count _ r.ser (some ⟨g,0,none⟩) k cap wz u hu (HLt.out.below hu) (by omega)
    rw [HC.out] at h
    exact h
   obtain ⟨q,hq⟩ : ∃ q,Im.cntR r.ser (rs.take k) = q := ⟨_,rfl⟩
   have hqk : q ≤ k := by
    have h1 := Im.cntR_len r.ser (rs.take k)
    rw [List.length_take] at h1
    omega
   have HFr : Hid (∀ u,Below wz.heap.size wz u → u.cell? ⟨g,k * 12 + 1,none⟩ = some (.int .i64 r.num) ∧ u.frozen? ⟨g,k * 12 + 1,none⟩ = false) := Lib.hid fun u hu => ⟨(ha.below hu).c1,((bcell hu).2 _ _ (cell_lt ha.c1)).trans (hf _)⟩
   have HPut : Hid (∀ u,Below wz.heap.size wz u → Pd.Own (u.setCell ⟨g,k * 12 + 1,none⟩ (.int .i64 ((q : Int) + 1))) A (.slice (some ⟨g,0,none⟩) n cap) (Im.mix (Im.nF rs) (k + 1) rs) ∧ UpdQ (fun b => (Value.slice (some ⟨g,0,none⟩) n cap).ownBlock = some b) w (u.setCell ⟨g,k * 12 + 1,none⟩ (.int .i64 ((q : Int) + 1)))) := Lib.hid fun u hu => by
    refine ⟨?_,(HU.out.belowT hu).trans (UpdQ.set (Q := fun b => (Value.slice (some ⟨g,0,none⟩) n cap).ownBlock = some b) u rfl _ _)⟩
    rw [← HSt.out]
    refine Pd.own_put (Pd.own_below HO.out hu) k 1 hkm (by omega) _ _ ?_
    rw [HAt.out]
    unfold Im.nF
    rw [hq]
    rfl
   rw [hq] at HCo
   obtain ⟨c0,c1,c2,c3,c4,c5,c6,c7,c8,c9,c10,c11⟩ := ha
   clear hLt hat hst hr hq hf
   go_wp2_with fail
   go_region_with (go_at_call 96; refine (HCo.out _ (by first | exact Below.refl _ _ | exact (Below.refl _ _).drew)).mono ?_; rintro e u ⟨rfl,hu⟩; have q3 := (HFr.out u hu).1; have q4 := (HFr.out u hu).2; have HBu := Lib.hid hu; clear hu)
   all_goals (try go_wp2_with fail)
   all_goals rw [show (1 : Int) + (q : Int) = (q : Int) + 1 from Int.add_comm _ _]
   all_goals
    go_roundw
    case rel => exact ⟨k + 1,by omega,by go_num,Lib.hid (HPut.out _ HBu.out).1,Lib.hid (HPut.out _ HBu.out).2⟩
    case measure => simp [intOf]; omega
  ·
   obtain rfl : k = n := by omega
   go_wp2_with fail
   go_end0
   refine ⟨rfl,?_,HU.out⟩
   rw [← Im.mix_full (k := k) (Nat.le_of_eq HN.out.symm)]
   exact HO.out
end Go.Proofs.YtillcleccjgocaaGreat
namespace Go.Proofs.YtillcleccjgocaaGreat
open Go.RowKit
open Mem Pk Cm
theorem Im.hitR_take {c : ByteArray} {m : Int} {l : List Pd.T} {k : Nat} (h : k < l.length) : Im.hitR c m (l.take (k + 1)) = (Im.hitR c m (l.take k) || decide (l[k].ofS = c ∧ l[k].ofN = m)) := by
 unfold Im.hitR
 rw [List.take_succ_eq_append_getElem h,List.any_append]
 simp
theorem Im.hitR_in {c : ByteArray} {m : Int} {l : List Pd.T} {k : Nat} (h : k < l.length) (e : l[k].ofS = c ∧ l[k].ofN = m) : Im.hitR c m l = true := by
 unfold Im.hitR
 rw [List.any_eq_true]
 exact ⟨_,List.getElem_mem h,decide_eq_true e⟩
theorem Im.hitR_map {c : ByteArray} {n : Int} : ∀ {l m : List Pd.T},l.map (fun r => (r.ofS,r.ofN)) = m.map (fun r => (r.ofS,r.ofN)) → Im.hitR c n l = Im.hitR c n m
 | [],[],_ => rfl
 | [],_ :: _,h => by cases h
 | _ :: _,[],h => by cases h
 | a :: l,b :: m,h => by
  rw [List.map_cons,List.map_cons,List.cons.injEq,Prod.mk.injEq] at h
  have ih := Im.hitR_map (c := c) (n := n) h.2
  unfold Im.hitR at ih ⊢
  rw [List.any_cons,List.any_cons,ih,h.1.1,h.1.2]
set_option maxHeartbeats 2000000 in
theorem img_credited (rs : List Pd.T) (c : ByteArray) (m : Int) (ao : Option Addr) (n cap : Nat) (w0 w : World) (hw : Below w0.heap.size w0 w) (hL : Pd.Ls w ao n cap rs) :
  Calls Tryz.prog 97 #[.slice ao n cap,.agg #[.string c,.int .i64 m]] w fun e w' => e = .returned (.bool (Im.hitR c m rs)) ∧ Below w0.heap.size w0 w' := by
 have HW := Lib.hid hw
 have HL := Lib.hid hL
 have HN := Lib.hid hL.len
 have hcap := hL.reach
 have hfit := hL.fits
 clear hL hw
 obtain ⟨V,hV,hbV,v0,v1⟩ := Bl.ref_box w c m
 have HV := Lib.hid hbV
 have HC := Lib.hid (And.intro v0 v1)
 clear hbV v0 v1
 go_enter Tryz.func97,Tryz.ntmps97
 go_wp2_with fail
 clear hV
 go_loopw [6,9] (fun _ j wr => ∃ k : Nat,k ≤ n ∧ j = .int .i64 k ∧ Hid (Im.hitR c m (rs.take k) = false) ∧ Hid (Below V.heap.size V wr)) (fun _ j _ => n - (intOf j).toNat)
 case atStart => exact ⟨0,by omega,rfl,Lib.hid rfl,Lib.hid (Below.refl _ _)⟩
 case round =>
  rename World => wr
  obtain ⟨k,hk,rfl,HT,HB⟩ := hrel
  by_cases hlt : k < n
  ·
   obtain ⟨b,off,rfl⟩ := HL.out.at (by omega)
   have hkl : k < rs.length := HN.out ▸ hlt
   have hrow := (HL.out.row k hkl).below (bchain HV.out HB.out)
   have HS := Lib.hid (Im.hitR_take (c := c) (m := m) hkl)
   have HIn := Lib.hid (Im.hitR_in (c := c) (m := m) hkl)
   obtain ⟨r,hr⟩ : ∃ r,rs[k] = r := ⟨_,rfl⟩
   rw [hr] at hrow HS HIn
   clear hr
   have hA := Pd.c_box wr r
   have HBW := Lib.hid (bchain HB.out (Pd.below_own wr r))
   have x0 := (bcell (bchain HB.out (Pd.below_own wr r))).1 _ 0 (cell_lt HC.out.1) |>.trans HC.out.1
   have x1 := (bcell (bchain HB.out (Pd.below_own wr r))).1 _ 1 (cell_lt HC.out.1) |>.trans HC.out.2
   have hA' := hA
   unfold Pd.C at hA'
   obtain ⟨_,_,_,_,_,_,_,_,_,a9,a10,_⟩ := hA'
   by_cases he : r.ofS = c
   ·
    have q0 := Bl.tl_eq he
    by_cases hm : r.ofN = m
    ·
     have HF := Lib.hid (HIn.out ⟨he,hm⟩)
     have q1 : (r.ofN == m) = true := beq_iff_eq.2 hm
     clear he hm
     go_wp2_with (first | ((with_reducible apply Pd.wpl_load hrow); rfl; rfl; rfl) | ((with_reducible apply Pd.wpl_store (r := r) (g := wr.heap.size)); rfl; rfl; rfl; rfl; rfl; rfl))
     go_ret
     exact ⟨by rw [HF.out]; rfl,bchain HW.out (bchain HV.out HBW.out)⟩
    ·
     have HF : Hid (Im.hitR c m (rs.take (k + 1)) = false) := Lib.hid (by rw [HS.out,HT.out,decide_eq_false (fun h => hm h.2)]; rfl)
     have q1 : (r.ofN == m) = false := beq_eq_false_iff_ne.2 hm
     clear he hm
     go_wp2_with (first | ((with_reducible apply Pd.wpl_load hrow); rfl; rfl; rfl) | ((with_reducible apply Pd.wpl_store (r := r) (g := wr.heap.size)); rfl; rfl; rfl; rfl; rfl; rfl))
     go_roundw
     case rel => exact ⟨k + 1,by omega,by go_num,HF,HBW⟩
     case measure => simp [intOf]; omega
   ·
    have q0 := Bl.tl_ne he
    have HF : Hid (Im.hitR c m (rs.take (k + 1)) = false) := Lib.hid (by rw [HS.out,HT.out,decide_eq_false (fun h => he h.1)]; rfl)
    clear he
    go_wp2_with (first | ((with_reducible apply Pd.wpl_load hrow); rfl; rfl; rfl) | ((with_reducible apply Pd.wpl_store (r := r) (g := wr.heap.size)); rfl; rfl; rfl; rfl; rfl; rfl))
    go_roundw
    case rel => exact ⟨k + 1,by omega,by go_num,HF,HBW⟩
    case measure => simp [intOf]; omega
  ·
   obtain rfl : k = n := by omega
   have HF : Hid (Im.hitR c m rs = false) := Lib.hid (by
    rw [← HT.out,List.take_of_length_le (Nat.le_of_eq HN.out.symm)])
   go_wp2_with fail
   go_ret
   exact ⟨by rw [HF.out]; rfl,bchain HW.out (bchain HV.out HB.out)⟩
set_option maxHeartbeats 4000000 in
theorem img_credit (rs : List Pd.T) (ao : Option Addr) (n cap A : Nat) (w : World) (hO : Pd.Own w A (.slice ao n cap) rs) (hs : ∀ r ∈ rs,Pd.Short r) (hn : n = rs.length) (hm : n ≤ 1000) :
  Calls Tryz.prog 54 #[.slice ao n cap] w fun e w' => e = .returned (.tuple #[]) ∧ Pd.Own w' A (.slice ao n cap) (rs.mapIdx (Im.bF rs)) ∧ UpdQ (fun b => (Value.slice ao n cap).ownBlock = some b) w w' := by
 have HO0 := Lib.hid hO
 have HS := Lib.hid hs
 have HN := Lib.hid hn
 have hcl : n ≤ cap ∧ cap ≤ 9223372036854775807 := by
  obtain ⟨a,c,e,l,_⟩ := Pd.own_ls hO hs
  simp only [Value.slice.injEq] at e
  obtain ⟨rfl,rfl,rfl⟩ := e
  exact ⟨l.fits,l.reach⟩
 obtain ⟨hnc,hcm⟩ := hcl
 clear hO hs hn
 go_enter Tryz.func54,Tryz.ntmps54
 go_wp2_with fail
 go_loopw [2,5] (fun _ j wr => ∃ k : Nat,k ≤ n ∧ j = .int .i64 k ∧ Hid (Pd.Own wr A (.slice ao n cap) (Im.mix (Im.bF rs) k rs)) ∧ Hid (UpdQ (fun b => (Value.slice ao n cap).ownBlock = some b) w wr)) (fun _ j _ => n - (intOf j).toNat)
 case atStart => exact ⟨0,by omega,rfl,Lib.hid (by rw [Im.mix_zero]; exact HO0.out),Lib.hid (UpdQ.refl _ _)⟩
 case round =>
  rename World => wz
  obtain ⟨k,hk,rfl,HO,HU⟩ := hrel
  by_cases hlt : k < n
  ·
   have hkr : k < rs.length := HN.out ▸ hlt
   have hkm : k < (Im.mix (Im.bF rs) k rs).length := by rw [Im.mix_len]; exact hkr
   obtain ⟨g,hao⟩ := Im.own_g (by have := HO.out; unfold Pd.Own at this; rw [Im.mix_len,← HN.out] at this; exact this) (by omega)
   subst hao
   have HSh := Lib.hid (Im.bF_short HS.out k)
   obtain ⟨ha,hf,_⟩ := Pd.own_at HO.out k hkm
   have hat := Im.mix_at (f := Im.bF rs) hkr
   have hst := Im.mix_set (f := Im.bF rs) hkr
   rw [hat] at ha
   have HL : Hid (Pd.Ls wz (some ⟨g,0,none⟩) n cap (Im.mix (Im.bF rs) k rs)) := Lib.hid (by
    obtain ⟨a,c,e,l,_⟩ := Pd.own_ls HO.out HSh.out
    rw [Im.mix_len,← HN.out] at e l
    simp only [Value.slice.injEq] at e
    obtain ⟨rfl,_,rfl⟩ := e
    exact l)
   obtain ⟨ao2,cap2,hsl,hLt⟩ := HL.out.from (k + 1) (by omega)
   have HLt := Lib.hid hLt
   obtain ⟨j,hj⟩ : ∃ j,n - (k + 1) = j := ⟨_,rfl⟩
   rw [hj] at hsl HLt
   rw [show ((k + 1 : Nat) : Int) = (k : Int) + 1 from by omega] at hsl
   obtain ⟨r,hr⟩ : ∃ r,rs[k] = r := ⟨_,rfl⟩
   have HC : Hid (Im.hitR r.ser r.num ((Im.mix (Im.bF rs) k rs).drop (k + 1)) = Im.hitR r.ser r.num (rs.drop (k + 1))) := Lib.hid (Im.hitR_map (by rw [List.map_drop,List.map_drop,Im.mix_map (f := Im.bF rs) (fun r => (r.ofS,r.ofN)) k fun _ _ => rfl]))
   rw [hr] at ha hat hst
   have HAt := Lib.hid hat
   have HSt := Lib.hid hst
   have HCo : Hid (∀ u,Below wz.heap.size wz u → Calls Tryz.prog 97 #[.slice ao2 j cap2,.agg #[.string r.ser,.int .i64 r.num]] u fun e w' => e = .returned (.bool (Im.hitR r.ser r.num (rs.drop (k + 1)))) ∧ Below wz.heap.size wz w') := Lib.hid fun u hu => by
    have h := img_credited _ r.ser r.num ao2 j cap2 wz u hu (HLt.out.below hu)
    rw [HC.out] at h
    exact h
   obtain ⟨q,hq⟩ : ∃ q,Im.hitR r.ser r.num (rs.drop (k + 1)) = q := ⟨_,rfl⟩
   have HFr : Hid (∀ u,Below wz.heap.size wz u → u.cell? ⟨g,k * 12 + 11,none⟩ = some (.bool r.back) ∧ u.frozen? ⟨g,k * 12 + 11,none⟩ = false) := Lib.hid fun u hu => ⟨(ha.below hu).c11,((bcell hu).2 _ _ (cell_lt ha.c11)).trans (hf _)⟩
   have HPut : Hid (∀ u,Below wz.heap.size wz u → Pd.Own (u.setCell ⟨g,k * 12 + 11,none⟩ (.bool q)) A (.slice (some ⟨g,0,none⟩) n cap) (Im.mix (Im.bF rs) (k + 1) rs) ∧ UpdQ (fun b => (Value.slice (some ⟨g,0,none⟩) n cap).ownBlock = some b) w (u.setCell ⟨g,k * 12 + 11,none⟩ (.bool q))) := Lib.hid fun u hu => by
    refine ⟨?_,(HU.out.belowT hu).trans (UpdQ.set (Q := fun b => (Value.slice (some ⟨g,0,none⟩) n cap).ownBlock = some b) u rfl _ _)⟩
    rw [← HSt.out]
    refine Pd.own_put (Pd.own_below HO.out hu) k 11 hkm (by omega) _ _ ?_
    rw [HAt.out]
    unfold Im.bF
    rw [hq]
    rfl
   rw [hq] at HCo
   obtain ⟨c0,c1,c2,c3,c4,c5,c6,c7,c8,c9,c10,c11⟩ := ha
   clear hLt hat hst hr hq hf hj
   have hw1 : IntKind.i64.wrap ((k : Int) + 1) = (k : Int) + 1 := by rw [IntKind.wrap_i64]; omega
   go_wp2_with fail
   go_region_with (go_at_call 97; refine (HCo.out _ (by first | exact Below.refl _ _ | exact (Below.refl _ _).drew)).mono ?_; rintro e u ⟨rfl,hu⟩; have q3 := (HFr.out u hu).1; have q4 := (HFr.out u hu).2; have HBu := Lib.hid hu; clear hu)
   all_goals (try go_wp2_with fail)
   all_goals
    go_roundw
    case rel => exact ⟨k + 1,by omega,by go_num,Lib.hid (HPut.out _ HBu.out).1,Lib.hid (HPut.out _ HBu.out).2⟩
    case measure => simp [intOf]; omega
  ·
   obtain rfl : k = n := by omega
   go_wp2_with fail
   go_end0
   refine ⟨rfl,?_,HU.out⟩
   rw [← Im.mix_full (k := k) (Nat.le_of_eq HN.out.symm)]
   exact HO.out
end Go.Proofs.YtillcleccjgocaaGreat
namespace Go.Proofs.YtillcleccjgocaaGreat
open Go.RowKit
open Mem Pk Cm
def Im.sF (rs : List Pd.T) (i : Nat) (r : Sr.T) : Sr.T := ⟨r.name,(Im.cntR r.name rs : Int) + 1,r.limit,r.shut⟩
set_option maxHeartbeats 4000000 in
theorem img_advance (ss : List Sr.T) (rs : List Pd.T) (ao po : Option Addr) (n cap m pc A : Nat) (w : World) (hO : Sr.Own w A (.slice ao n cap) ss) (hs : ∀ r ∈ ss,Sr.Short r) (hn : n = ss.length) (hL : Pd.Ls w po m pc rs) (hm : m ≤ 1000) (hnn : n ≤ 1000) (hp : InP (fun b => (Value.slice ao n cap).ownBlock ≠ some b) po m) :
  Calls Tryz.prog 55 #[.slice ao n cap,.slice po m pc] w fun e w' => e = .returned (.tuple #[]) ∧ Sr.Own w' A (.slice ao n cap) (ss.mapIdx (Im.sF rs)) ∧ UpdQ (fun b => (Value.slice ao n cap).ownBlock = some b) w w' := by
 have HO0 := Lib.hid hO
 have HS := Lib.hid hs
 have HN := Lib.hid hn
 have HPl := Lib.hid hL
 have HPp := Lib.hid hp
 have hcl : n ≤ cap ∧ cap ≤ 9223372036854775807 := by
  obtain ⟨a,c,e,l,_⟩ := Sr.own_ls hO hs
  simp only [Value.slice.injEq] at e
  obtain ⟨rfl,rfl,rfl⟩ := e
  exact ⟨l.fits,l.reach⟩
 obtain ⟨hnc,hcm⟩ := hcl
 clear hO hs hn hL hp
 go_enter Tryz.func55,Tryz.ntmps55
 go_wp2_with fail
 go_loopw [4,7] (fun _ j wr => ∃ k : Nat,k ≤ n ∧ j = .int .i64 k ∧ Hid (Sr.Own wr A (.slice ao n cap) (Im.mix (Im.sF rs) k ss)) ∧ Hid (UpdQ (fun b => (Value.slice ao n cap).ownBlock = some b) w wr)) (fun _ j _ => n - (intOf j).toNat)
 case atStart => exact ⟨0,by omega,rfl,Lib.hid (by rw [Im.mix_zero]; exact HO0.out),Lib.hid (UpdQ.refl _ _)⟩
 case round =>
  rename World => wz
  obtain ⟨k,hk,rfl,HO,HU⟩ := hrel
  by_cases hlt : k < n
  ·
   have hkr : k < ss.length := HN.out ▸ hlt
   have hkm : k < (Im.mix (Im.sF rs) k ss).length := by rw [Im.mix_len]; exact hkr
   obtain ⟨g,hao⟩ := Im.own_g (by have := HO.out; unfold Sr.Own at this; rw [Im.mix_len,← HN.out] at this; exact this) (by omega)
   subst hao
   obtain ⟨ha,hf,_⟩ := Sr.own_at HO.out k hkm
   have hat := Im.mix_at (f := Im.sF rs) hkr
   have hst := Im.mix_set (f := Im.sF rs) hkr
   rw [hat] at ha
   have HL : Hid (Pd.Ls wz po m pc rs) := Lib.hid (HPl.out.kpP HPp.out (HU.out.kpP fun b hb => hb))
   obtain ⟨r,hr⟩ : ∃ r,ss[k] = r := ⟨_,rfl⟩
   rw [hr] at ha hat hst
   have HAt := Lib.hid hat
   have HSt := Lib.hid hst
   obtain ⟨q,hq⟩ : ∃ q,Im.cntR r.name rs = q := ⟨_,rfl⟩
   have hqk : q ≤ 1000 := by
    have h1 := Im.cntR_len r.name rs
    have h2 := HPl.out.len
    omega
   have HFr : Hid (∀ u,Below wz.heap.size wz u → u.cell? ⟨g,k * 4 + 1,none⟩ = some (.int .i64 r.next) ∧ u.frozen? ⟨g,k * 4 + 1,none⟩ = false) := Lib.hid fun u hu => ⟨(ha.below hu).c1,((bcell hu).2 _ _ (cell_lt ha.c1)).trans (hf _)⟩
   have HPut : Hid (∀ u,Below wz.heap.size wz u → Sr.Own (u.setCell ⟨g,k * 4 + 1,none⟩ (.int .i64 ((q : Int) + 1))) A (.slice (some ⟨g,0,none⟩) n cap) (Im.mix (Im.sF rs) (k + 1) ss) ∧ UpdQ (fun b => (Value.slice (some ⟨g,0,none⟩) n cap).ownBlock = some b) w (u.setCell ⟨g,k * 4 + 1,none⟩ (.int .i64 ((q : Int) + 1)))) := Lib.hid fun u hu => by
    refine ⟨?_,(HU.out.belowT hu).trans (UpdQ.set (Q := fun b => (Value.slice (some ⟨g,0,none⟩) n cap).ownBlock = some b) u rfl _ _)⟩
    rw [← HSt.out]
    refine Sr.own_cell (Sr.own_below HO.out hu) k 1 hkm (by omega) _ _ ?_
    rw [HAt.out]
    unfold Im.sF
    rw [hq]
    rfl
   have HQ := Lib.hid hq
   obtain ⟨c0,c1,c2,c3⟩ := ha
   clear hat hst hr hq hf
   go_wp2_with fail
   refine (img_count rs r.name po m pc wz wz (Below.refl _ _) HL.out hm).mono ?_
   rintro e u ⟨rfl,hu⟩
   rw [HQ.out]
   have q3 := (HFr.out u hu).1
   have q4 := (HFr.out u hu).2
   have HBu := Lib.hid hu
   clear hu c0 c1 c2 c3
   go_wp2_with fail
   rw [show (1 : Int) + (q : Int) = (q : Int) + 1 from Int.add_comm _ _]
   go_roundw
   case rel => exact ⟨k + 1,by omega,by go_num,Lib.hid (HPut.out _ HBu.out).1,Lib.hid (HPut.out _ HBu.out).2⟩
   case measure => simp [intOf]; omega
  ·
   obtain rfl : k = n := by omega
   go_wp2_with fail
   go_end0
   refine ⟨rfl,?_,HU.out⟩
   rw [← Im.mix_full (k := k) (Nat.le_of_eq HN.out.symm)]
   exact HO.out
end Go.Proofs.YtillcleccjgocaaGreat
namespace Go.Proofs.YtillcleccjgocaaGreat
open Go.RowKit
theorem right_any (bp : Int) (w : World) (hb : Fit bp) :
  Calls Tryz.prog 135 #[.int .i64 bp] w fun e w' => e = .returned (.bool (decide (Sh.Right bp))) ∧ w' = w := by
 obtain ⟨hb0,hb1⟩ := hb
 go_enter Tryz.func135,Tryz.ntmps135
 by_cases h : Sh.Right bp
 ·
  rw [decide_eq_true h]
  obtain ⟨h0,h1⟩ := h
  go_wp2
  go_ret
  exact ⟨rfl,rfl⟩
 ·
  rw [decide_eq_false h]
  by_cases h0 : 0 ≤ bp
  ·
   have h1 : ¬ bp ≤ 100000 := fun h1 => h ⟨h0,h1⟩
   clear h
   go_wp2
   go_ret
   exact ⟨rfl,rfl⟩
  ·
   clear h
   go_wp2
   go_ret
   exact ⟨rfl,rfl⟩
def told (s : Nat) : Int × Int := if s ≤ 9223372036854775807 then ((s : Int),0) else (0,7)
theorem told_fit {s : Nat} (h : s ≤ 9223372036854775807) : told s = ((s : Int),0) := if_pos h
theorem told_not {s : Nat} (h : ¬ s ≤ 9223372036854775807) : told s = (0,7) := if_neg h
set_option maxHeartbeats 1000000 in
theorem parts_any (u bp all : Nat) (w0 w : World) (hw : Below w0.heap.size w0 w) (hu : u ≤ 9223372036854775808) (hb : bp ≤ 100000) (ha0 : 10000 ≤ all) (ha1 : all ≤ 110000) :
  Calls Tryz.prog 163 #[.int .u64 u,.int .u64 bp,.int .u64 all] w fun e w' => e = both (told (Sh.sh u bp all)).1 (told (Sh.sh u bp all)).2 ∧ Below w0.heap.size w0 w' := by
 have hs := Sh.sh_split u bp all (by omega)
 have hl := Sh.last_le (u % all) bp all (Nat.mod_lt _ (by omega))
 have hq : (u : Int) / (all : Int) = ((u / all : Nat) : Int) := by omega
 have hr : (u : Int) % (all : Int) = ((u % all : Nat) : Int) := by omega
 have hr1 : u % all < all := Nat.mod_lt _ (by omega)
 have hm : (u % all) * bp ≤ 110000 * 100000 := Nat.mul_le_mul (by omega) hb
 have hq1 : u / all ≤ 922337203685477 := by
  rw [Nat.div_le_iff_le_mul_add_pred (by omega)]
  have : 10000 * 922337203685477 ≤ all * 922337203685477 := Nat.mul_le_mul_right _ ha0
  omega
 have hz : ((all : Int) == 0) = false := beq_eq_false_iff_ne.2 (by omega)
 have hz2 : ((2 * all : Int) == 0) = false := beq_eq_false_iff_ne.2 (by omega)
 generalize u / all = q at hs hq hq1
 generalize u % all = r at hs hl hr hr1 hm
 have hlast : (2 * (r : Int) * (bp : Int) + all) / (2 * (all : Int)) = (((2 * r * bp + all) / (2 * all) : Nat) : Int) := by push_cast; rfl
 generalize (2 * r * bp + all) / (2 * all) = l at hs hl hlast
 have hm2 : 2 * (r : Int) * (bp : Int) ≤ 22000000000 := by
  have h : ((r * bp : Nat) : Int) = (r : Int) * (bp : Int) := Int.natCast_mul _ _
  rw [Int.mul_assoc]
  omega
 have hm0 : 0 ≤ 2 * (r : Int) * (bp : Int) := Int.mul_nonneg (by omega) (by omega)
 have hp : ((q * bp : Nat) : Int) = (q : Int) * (bp : Int) := Int.natCast_mul _ _
 have HW := Lib.hid hw
 clear hm hw
 rw [hs]
 clear hs
 by_cases hf : q * bp + l ≤ 9223372036854775807
 ·
  rw [told_fit hf]
  have hp0 : 0 ≤ (q : Int) * (bp : Int) := by omega
  have hp1 : (q : Int) * (bp : Int) ≤ 9223372036854775807 - l := by omega
  have HE : Hid ((q : Int) * (bp : Int) + l = ((q * bp + l : Nat) : Int)) := Lib.hid (by omega)
  have hc : 0 < bp → ¬ (9223372036854775807 - (l : Int)) / (bp : Int) < (q : Int) := by
   intro h0
   rw [Int.not_lt,Int.le_ediv_iff_mul_le (by omega)]
   exact hp1
  clear hf hp
  by_cases h0 : 0 < bp
  ·
   have hc1 := hc h0
   clear hc
   go_enter Tryz.func163,Tryz.ntmps163
   go_wp2
   go_quiet (fail)
   go_wp2
   go_ret2
   exact ⟨both_eq HE.out rfl,below_drewN HW.out _⟩
  ·
   clear hc
   go_enter Tryz.func163,Tryz.ntmps163
   go_wp2
   go_quiet (fail)
   go_wp2
   go_ret2
   exact ⟨both_eq HE.out rfl,below_drewN HW.out _⟩
 ·
  rw [told_not hf]
  have h0 : 0 < bp := by
   refine Nat.pos_of_ne_zero fun h => ?_
   subst h
   omega
  have hc : (9223372036854775807 - (l : Int)) / (bp : Int) < (q : Int) := by
   rw [Int.ediv_lt_iff_lt_mul (by omega)]
   omega
  clear hf hp
  go_enter Tryz.func163,Tryz.ntmps163
  go_wp2
  go_quiet (fail)
  go_wp2
  go_ret2
  exact ⟨rfl,below_drewN HW.out _⟩
theorem told_pos (u bp all : Nat) : told (Sh.sh u bp all) = (Sh.val (u : Int) bp all,Sh.why (u : Int) bp all) := by
 unfold told Sh.val Sh.why Sh.side
 rw [Int.natAbs_natCast]
 split
 · rw [if_neg (by omega)]
 · rfl
theorem told_neg (u bp all : Nat) (hu : 0 < u) : (-(told (Sh.sh u bp all)).1,(told (Sh.sh u bp all)).2) = (Sh.val (-(u : Int)) bp all,Sh.why (-(u : Int)) bp all) := by
 unfold told Sh.val Sh.why Sh.side
 rw [Int.natAbs_neg,Int.natAbs_natCast]
 split
 · rw [if_pos (by omega)]
 · rfl
theorem told_fst (s : Nat) : 0 ≤ (told s).1 ∧ (told s).1 ≤ 9223372036854775807 := by
 unfold told
 split
 · exact ⟨by simp,by simp; omega⟩
 · exact ⟨by simp,by simp⟩
theorem wrap_turn (u : Nat) (h : u ≤ 9223372036854775808) : IntKind.u64.wrap (-IntKind.u64.wrap (-(u : Int))) = u := by
 rw [IntKind.wrap_u64,IntKind.wrap_u64]
 omega
set_option maxHeartbeats 1000000 in
theorem share_any (n : Int) (bp all : Nat) (w0 w : World) (hw : Below w0.heap.size w0 w) (hn : Fit n) (hb : bp ≤ 100000) (ha0 : 10000 ≤ all) (ha1 : all ≤ 110000) :
  Calls Tryz.prog 136 #[.int .i64 n,.int .u64 bp,.int .u64 all] w fun e w' => e = both (Sh.val n bp all) (Sh.why n bp all) ∧ Below w0.heap.size w0 w' := by
 have HW := Lib.hid hw
 clear hw
 obtain ⟨hn0,hn1⟩ := hn
 by_cases h : 0 ≤ n
 ·
  obtain ⟨u,rfl⟩ : ∃ u : Nat,n = u := ⟨n.toNat,by omega⟩
  have HT := Lib.hid (told_pos u bp all)
  go_enter Tryz.func136,Tryz.ntmps136
  go_wp2_with fail
  refine (parts_any u bp all w0 _ HW.out (by omega) hb ha0 ha1).mono ?_
  rintro e w1 ⟨rfl,b1⟩
  have HB1 := Lib.hid b1
  clear b1
  rw [HT.out]
  unfold both
  go_wp2_with fail
  go_ret2
  exact ⟨rfl,HB1.out⟩
 ·
  obtain ⟨u,rfl⟩ : ∃ u : Nat,n = -(u : Int) := ⟨n.natAbs,by omega⟩
  have hu : 0 < u := by omega
  have HT := Lib.hid (told_neg u bp all hu)
  obtain ⟨t0,t1⟩ := told_fst (Sh.sh u bp all)
  go_enter Tryz.func136,Tryz.ntmps136
  go_wp2_with fail
  rw [wrap_turn u (by omega)]
  refine (parts_any u bp all w0 _ HW.out (by omega) hb ha0 ha1).mono ?_
  rintro e w1 ⟨rfl,b1⟩
  have HB1 := Lib.hid b1
  clear b1
  obtain ⟨⟨p1,p2⟩,hp⟩ : ∃ p,told (Sh.sh u bp all) = p := ⟨_,rfl⟩
  have HP := Lib.hid (hp ▸ HT.out)
  rw [hp] at t0 t1 ⊢
  clear HT hp
  unfold both
  go_wp2_with fail
  go_ret2
  exact ⟨both_eq (congrArg Prod.fst HP.out) (congrArg Prod.snd HP.out),HB1.out⟩
theorem right_if {bp : Int} (h : Sh.Right bp) (n : Int) : both (Sh.taxV n bp) (Sh.taxE n bp) = both (Sh.val n bp.toNat 10000) (Sh.why n bp.toNat 10000) ∧ both (Sh.inV n bp) (Sh.inE n bp) = both (Sh.val n bp.toNat (10000 + bp.toNat)) (Sh.why n bp.toNat (10000 + bp.toNat)) := by
 unfold Sh.taxV Sh.taxE Sh.inV Sh.inE
 rw [if_pos h,if_pos h,if_pos h,if_pos h]
 exact ⟨rfl,rfl⟩
theorem right_not {bp : Int} (h : ¬ Sh.Right bp) (n : Int) : both (Sh.taxV n bp) (Sh.taxE n bp) = both 0 1 ∧ both (Sh.inV n bp) (Sh.inE n bp) = both 0 1 := by
 unfold Sh.taxV Sh.taxE Sh.inV Sh.inE
 rw [if_neg h,if_neg h,if_neg h,if_neg h]
 exact ⟨rfl,rfl⟩
set_option maxHeartbeats 1000000 in
theorem tax_any (n bp : Int) (w0 w : World) (hw : Below w0.heap.size w0 w) (hn : Fit n) (hb : Fit bp) :
  Calls Tryz.prog 98 #[.int .i64 n,.int .i64 bp] w fun e w' => e = both (Sh.taxV n bp) (Sh.taxE n bp) ∧ Below w0.heap.size w0 w' := by
 have HW := Lib.hid hw
 have HN := Lib.hid hn
 have HB := Lib.hid hb
 clear hw hn hb
 by_cases h : Sh.Right bp
 ·
  rw [(right_if h n).1]
  obtain ⟨u,rfl⟩ : ∃ u : Nat,bp = u := ⟨bp.toNat,by unfold Sh.Right at h; omega⟩
  have hu : u ≤ 100000 := by unfold Sh.Right at h; omega
  rw [Int.toNat_natCast]
  go_enter Tryz.func98,Tryz.ntmps98
  go_wp2_with fail
  refine (right_any u _ HB.out).mono ?_
  rintro e w1 ⟨rfl,hw1⟩
  subst hw1
  rw [decide_eq_true h]
  clear h
  go_wp2_with fail
  refine (share_any n u 10000 w0 _ HW.out HN.out hu (by omega) (by omega)).mono ?_
  rintro e w1 ⟨rfl,b1⟩
  have HB1 := Lib.hid b1
  clear b1
  unfold both
  go_wp2_with fail
  go_ret2
  exact ⟨rfl,HB1.out⟩
 ·
  rw [(right_not h n).1]
  go_enter Tryz.func98,Tryz.ntmps98
  go_wp2_with fail
  refine (right_any bp _ HB.out).mono ?_
  rintro e w1 ⟨rfl,hw1⟩
  subst hw1
  rw [decide_eq_false h]
  clear h
  go_wp2_with fail
  go_ret2
  exact ⟨rfl,HW.out⟩
end Go.Proofs.YtillcleccjgocaaGreat
namespace Go.Proofs.YtillcleccjgocaaGreat
open Vt (Rt)
theorem tax_fit (n bp : Int) : Fit (Sh.taxV n bp) := by
 have h0 : Fit 0 := ⟨by omega,by omega⟩
 unfold Sh.taxV
 split
 ·
  unfold Sh.val
  split
  ·
   unfold Sh.side
   split
   · exact ⟨by omega,by omega⟩
   · exact ⟨by omega,by omega⟩
  · exact h0
 · exact h0
section
variable {rs : List Rt} {y m d : Int} {x : Ln.T}
end
end Go.Proofs.YtillcleccjgocaaGreat
namespace Go.Proofs.YtillcleccjgocaaGreat
open Go.RowKit
open Mem Pk Cm
open Go.Sort (grow)
theorem Im.netW_snoc : ∀ (l : List Pt.T) (a : Int) (p : Pt.T),Im.netW a (l ++ [p]) = Im.wr (Im.netW a l + p.net)
 | [],a,p => rfl
 | q :: l,a,p => by rw [List.cons_append,Im.netW,Im.netW_snoc l,Im.netW]
theorem Im.taxW_snoc : ∀ (l : List Pt.T) (a : Int) (p : Pt.T),Im.taxW a (l ++ [p]) = Im.wr (Im.taxW a l + p.tax)
 | [],a,p => rfl
 | q :: l,a,p => by rw [List.cons_append,Im.taxW,Im.taxW_snoc l,Im.taxW]
def Im.pF (_ : Nat) (p : Pt.T) : Pt.T := Im.partF p
theorem Im.pF_map (ts : List Pt.T) : ts.mapIdx Im.pF = ts.map Im.partF := by
 refine List.ext_getElem (by rw [List.length_mapIdx,List.length_map]) fun i h1 h2 => ?_
 rw [List.getElem_mapIdx,List.getElem_map]
 rfl
def Im.rTot (r : Pd.T) (N T G : Int) : Pd.T := ⟨r.ser,r.num,r.y,r.m,r.d,N,T,G,r.parts,r.ofS,r.ofN,r.back⟩
theorem Im.wr_fit' (x : Int) : Fit (Im.wr x) := by
 unfold Im.wr
 rw [IntKind.wrap_i64]
 exact ⟨by omega,by omega⟩
theorem Im.wr64 (x : Int) : wrap64 x = Im.wr x := by
 unfold wrap64 Im.wr
 rw [IntKind.wrap_i64]
structure Im.TSt (w wr : World) (g pg k A B n cap pn pc : Nat) (rs : List Pd.T) (ts : List Pt.T) (hk : k < rs.length) (j : Nat) (N T : Int) : Prop where
 rows : Pd.Own wr A (.slice (some ⟨g,0,none⟩) n cap) (rs.set k (Im.rTot rs[k] N T rs[k].gross))
 parts : Pt.Own wr B (.slice (some ⟨pg,0,none⟩) pn pc) (Im.mix Im.pF j ts)
 upd : UpdQ (fun b => b = g ∨ b = pg) w wr
section
variable {w wr : World} {g pg k A B n cap pn pc : Nat} {rs : List Pd.T} {ts : List Pt.T} {hk : k < rs.length} {j : Nat} {N T : Int}
theorem Im.TSt.below (h : Im.TSt w wr g pg k A B n cap pn pc rs ts hk j N T) {u : World} (b : Below wr.heap.size wr u) : Im.TSt w u g pg k A B n cap pn pc rs ts hk j N T :=
 ⟨Pd.own_below h.rows b,Pt.own_below h.parts b,h.upd.belowT b⟩
theorem Im.TSt.row (h : Im.TSt w wr g pg k A B n cap pn pc rs ts hk j N T) : Pd.At wr g (k * 12) (Im.rTot rs[k] N T rs[k].gross) ∧ ∀ o,wr.frozen? ⟨g,o,none⟩ = false := by
 have h1 := Pd.own_at h.rows k (by rw [List.length_set]; exact hk)
 rw [List.getElem_set_self] at h1
 exact ⟨h1.1,h1.2.1⟩
theorem Im.TSt.part (h : Im.TSt w wr g pg k A B n cap pn pc rs ts hk j N T) (i : Nat) (hi : i < ts.length) : Pt.At wr pg (i * 4) ((Im.mix Im.pF j ts)[i]'(by rw [Im.mix_len]; exact hi)) ∧ ∀ o,wr.frozen? ⟨pg,o,none⟩ = false := by
 have h1 := Pt.own_at h.parts i (by rw [Im.mix_len]; exact hi)
 exact ⟨h1.1,h1.2.1⟩
theorem Im.TSt.tax (h : Im.TSt w wr g pg k A B n cap pn pc rs ts hk j N T) (hne : g ≠ pg) (hj : j < ts.length) : Im.TSt w (wr.setCell ⟨pg,j * 4 + 3,none⟩ (.int .i64 (Sh.taxV ts[j].net ts[j].bp))) g pg k A B n cap pn pc rs ts hk (j + 1) N T := by
 refine ⟨(UpdQ.set (Q := (· = pg)) wr rfl _ _).rows h.rows fun b e q => hne ?_,?_,h.upd.trans (UpdQ.set wr (.inr rfl) _ _)⟩
 ·
  cases e
  exact q
 ·
  have h1 := Im.mix_set (f := Im.pF) hj
  rw [← h1]
  refine Pt.own_put h.parts j 3 (by rw [Im.mix_len]; exact hj) (by omega) _ _ ?_
  rw [Im.mix_at hj]
  rfl
theorem Im.TSt.net (h : Im.TSt w wr g pg k A B n cap pn pc rs ts hk j N T) (hne : g ≠ pg) (x : Int) : Im.TSt w (wr.setCell ⟨g,k * 12 + 5,none⟩ (.int .i64 x)) g pg k A B n cap pn pc rs ts hk j x T := by
 refine ⟨?_,(UpdQ.set (Q := (· = g)) wr rfl _ _).rows h.parts fun b e q => hne ?_,h.upd.trans (UpdQ.set wr (.inl rfl) _ _)⟩
 ·
  have h1 := Pd.own_put h.rows k 5 (by rw [List.length_set]; exact hk) (by omega) (.int .i64 x) (Im.rTot rs[k] x T rs[k].gross) (by rw [List.getElem_set_self]; rfl)
  rw [List.set_set] at h1
  exact h1
 ·
  cases e
  exact q.symm
theorem Im.TSt.txs (h : Im.TSt w wr g pg k A B n cap pn pc rs ts hk j N T) (hne : g ≠ pg) (x : Int) : Im.TSt w (wr.setCell ⟨g,k * 12 + 6,none⟩ (.int .i64 x)) g pg k A B n cap pn pc rs ts hk j N x := by
 refine ⟨?_,(UpdQ.set (Q := (· = g)) wr rfl _ _).rows h.parts fun b e q => hne ?_,h.upd.trans (UpdQ.set wr (.inl rfl) _ _)⟩
 ·
  have h1 := Pd.own_put h.rows k 6 (by rw [List.length_set]; exact hk) (by omega) (.int .i64 x) (Im.rTot rs[k] N x rs[k].gross) (by rw [List.getElem_set_self]; rfl)
  rw [List.set_set] at h1
  exact h1
 ·
  cases e
  exact q.symm
theorem Im.TSt.gross (h : Im.TSt w wr g pg k A B n cap pn pc rs ts hk j N T) (hne : g ≠ pg) (x : Int) : Pd.Own (wr.setCell ⟨g,k * 12 + 7,none⟩ (.int .i64 x)) A (.slice (some ⟨g,0,none⟩) n cap) (rs.set k (Im.rTot rs[k] N T x)) ∧ Pt.Own (wr.setCell ⟨g,k * 12 + 7,none⟩ (.int .i64 x)) B (.slice (some ⟨pg,0,none⟩) pn pc) (Im.mix Im.pF j ts) ∧ UpdQ (fun b => b = g ∨ b = pg) w (wr.setCell ⟨g,k * 12 + 7,none⟩ (.int .i64 x)) := by
 refine ⟨?_,(UpdQ.set (Q := (· = g)) wr rfl _ _).rows h.parts fun b e q => hne ?_,h.upd.trans (UpdQ.set wr (.inl rfl) _ _)⟩
 ·
  have h1 := Pd.own_put h.rows k 7 (by rw [List.length_set]; exact hk) (by omega) (.int .i64 x) (Im.rTot rs[k] N T x) (by rw [List.getElem_set_self]; rfl)
  rw [List.set_set] at h1
  exact h1
 ·
  cases e
  exact q.symm
end
theorem Im.rTot_self (r : Pd.T) : Im.rTot r r.net r.tax r.gross = r := rfl
theorem Im.set_self (rs : List Pd.T) (k : Nat) (hk : k < rs.length) : rs.set k (Im.rTot rs[k] rs[k].net rs[k].tax rs[k].gross) = rs := by
 rw [Im.rTot_self,List.set_getElem_self]
set_option maxHeartbeats 8000000 in
theorem img_total (rs : List Pd.T) (ts : List Pt.T) (k g pg n cap pn pc A B : Nat) (hk : k < rs.length) (w : World) (hO : Pd.Own w A (.slice (some ⟨g,0,none⟩) n cap) rs) (hP : Pt.Own w B (.slice (some ⟨pg,0,none⟩) pn pc) ts) (hne : g ≠ pg) (hr : rs[k].parts = ⟨some ⟨pg,0,none⟩,pn,pc⟩) (hpn : pn = ts.length) (hm : pn ≤ 1000) (hs : ∀ x ∈ ts,Pt.Short x) :
  Calls Tryz.prog 56 #[.pointer (some ⟨g,k * 12 + 5,none⟩)] w fun e w' => ((e = .returned (.bool true) ∧ (∀ x ∈ ts,Sh.taxE x.net x.bp = 0) ∧ Pd.Own w' A (.slice (some ⟨g,0,none⟩) n cap) (rs.set k (Im.rTot rs[k] (Im.netW rs[k].net ts) (Im.taxW rs[k].tax (ts.map Im.partF)) (Im.wr (Im.netW rs[k].net ts + Im.taxW rs[k].tax (ts.map Im.partF))))) ∧ Pt.Own w' B (.slice (some ⟨pg,0,none⟩) pn pc) (ts.map Im.partF)) ∨ e = .returned (.bool false) ∧ ∃ x ∈ ts,Sh.taxE x.net x.bp ≠ 0) ∧ UpdQ (fun b => b = g ∨ b = pg) w w' := by
 have HT0 : Hid (Im.TSt w w g pg k A B n cap pn pc rs ts hk 0 rs[k].net rs[k].tax) := Lib.hid ⟨by rw [Im.set_self]; exact hO,by rw [Im.mix_zero]; exact hP,UpdQ.refl _ _⟩
 have HN := Lib.hid hpn
 have HS := Lib.hid hs
 have hcl : pn ≤ pc ∧ pc ≤ 9223372036854775807 := by
  obtain ⟨a,c,e,l,_⟩ := Pt.own_ls hP hs
  simp only [Value.slice.injEq] at e
  obtain ⟨rfl,rfl,rfl⟩ := e
  exact ⟨l.fits,l.reach⟩
 obtain ⟨hnc,hcm⟩ := hcl
 obtain ⟨R,hR⟩ : ∃ R,rs[k] = R := ⟨_,rfl⟩
 have HR := Lib.hid hR
 rw [hR] at HT0 hr
 have HRp := Lib.hid hr
 have h8 := HT0.out.row.1.c8
 rw [hR] at h8
 unfold Im.rTot at h8
 simp only [hr] at h8
 clear hO hP hpn hs hR hr
 go_enter Tryz.func56,Tryz.ntmps56
 go_wp2_with fail
 clear h8
 go_loopw [3,4,5,6,12] (fun _ _ _ _ i wr => ∃ (j : Nat) (N T : Int),j ≤ pn ∧ i = .int .i64 j ∧ Hid (Im.TSt w wr g pg k A B n cap pn pc rs ts hk j N T) ∧ Hid (N = Im.netW R.net (ts.take j) ∧ T = Im.taxW R.tax ((ts.take j).map Im.partF) ∧ ∀ x ∈ ts.take j,Sh.taxE x.net x.bp = 0)) (fun _ _ _ _ i _ => pn - (intOf i).toNat)
 case atStart => exact ⟨0,R.net,R.tax,by omega,rfl,HT0,Lib.hid ⟨rfl,rfl,fun _ h => by cases h⟩⟩
 case round =>
  clear HT0
  rename World => wz
  obtain ⟨j,N,T,hj,rfl,H,HI⟩ := hrel
  have hrow := H.out.row
  rw [HR.out] at hrow
  unfold Im.rTot at hrow
  obtain ⟨hAt,hfz⟩ := hrow
  have r5 := hAt.c5
  have r6 := hAt.c6
  have r7 := hAt.c7
  have r8 := hAt.c8
  simp only [HRp.out] at r5 r6 r7 r8
  clear hAt
  by_cases hlt : j < pn
  ·
   have hjt : j < ts.length := HN.out ▸ hlt
   obtain ⟨hPt,hpz⟩ := H.out.part j hjt
   rw [Im.mix_at hjt] at hPt
   have HTk := Lib.hid (List.take_succ_eq_append_getElem hjt)
   have HSp := Lib.hid (HS.out _ (List.getElem_mem hjt))
   have HMem := Lib.hid (List.getElem_mem hjt)
   have HTax : Hid (∀ u,Im.TSt w u g pg k A B n cap pn pc rs ts hk j N T → Im.TSt w (u.setCell ⟨pg,j * 4 + 3,none⟩ (.int .i64 (Sh.taxV ts[j].net ts[j].bp))) g pg k A B n cap pn pc rs ts hk (j + 1) N T) := Lib.hid fun u h => h.tax hne hjt
   have HPart : Hid (∀ u,Im.TSt w u g pg k A B n cap pn pc rs ts hk (j + 1) N T → Pt.At u pg (j * 4) (Im.partF ts[j])) := Lib.hid fun u h => by
    have h1 := (h.part j hjt).1
    rw [Im.mix_get,if_pos (Nat.lt_succ_self j)] at h1
    exact h1
   obtain ⟨p,hp⟩ : ∃ p,ts[j] = p := ⟨_,rfl⟩
   rw [hp] at hPt HTk HSp HMem HTax HPart
   obtain ⟨E,hE⟩ : ∃ E,Sh.taxE p.net p.bp = E := ⟨_,rfl⟩
   obtain ⟨X,hX⟩ : ∃ X,Sh.taxV p.net p.bp = X := ⟨_,rfl⟩
   have HEx := Lib.hid hE
   have HXx := Lib.hid hX
   have HFX : Hid (Fit X) := Lib.hid (hX ▸ tax_fit p.net p.bp)
   have c1 : ∀ (u : World) (i : Nat) (os : Array Obj),Calls Tryz.prog 98 #[.int .i64 p.net,.int .i64 p.bp] (grow (redrawn u i) os) fun e w'' => e = .returned (.tuple #[.int .i64 X,.int .i64 E]) ∧ ∃ q : Regrown,w'' = grow (redrawn u q.d) q.os := fun u i os => Calls.regrown_of ((tax_any p.net p.bp _ _ (Below.refl _ _) HSp.out.2.2.1 HSp.out.2.1).mono fun e w'' ⟨h1,h2⟩ => ⟨by rw [h1,hE,hX]; rfl,h2⟩)
   have HPp := Lib.hid hp
   rw [hX] at HTax
   obtain ⟨p0,p1,p2,p3⟩ := hPt
   have k1 := cell_regrown p1
   have k2 := cell_regrown p2
   clear hp hE hX
   go_wp2_with fail
   refine wp_region_quiet_below (by kernel_rfl) (by kernel_rfl) ?_
   repeat (first | go_big_quiet_step (first | (go_at_call 98; exact c1 _ _ _)) | quiet_step (first | (go_at_call 98; exact c1 _ _ _)))
   refine wpQuiet_nil ?_
   intro _ hw'
   obtain ⟨⟨dq,osq⟩,hw''⟩ := hw'
   subst hw''
   have H1 := Lib.hid (H.out.below (below_regrown wz dq osq))
   clear H r5 r6 r7 r8 p0 p1 p2 p3 k1 k2 hfz hpz c1
   generalize grow (redrawn wz dq) osq = w1 at *
   by_cases hE0 : E = 0
   ·
    subst hE0
    obtain ⟨hPt,hpz⟩ := H1.out.part j hjt
    have p3 := hPt.c3
    have z3 := hpz (j * 4 + 3)
    have H2 := Lib.hid (HTax.out w1 H1.out)
    clear hPt hpz
    obtain ⟨W2,hW2⟩ : ∃ W2,w1.setCell ⟨pg,j * 4 + 3,none⟩ (.int .i64 X) = W2 := ⟨_,rfl⟩
    rw [hW2] at H2
    have hrow := H2.out.row
    rw [HR.out] at hrow
    unfold Im.rTot at hrow
    have r5 := hrow.1.c5
    have z5 := hrow.2 (k * 12 + 5)
    have hpt := HPart.out _ H2.out
    unfold Im.partF at hpt
    have p2 := hpt.c2
    simp only at r5 p2
    clear hrow hpt
    have H3 : Hid (∀ u,Im.TSt w u g pg k A B n cap pn pc rs ts hk (j + 1) N T → Im.TSt w (u.setCell ⟨g,k * 12 + 5,none⟩ (.int .i64 (Im.wr (N + p.net)))) g pg k A B n cap pn pc rs ts hk (j + 1) (Im.wr (N + p.net)) T) := Lib.hid fun u h => h.net hne _
    go_wp2_with fail
    go_cut [] (fun wx => Hid (Im.TSt w wx g pg k A B n cap pn pc rs ts hk (j + 1) (Im.wr (N + p.net)) T))
    case first =>
     go_region
     all_goals (try go_wp2_with fail)
     all_goals go_meet
     all_goals exact Lib.hid (by rw [Im.wr64]; exact (H3.out _ H2.out).below (Below.refl _ _).drew)
    case rest =>
     have H4 := hcut
     clear hcut H3 H2 hW2 p3 z3 r5 z5 p2
     have hrow := H4.out.row
     rw [HR.out] at hrow
     unfold Im.rTot at hrow
     have r6 := hrow.1.c6
     have z6 := hrow.2 (k * 12 + 6)
     have hpt := (H4.out.part j hjt).1
     rw [Im.mix_get,if_pos (Nat.lt_succ_self j)] at hpt
     have p3 := hpt.c3
     have e3 : (Im.pF j ts[j]).tax = X := by rw [HPp.out]; exact HXx.out
     rw [e3] at p3
     simp only at r6
     clear hrow hpt e3
     have H5 : Hid (∀ u,Im.TSt w u g pg k A B n cap pn pc rs ts hk (j + 1) (Im.wr (N + p.net)) T → Im.TSt w (u.setCell ⟨g,k * 12 + 6,none⟩ (.int .i64 (Im.wr (T + X)))) g pg k A B n cap pn pc rs ts hk (j + 1) (Im.wr (N + p.net)) (Im.wr (T + X))) := Lib.hid fun u h => h.txs hne _
     go_wp2_with fail
     go_region
     all_goals (try go_wp2_with fail)
     all_goals
      have H6 := Lib.hid ((H5.out _ H4.out).below (Below.refl _ _).drew)
      rw [Im.wr64]
      go_roundw
      case rel =>
       refine ⟨j + 1,Im.wr (N + p.net),Im.wr (T + X),by omega,by go_num,H6,Lib.hid ⟨?_,?_,?_⟩⟩
       · rw [HTk.out,Im.netW_snoc,HI.out.1]
       ·
        rw [HTk.out,List.map_append,List.map_cons,List.map_nil,Im.taxW_snoc,HI.out.2.1,← HXx.out]
        rfl
       ·
        rw [HTk.out]
        intro x hx
        rcases List.mem_append.1 hx with h | h
        · exact HI.out.2.2 x h
        ·
         rw [List.mem_singleton.1 h]
         exact HEx.out
      case measure => simp [intOf]; omega
   ·
    have qe : (E != 0) = true := bne_iff_ne.2 hE0
    have HE0 := Lib.hid hE0
    clear hE0
    go_wp2_with fail
    go_ret
    exact ⟨.inr ⟨rfl,p,HMem.out,by rw [HEx.out]; exact HE0.out⟩,H1.out.upd⟩
  ·
   obtain rfl : j = pn := by omega
   have HAll : Hid (ts.take j = ts) := Lib.hid (List.take_of_length_le (Nat.le_of_eq HN.out.symm))
   have z7 := hfz (k * 12 + 7)
   have HG : Hid (∀ u,Im.TSt w u g pg k A B n cap j pc rs ts hk j N T → _) := Lib.hid fun u h => h.gross hne (Im.wr (N + T))
   go_wp2_with fail
   go_cut [] (fun wx => Hid (Pd.Own wx A (.slice (some ⟨g,0,none⟩) n cap) (rs.set k (Im.rTot rs[k] N T (Im.wr (N + T)))) ∧ Pt.Own wx B (.slice (some ⟨pg,0,none⟩) j pc) (Im.mix Im.pF j ts) ∧ UpdQ (fun b => b = g ∨ b = pg) w wx))
   case first =>
    go_region
    all_goals (try go_wp2_with fail)
    all_goals go_meet
    all_goals exact Lib.hid (by
     rw [Im.wr64]
     have hh := HG.out _ H.out
     exact ⟨Pd.own_below hh.1 (Below.refl _ _).drew,Pt.own_below hh.2.1 (Below.refl _ _).drew,hh.2.2.belowT (Below.refl _ _).drew⟩)
   case rest =>
    have H6 := hcut
    clear hcut
    go_wp2_with fail
    go_ret
    have h1 := HI.out
    rw [HAll.out] at h1
    refine ⟨.inl ⟨rfl,h1.2.2,?_,?_⟩,H6.out.2.2⟩
    ·
     rw [HR.out,← h1.1,← h1.2.1,← HR.out]
     exact H6.out.1
    ·
     rw [← Im.pF_map,← Im.mix_full (k := j) (Nat.le_of_eq HN.out.symm)]
     exact H6.out.2.1
set_option maxHeartbeats 4000000 in
theorem img_total_nil (rs : List Pd.T) (k g n cap A : Nat) (hk : k < rs.length) (w : World) (hO : Pd.Own w A (.slice (some ⟨g,0,none⟩) n cap) rs) (hr : rs[k].parts = ⟨none,0,0⟩) :
  Calls Tryz.prog 56 #[.pointer (some ⟨g,k * 12 + 5,none⟩)] w fun e w' => e = .returned (.bool true) ∧ Pd.Own w' A (.slice (some ⟨g,0,none⟩) n cap) (rs.set k (Im.rTot rs[k] rs[k].net rs[k].tax (Im.wr (rs[k].net + rs[k].tax)))) ∧ UpdQ (· = g) w w' := by
 obtain ⟨hAt,hf,_⟩ := Pd.own_at hO k hk
 have HPut : Hid (∀ u,Below w.heap.size w u → Pd.Own (u.setCell ⟨g,k * 12 + 7,none⟩ (.int .i64 (Im.wr (rs[k].net + rs[k].tax)))) A (.slice (some ⟨g,0,none⟩) n cap) (rs.set k (Im.rTot rs[k] rs[k].net rs[k].tax (Im.wr (rs[k].net + rs[k].tax)))) ∧ UpdQ (· = g) w (u.setCell ⟨g,k * 12 + 7,none⟩ (.int .i64 (Im.wr (rs[k].net + rs[k].tax))))) := Lib.hid fun u hu => ⟨Pd.own_put (Pd.own_below hO hu) k 7 hk (by omega) _ _ rfl,(UpdQ.of hu).trans (UpdQ.set (Q := (· = g)) u rfl _ _)⟩
 obtain ⟨R,hR⟩ : ∃ R,rs[k] = R := ⟨_,rfl⟩
 rw [hR] at hAt HPut hr
 have r5 := hAt.c5
 have r6 := hAt.c6
 have r7 := hAt.c7
 have r8 := hAt.c8
 rw [hr] at r8
 simp only at r8
 have z7 := hf (k * 12 + 7)
 have HR := Lib.hid hR
 clear hO hr hAt hf hR
 go_enter Tryz.func56,Tryz.ntmps56
 go_wp2_with fail
 go_loopw [3,4,5,6,12] (fun _ _ _ _ i wr => i = .int .i64 0 ∧ wr = w) (fun _ _ _ _ i _ => 0)
 case atStart => exact ⟨rfl,rfl⟩
 case round =>
  rename World => wz
  obtain ⟨rfl,hwz⟩ := hrel
  subst hwz
  go_wp2_with fail
  go_cut [] (fun wx => Hid (Pd.Own wx A (.slice (some ⟨g,0,none⟩) n cap) (rs.set k (Im.rTot R R.net R.tax (Im.wr (R.net + R.tax)))) ∧ UpdQ (· = g) wz wx))
  case first =>
   go_region
   all_goals (try go_wp2_with fail)
   all_goals go_meet
   all_goals exact Lib.hid (by
    rw [Im.wr64]
    have hh := HPut.out _ (Below.refl _ _)
    exact ⟨Pd.own_below hh.1 (Below.refl _ _).drew,hh.2.belowT (Below.refl _ _).drew⟩)
  case rest =>
   have H6 := hcut
   clear hcut
   go_wp2_with fail
   go_ret
   refine ⟨rfl,?_,H6.out.2⟩
   rw [HR.out]
   exact H6.out.1
end Go.Proofs.YtillcleccjgocaaGreat
namespace Go.Proofs.YtillcleccjgocaaGreat
open Go.RowKit
section
variable {P : Program} {ops : Array Oper} {Q : Exit → Act → World → Prop} {md : Region.Mode} {S : World → Prop} {x : Nat}
def waits (md : Region.Mode) (ops : Array Oper) (x i : Nat) : Bool := match ops[x]? with
 | some o => o.after.any fun e => Region.binds md e && e.on == i
 | none => true
end
end Go.Proofs.YtillcleccjgocaaGreat
namespace Go.Proofs.YtillcleccjgocaaGreat
open Go.RowKit
section
variable {P : Program} {ops : Array Oper} {Q : Exit → Act → World → Prop} {md : Region.Mode} {S : World → Prop} {x : Nat}
def anyG (P : Program) (md : Region.Mode) (ops : Array Oper) (Q : Exit → Act → World → Prop) (S : World → Prop) (x : Nat) : Nat → Array Bool → Act → World → Prop
 | 0,listed,a,w => Region.ready md ops listed = [] ∧ Q .normal a w
 | n + 1,listed,a,w => (Region.ready md ops listed = [] → Q .normal a w) ∧
  ∀ i ∈ Region.ready md ops listed,wpOp P ops Q i (fun a' w' => (x ≤ i ∨ S w') ∧ anyG P md ops Q S x n (listed.setIfInBounds i true) a' w') a w
theorem any_of_g : ∀ (n : Nat) (listed : Array Bool) (a : Act) (w : World),anyG P md ops Q S x n listed a w → wpAny P md ops Q n listed a w
 | 0,_,_,_,h => h
 | n + 1,_,_,_,h => ⟨h.1,fun i hi => wpOp_mono (fun a' w' k => any_of_g n _ a' w' k.2) (h.2 i hi)⟩
def waitsG (md : Region.Mode) (ops : Array Oper) (x i : Nat) (D : List Nat) : Bool := (D.all fun k => waits md ops k i || D.any fun m => waits md ops k m) && ((List.range ops.size).all fun j => decide (j < x) || D.contains j)
def openG (listed : Array Bool) (D : List Nat) : Bool := D.all fun k => listed.getD k true == false
theorem not_ready_of {i j : Nat} {listed : Array Bool} (hw : waits md ops j i = true) (hu : listed.getD i true = false) : j ∉ Region.ready md ops listed := by
 intro hx
 obtain ⟨_,ox,hox,hall⟩ := mem_ready.1 hx
 unfold waits at hw
 rw [hox] at hw
 simp only [Array.any_eq_true] at hw
 obtain ⟨k,hk,hb⟩ := hw
 rw [Bool.and_eq_true,beq_iff_eq] at hb
 have h1 := hall _ (Array.getElem_mem hk) hb.1
 rw [hb.2] at h1
 rcases Nat.lt_or_ge i listed.size with h' | h'
 ·
  simp [h'] at hu h1
  rw [hu] at h1
  cases h1
 · simp [Array.getElem?_eq_none h'] at h1
theorem not_readyG {i j : Nat} {listed : Array Bool} {D : List Nat} (hw : waitsG md ops x i D = true) (ho : openG listed D = true) (hr : i ∈ Region.ready md ops listed) (hj : j ∈ Region.ready md ops listed) : j ∉ D ∧ ¬ x ≤ j := by
 unfold waitsG at hw
 rw [Bool.and_eq_true] at hw
 have hD : j ∉ D := by
  intro hd
  have h1 := List.all_eq_true.1 hw.1 j hd
  rw [Bool.or_eq_true] at h1
  rcases h1 with h1 | h1
  · exact not_ready_of h1 (mem_ready.1 hr).1 hj
  ·
   obtain ⟨m,hm,h2⟩ := List.any_eq_true.1 h1
   unfold openG at ho
   have h3 := List.all_eq_true.1 ho m hm
   exact not_ready_of h2 (beq_iff_eq.1 h3) hj
 refine ⟨hD,fun hx => ?_⟩
 obtain ⟨_,oj,hoj,_⟩ := mem_ready.1 hj
 obtain ⟨hlt,_⟩ := Array.getElem?_eq_some_iff.1 hoj
 have h1 := List.all_eq_true.1 hw.2 j (List.mem_range.2 hlt)
 rw [Bool.or_eq_true,decide_eq_true_iff] at h1
 rcases h1 with h1 | h1
 · omega
 · exact hD (by simpa using h1)
theorem openG_set {listed : Array Bool} {D : List Nat} {j : Nat} (h : openG listed D = true) (hj : j ∉ D) : openG (listed.setIfInBounds j true) D = true := by
 unfold openG at h ⊢
 refine List.all_eq_true.2 fun k hk => ?_
 have h1 := List.all_eq_true.1 h k hk
 have hne : j ≠ k := fun e => hj (e ▸ hk)
 rw [getD_set_ne true hne]
 exact h1
theorem anyG_first {i : Nat} {oi : Oper} {v : Value} (hi : ops[i]? = some oi) (hsel : ∀ (j : Nat) (o : Oper) cs b,ops[j]? = some o → o.op ≠ .select cs b)
  (hQ : ∀ c a w,Q (.panic c) (a.put oi.dst v) w → Q (.panic c) a w) {D : List Nat} (hwt : waitsG md ops x i D = true) :
  ∀ (n : Nat) (listed : Array Bool) (a : Act) (w : World),openG listed D = true →
   (∀ j oj,ops[j]? = some oj → j ≠ i → listed.getD j true = false → (∀ e ∈ oj.after,Region.binds md e = true → e.on ≠ i) → oi.apart ops oj = true) →
   i ∈ Region.ready md ops listed → YieldsIf P ops S oi v a → S w →
   anyG P md ops Q S x n (listed.setIfInBounds i true) (a.put oi.dst v) w → anyG P md ops Q S x (n + 1) listed a w := by
 intro n
 induction n with
 | zero =>
  intro listed a w _ _ hr hy hS H
  refine ⟨fun h => (by rw [h] at hr; cases hr),fun j hj => ?_⟩
  by_cases e : j = i
  ·
   subst e
   exact hy.wpOp hi hS ⟨.inr hS,H⟩
  ·
   have k := ready_mono hj e
   rw [H.1] at k
   cases k
 | succ n ih =>
  intro listed a w ho hfree hr hy hS H
  refine ⟨fun h => (by rw [h] at hr; cases hr),fun j hj => ?_⟩
  by_cases e : j = i
  ·
   subst e
   exact hy.wpOp hi hS ⟨.inr hS,H⟩
  ·
   obtain ⟨hjD,hjx⟩ := not_readyG hwt ho hr hj
   have h1 := H.2 j (ready_mono hj e)
   obtain ⟨hjun,oj,hoj,hall⟩ := mem_ready.1 hj
   have hnot : ∀ e ∈ oj.after,Region.binds md e = true → e.on ≠ i := fun e he hb heq => by
    have h1 := hall e he hb
    have h0 := (mem_ready.1 hr).1
    rw [heq] at h1
    rcases Nat.lt_or_ge i listed.size with h' | h'
    ·
     simp [h'] at h0 h1
     rw [h0] at h1
     cases h1
    · simp [Array.getElem?_eq_none h'] at h1
   have h2 := wpOp_putIf hoj (hfree j oj hoj e hjun hnot) (fun cs b => hsel i oi cs b hi) (fun cs b => hsel j oj cs b hoj) hQ hy h1
   refine wpOp_mono (fun a' w' h3 => ?_) h2
   have hS' : S w' := h3.2.1.resolve_left hjx
   refine ⟨.inr hS',ih (listed.setIfInBounds j true) a' w' (openG_set ho hjD) ?_ (ready_mono hr (Ne.symm e)) h3.1 hS' ?_⟩
   ·
    intro k ok hk hki hun hno
    refine hfree k ok hk hki ?_ hno
    by_cases hjk : j = k
    ·
     subst hjk
     exact hjun
    ·
     rw [getD_set_ne true hjk] at hun
     exact hun
   ·
    rw [Array.setIfInBounds_comm _ _ e]
    exact h3.2.2
theorem anyG_done {listed : Array Bool} {a : Act} {w : World} (hr : Region.ready md ops listed = []) (h : Q .normal a w) : ∀ n,anyG P md ops Q S x n listed a w
 | 0 => ⟨hr,h⟩
 | _ + 1 => ⟨fun _ => h,by rw [hr]; simp⟩
end
theorem Bl.tkG {ops : Array Oper} {Q : Exit → Act → World → Prop} {S : World → Prop} {x i : Nat} {oi : Oper} {v : Value} {fuel : Nat} {l : List Bool} {a : Act} {w : World} (hi : ops[i]? = some oi) (hs : Region.noSelect ops = true) (ht : Bl.tk ops l i = true) {D : List Nat} (hwt : (waitsG .any ops x i D && openG l.toArray D) = true)
  (hQ : ∀ c a w,Q (.panic c) (Act.put a oi.dst v) w → Q (.panic c) a w) (hy : YieldsIf Tryz.prog ops S oi v a) (hS : S w)
  (h : anyG Tryz.prog .any ops Q S x fuel (l.set i true).toArray (a.put oi.dst v) w) : anyG Tryz.prog .any ops Q S x (fuel + 1) l.toArray a w := by
 unfold Bl.tk at ht
 rw [Bool.and_eq_true] at ht
 rw [Bool.and_eq_true] at hwt
 refine anyG_first hi (Region.noSelect_spec hs) hQ hwt.1 fuel _ a w hwt.2 (Region.free_spec hi ht.1) (by simpa using ht.2) hy hS ?_
 simpa using h
theorem Bl.oneG {ops : Array Oper} {Q : Exit → Act → World → Prop} {S : World → Prop} {x i : Nat} {oi : Oper} {fuel : Nat} {l : List Bool} {a : Act} {w : World} (hi : ops[i]? = some oi) (hr : Region.ready .any ops l.toArray = [i])
  (h : ∀ K' : Act → World → Prop,Shut (∀ a w,(x ≤ i ∨ S w) → anyG Tryz.prog .any ops Q S x fuel (l.set i true).toArray a w → K' a w) → if Region.wanted oi (yielded ops a.tmps) = true then Oper.wp Tryz.prog oi a w K' Q else K' (a.put oi.dst undef) w) :
  anyG Tryz.prog .any ops Q S x (fuel + 1) l.toArray a w := by
 refine ⟨fun k => (by rw [hr] at k; cases k),fun j hj => ?_⟩
 rw [hr] at hj
 obtain rfl := List.mem_singleton.1 hj
 refine wpOp_step hi (fun K' hK => h K' fun a w hS hW => hK a w ⟨hS,?_⟩)
 simpa using hW
theorem Bl.startG {ops : Array Oper} {Q : Exit → Act → World → Prop} {S : World → Prop} {x id : Nat} {a : Act} {w : World} (h : anyG Tryz.prog .any ops Q S x ops.size (Array.replicate ops.size false) a w.drew) : (Code.region id ops true).wp Tryz.prog Q a w :=
 wp_region_any (by kernel_rfl) (any_of_g _ _ _ _ h)
end Go.Proofs.YtillcleccjgocaaGreat
namespace Go.Proofs.YtillcleccjgocaaGreat
open Go.RowKit
open Mem
open Go.Sort (grow)
def Bl.YesE (w0 : World) (P : Prop) (e : Ending) (w' : World) : Prop := (P ∧ e = .returned (.bool true) ∨ ¬ P ∧ e = .returned (.bool false)) ∧ Below w0.heap.size w0 w'
def Bl.AttR (l : List Sn.T) (x : Int) : Prop := (1 ≤ x ∧ x ≤ 1099511627776) ∧ Sp.rightB l = true ∧ ∀ s ∈ l,s.id < x
set_option maxHeartbeats 4000000 in
theorem bil_attended (ls : List Sn.T) (x : Int) (ao : Option Addr) (n cap : Nat) (w0 w : World) (hw : Below w0.heap.size w0 w) (hL : Sn.Ls w ao n cap ls) :
  Calls Tryz.prog 30 #[.slice ao n cap,.int .i64 x] w (Bl.YesE w0 (Bl.AttR ls x)) := by
 have HW := Lib.hid hw
 have HL := Lib.hid hL
 have HN := Lib.hid hL.len
 have hcap := hL.reach
 have hfit := hL.fits
 clear hL hw
 by_cases h1 : x < 1
 ·
  have d1 : decide (x < 1) = true := decide_eq_true h1
  have HNo : Hid (¬ Bl.AttR ls x) := Lib.hid fun z => by have := z.1; omega
  clear h1
  go_enter Tryz.func30,Tryz.ntmps30
  go_wp2_with fail
  go_ret
  exact ⟨.inr ⟨HNo.out,rfl⟩,HW.out⟩
 ·
  have d1 : decide (x < 1) = false := decide_eq_false h1
  by_cases h2 : 1099511627776 < x
  ·
   have d2 : decide (1099511627776 < x) = true := decide_eq_true h2
   have HNo : Hid (¬ Bl.AttR ls x) := Lib.hid fun z => by have := z.1; omega
   clear h1 h2
   go_enter Tryz.func30,Tryz.ntmps30
   go_wp2_with fail
   go_ret
   exact ⟨.inr ⟨HNo.out,rfl⟩,HW.out⟩
  ·
   have d2 : decide (1099511627776 < x) = false := decide_eq_false h2
   have HX : Hid (1 ≤ x ∧ x ≤ 1099511627776) := Lib.hid ⟨by omega,by omega⟩
   clear h1 h2
   go_enter Tryz.func30,Tryz.ntmps30
   go_wp2_with fail
   refine (ses_right ls ao n cap w w (Below.refl _ _) HL.out).mono ?_
   rintro e w1 ⟨rfl,b1⟩
   have HB1 := Lib.hid b1
   clear b1 d1 d2
   cases hr : Sp.rightB ls
   ·
    have HNo : Hid (¬ Bl.AttR ls x) := Lib.hid fun z => by have := z.2.1; rw [hr] at this; cases this
    clear hr
    go_wp2_with fail
    go_ret
    exact ⟨.inr ⟨HNo.out,rfl⟩,bchain HW.out HB1.out⟩
   ·
    have HRt := Lib.hid hr
    clear hr
    go_wp2_with fail
    go_loopw [6,20] (fun _ j wr => ∃ k : Nat,k ≤ n ∧ j = .int .i64 k ∧ Hid (∀ s ∈ ls.take k,s.id < x) ∧ Hid (Below w.heap.size w wr)) (fun _ j _ => n - (intOf j).toNat)
    case atStart => exact ⟨0,by omega,rfl,Lib.hid (fun _ h => by cases h),HB1⟩
    case round =>
     obtain ⟨k,hk,rfl,HT,HB⟩ := hrel
     by_cases hlt : k < n
     ·
      obtain ⟨b,off,rfl⟩ := HL.out.at (by omega)
      have hkl : k < ls.length := HN.out ▸ hlt
      have HM := Lib.hid (List.getElem_mem hkl)
      have HS := Lib.hid (List.take_succ_eq_append_getElem hkl)
      have hrow := (HL.out.row k hkl).below HB.out
      obtain ⟨r,hr⟩ : ∃ r,ls[k] = r := ⟨_,rfl⟩
      rw [hr] at hrow HM HS
      clear hr
      obtain ⟨g0,g1,g2,g3,g4⟩ := hrow
      obtain ⟨W,hW,hbW,hA⟩ := Sn.boxed1 wr r
      have HBW := Lib.hid (bchain HB.out hbW)
      clear hbW
      unfold Sn.C at hA
      obtain ⟨a0,a1,a2,a3,a4⟩ := hA
      by_cases he : x ≤ r.id
      ·
       have q : decide (x ≤ r.id) = true := decide_eq_true he
       have HNo : Hid (¬ Bl.AttR ls x) := Lib.hid fun z => by have := z.2.2 r HM.out; omega
       clear he
       go_wp2_with fail
       go_ret
       exact ⟨.inr ⟨HNo.out,rfl⟩,bchain HW.out HBW.out⟩
      ·
       have q : decide (x ≤ r.id) = false := decide_eq_false he
       have HId : Hid (r.id < x) := Lib.hid (by omega)
       clear he
       go_wp2_with fail
       go_roundw
       case rel =>
        refine ⟨k + 1,by omega,by go_num,Lib.hid ?_,HBW⟩
        rw [HS.out]
        intro y hy
        rcases List.mem_append.1 hy with h | h
        · exact HT.out y h
        ·
         rw [List.mem_singleton.1 h]
         exact HId.out
       case measure => simp [intOf]; omega
     ·
      obtain rfl : k = n := by omega
      have HYes : Hid (Bl.AttR ls x) := Lib.hid ⟨HX.out,HRt.out,by
       have h := HT.out
       rw [List.take_of_length_le (by rw [HN.out]; exact Nat.le_refl _)] at h
       exact h⟩
      go_wp2_with fail
      go_ret
      exact ⟨.inl ⟨HYes.out,rfl⟩,bchain HW.out HB.out⟩
set_option maxHeartbeats 4000000 in
theorem bil_numbered (ps : List Bl.Ps) (rs : List Pd.T) (os : List Sr.T) (ao bo : Option Addr) (n ca m cb : Nat) (w0 w : World) (hw : Below w0.heap.size w0 w) (hL : Pd.Ls w ao n ca rs) (hE : Bl.Each w rs ps) (hO : Sr.Ls w bo m cb os) (hR : Se.rightB os = true) (hn : n ≤ 1000) :
  Calls Tryz.prog 31 #[.slice ao n ca,.slice bo m cb] w (Bl.YesE w0 (Bl.NumR ps os)) := by
 have HW := Lib.hid hw
 have HL := Lib.hid hL
 have HN : Hid (n = ps.length) := Lib.hid (by rw [hL.len,hE.len])
 have HE := Lib.hid hE
 have HO := Lib.hid hO
 have HM := Lib.hid hO.len
 have HSr := Lib.hid ((Se.right_iff _).1 hR)
 have hcap := hO.reach
 have hfit := hO.fits
 have hm8 : m ≤ 8 := by have := hO.len; have := ((Se.right_iff _).1 hR).1; omega
 clear hL hw hE hO hR
 go_enter Tryz.func31,Tryz.ntmps31
 go_wp2_with fail
 go_loopw [5,7,8,9,12] (fun a _ _ _ j wr => ∃ k t : Nat,k ≤ m ∧ t ≤ k * 1000 ∧ j = .int .i64 k ∧ a = .int .i64 t ∧ Hid ((∀ r ∈ os.take k,Bl.CntOk r.name ps ∧ (Bl.cnt r.name ps : Int) = r.next - 1) ∧ Bl.cntAll ps (os.take k) = t) ∧ Hid (Below w.heap.size w wr)) (fun _ _ _ _ j _ => m - (intOf j).toNat)
 case atStart => exact ⟨0,0,by omega,by omega,rfl,rfl,Lib.hid ⟨fun _ h => (by cases h),rfl⟩,Lib.hid (Below.refl _ _)⟩
 case round =>
  obtain ⟨k,t,hk,htk,rfl,rfl,HT,HB⟩ := hrel
  by_cases hlt : k < m
  ·
   obtain ⟨b,off,rfl⟩ := HO.out.at (by omega)
   have hkl : k < os.length := HM.out ▸ hlt
   have HMe := Lib.hid (List.getElem_mem hkl)
   have HS := Lib.hid (List.take_succ_eq_append_getElem hkl)
   have HCt := Lib.hid (Bl.cntAll_take ps os k hkl)
   have hrow := (HO.out.row k hkl).below HB.out
   obtain ⟨r,hr⟩ : ∃ r,os[k] = r := ⟨_,rfl⟩
   rw [hr] at hrow HMe HS HCt
   clear hr
   obtain ⟨g0,g1,g2,g3⟩ := hrow
   obtain ⟨W,hW,hbW,hA⟩ := Sr.boxed1 wr r
   have HBW := Lib.hid (bchain HB.out hbW)
   have HCW := Lib.hid hA
   clear hbW
   unfold Sr.C at hA
   obtain ⟨a0,a1,a2,a3⟩ := hA
   have hso := Se.sound_iff.1 (HSr.out.2.1 r HMe.out)
   have hli := Se.lim_iff.1 hso.2.1
   have hb1 : -9223372036854775808 ≤ r.next - 1 := by have := hso.2.2.1; omega
   have hb2 : r.next - 1 ≤ 9223372036854775807 := by have := hso.2.2.2; omega
   clear hso hli
   go_wp2_with fail
   clear hW
   refine (bil_count ps rs r.name ao n ca W W (Below.refl _ _) (HL.out.below HBW.out) (HE.out.below HBW.out)).mono ?_
   rintro e w2 ⟨hcase,b2⟩
   have HB2 := Lib.hid (bchain HBW.out b2)
   have hA2 := HCW.out.below b2
   unfold Sr.C at hA2
   clear a0 a1 a2 a3 g0 g1 g2 g3
   obtain ⟨a0,a1,a2,a3⟩ := hA2
   have hcl := Bl.cnt_len r.name ps
   have HCl : Hid (Bl.cnt r.name ps ≤ n) := Lib.hid (by rw [HN.out]; exact hcl)
   clear b2 hcl
   rcases hcase with ⟨hok,rfl⟩ | ⟨hno,rfl⟩
   ·
    have HOk := Lib.hid hok
    clear hok
    obtain ⟨q,hq⟩ : ∃ q,Bl.cnt r.name ps = q := ⟨_,rfl⟩
    have HQ := Lib.hid hq
    rw [hq] at HCl HCt ⊢
    clear hq
    have hql := HCl.out
    have hb3 : k * 1000 ≤ 7000 := by omega
    by_cases he : (q : Int) = r.next - 1
    ·
     have qe : ((q : Int) == r.next - 1) = true := beq_iff_eq.2 he
     have HEq := Lib.hid he
     clear he
     go_wp2_with fail
     go_roundw
     case rel =>
      refine ⟨k + 1,t + q,by omega,by omega,by go_num,by go_num,Lib.hid ⟨?_,by rw [HCt.out,HT.out.2]⟩,HB2⟩
      rw [HS.out]
      intro y hy
      rcases List.mem_append.1 hy with h | h
      · exact HT.out.1 y h
      ·
       rw [List.mem_singleton.1 h]
       exact ⟨HOk.out,by rw [HQ.out]; exact HEq.out⟩
     case measure => simp [intOf]; omega
    ·
     have qe : ((q : Int) == r.next - 1) = false := beq_eq_false_iff_ne.2 he
     have HNo : Hid (¬ Bl.NumR ps os) := Lib.hid fun z => he (by rw [← HQ.out]; exact (z.each r HMe.out).2)
     clear he
     go_wp2_with fail
     go_ret
     exact ⟨.inr ⟨HNo.out,rfl⟩,bchain HW.out HB2.out⟩
   ·
    have HNo : Hid (¬ Bl.NumR ps os) := Lib.hid fun z => hno (z.each r HMe.out).1
    clear hno
    go_wp2_with fail
    go_ret
    exact ⟨.inr ⟨HNo.out,rfl⟩,bchain HW.out HB2.out⟩
  ·
   obtain rfl : k = m := by omega
   have HA : Hid ((∀ r ∈ os,Bl.CntOk r.name ps ∧ (Bl.cnt r.name ps : Int) = r.next - 1) ∧ Bl.cntAll ps os = t) := Lib.hid (by
    have h := HT.out
    rw [List.take_of_length_le (by rw [HM.out]; exact Nat.le_refl _)] at h
    exact h)
   by_cases he : t = n
   ·
    have qe : ((t : Int) == (n : Int)) = true := beq_iff_eq.2 (by omega)
    have HYes : Hid (Bl.NumR ps os) := Lib.hid ⟨HA.out.1,by rw [HA.out.2,he,HN.out]⟩
    clear he
    go_wp2_with fail
    go_ret
    exact ⟨.inl ⟨HYes.out,rfl⟩,bchain HW.out HB.out⟩
   ·
    have qe : ((t : Int) == (n : Int)) = false := beq_eq_false_iff_ne.2 (by omega)
    have HNo : Hid (¬ Bl.NumR ps os) := Lib.hid fun z => he (by rw [← HA.out.2,z.all,HN.out])
    clear he
    go_wp2_with fail
    go_ret
    exact ⟨.inr ⟨HNo.out,rfl⟩,bchain HW.out HB.out⟩
end Go.Proofs.YtillcleccjgocaaGreat
namespace Go.Proofs.YtillcleccjgocaaGreat
open Go.RowKit
open Mem
open Go.Sort (grow)
theorem add_two (x y c : Int) (hx : 0 ≤ x) (hy : 0 ≤ y) (hc0 : 0 ≤ c) (hc : c ≤ 1) (w : World) : (callFunc 155 #[.int .u64 x,.int .u64 y,.int .u64 c]).run Tryz.prog w = .ok (.value (.tuple #[.int .u64 ((x + y + c) % 18446744073709551616),.int .u64 ((x + y + c) / 18446744073709551616)])) w := by
 rw [run_callFunc_extern Tryz.func155 (by kernel_rfl) (by kernel_rfl) (by kernel_rfl) (e := add64Entry) (by kernel_rfl),run_add64 x y c hx hy hc0 hc]
 rfl
end Go.Proofs.YtillcleccjgocaaGreat
namespace Go.Proofs.YtillcleccjgocaaGreat
open Go.RowKit
open Mem
open Go.Sort (grow)
def Bl.hiW (s : Int) : Int := (s / 18446744073709551616) % 18446744073709551616
def Bl.loW (s : Int) : Int := s % 18446744073709551616
theorem Bl.w_bd (s : Int) : 0 ≤ Bl.hiW s ∧ Bl.hiW s < 18446744073709551616 ∧ 0 ≤ Bl.loW s ∧ Bl.loW s < 18446744073709551616 := by
 unfold Bl.hiW Bl.loW
 omega
theorem Bl.w_neg (s n : Int) : (Bl.loW s + (n + 18446744073709551616)) % 18446744073709551616 = Bl.loW (s + n) ∧ (Bl.hiW s + 18446744073709551615 + (Bl.loW s + (n + 18446744073709551616)) / 18446744073709551616) % 18446744073709551616 = Bl.hiW (s + n) := by
 unfold Bl.hiW Bl.loW
 omega
theorem Bl.w_pos (s n : Int) : (Bl.loW s + n) % 18446744073709551616 = Bl.loW (s + n) ∧ (Bl.hiW s + 0 + (Bl.loW s + n) / 18446744073709551616) % 18446744073709551616 = Bl.hiW (s + n) := by
 unfold Bl.hiW Bl.loW
 omega
theorem Bl.w_inj {a b : Int} (ha : -170141183460469231731687303715884105728 ≤ a ∧ a < 170141183460469231731687303715884105728) (hb : -170141183460469231731687303715884105728 ≤ b ∧ b < 170141183460469231731687303715884105728) : (Bl.hiW a = Bl.hiW b ∧ Bl.loW a = Bl.loW b) ↔ a = b := by
 constructor
 ·
  rintro ⟨h1,h2⟩
  unfold Bl.hiW at h1
  unfold Bl.loW at h2
  omega
 ·
  rintro rfl
  exact ⟨rfl,rfl⟩
set_option maxHeartbeats 4000000 in
theorem bil_plus (s n : Int) (w0 w : World) (hw : Below w0.heap.size w0 w) (hn : Fit n) :
  Calls Tryz.prog 118 #[.agg #[.int .u64 (Bl.hiW s),.int .u64 (Bl.loW s)],.int .i64 n] w fun e w' => e = .returned (.agg #[.int .u64 (Bl.hiW (s + n)),.int .u64 (Bl.loW (s + n))]) ∧ Below w0.heap.size w0 w' := by
 have HW := Lib.hid hw
 have HF := Lib.hid hn
 obtain ⟨b0,b1,b2,b3⟩ := Bl.w_bd s
 obtain ⟨U,hU,hB,k0,k1,hs⟩ := Bl.al2 w (.cells #[.int .u64 (Bl.hiW s),.int .u64 (Bl.loW s)] 188) (.cells #[.int .u64 0,.int .u64 0] 188)
 have c0 : U.cell? ⟨w.heap.size,0,none⟩ = some (.int .u64 (Bl.hiW s)) := by rw [cell_of_row U _ 0 _ _ _ k0]; rfl
 have c1 : U.cell? ⟨w.heap.size,1,none⟩ = some (.int .u64 (Bl.loW s)) := by rw [cell_of_row U _ 1 _ _ _ k0]; rfl
 have d0 : U.cell? ⟨w.heap.size + 1,0,none⟩ = some (.int .u64 0) := by rw [cell_of_row U _ 0 _ _ _ k1]; rfl
 have d1 : U.cell? ⟨w.heap.size + 1,1,none⟩ = some (.int .u64 0) := by rw [cell_of_row U _ 1 _ _ _ k1]; rfl
 have z0 : U.frozen? ⟨w.heap.size + 1,0,none⟩ = false := frozen_of_row U _ 0 _ _ k1
 have z1 : U.frozen? ⟨w.heap.size + 1,1,none⟩ = false := frozen_of_row U _ 1 _ _ k1
 have HB := Lib.hid hB
 have HE1 := Lib.hid (Bl.w_neg s n)
 have HE2 := Lib.hid (Bl.w_pos s n)
 obtain ⟨hi,hhi⟩ : ∃ hi,Bl.hiW s = hi := ⟨_,rfl⟩
 obtain ⟨lo,hlo⟩ : ∃ lo,Bl.loW s = lo := ⟨_,rfl⟩
 obtain ⟨hi',hhi'⟩ : ∃ x,Bl.hiW (s + n) = x := ⟨_,rfl⟩
 obtain ⟨lo',hlo'⟩ : ∃ x,Bl.loW (s + n) = x := ⟨_,rfl⟩
 rw [hhi,hlo,hhi',hlo'] at HE1 HE2
 rw [hhi] at b0 b1 hU c0 ⊢
 rw [hlo] at b2 b3 hU c1 ⊢
 rw [hhi',hlo']
 clear hw hn k0 k1 hs hB hhi hlo hhi' hlo'
 by_cases hneg : n < 0
 ·
  have e1 : IntKind.u64.wrap n = n + 18446744073709551616 := by
   rw [IntKind.wrap_u64]
   have := HF.out.1
   omega
  have e2 : n / 9223372036854775808 = -1 := by
   have := HF.out.1
   omega
  have e3 : IntKind.u64.wrap (-1) = 18446744073709551615 := by rw [IntKind.wrap_u64]; rfl
  have add1 := add_two lo (n + 18446744073709551616) 0 b2 (by have := HF.out.1; omega) (by omega) (by omega)
  have add2 := add_two hi 18446744073709551615 ((lo + (n + 18446744073709551616)) / 18446744073709551616) b0 (by omega) (by have := HF.out.1; omega) (by omega)
  rw [Int.add_zero] at add1
  rw [HE1.out.1] at add1
  rw [HE1.out.2] at add2
  obtain ⟨c,hc⟩ : ∃ c,(lo + (n + 18446744073709551616)) / 18446744073709551616 = c := ⟨_,rfl⟩
  rw [hc] at add1 add2
  clear hc HE1 HE2 hneg
  go_enter Tryz.func118,Tryz.ntmps118
  go_wp2_with (simp only [e3,add1,add2])
  exact bodyPost_ret (v := .agg #[.int .u64 hi',.int .u64 lo']) (by simp [results,Tryz.results118,go_sem,d0,d1]) rfl ⟨rfl,bset (bset (bchain HW.out HB.out) (by have := HW.out.size; omega) _ _) (by have := HW.out.size; omega) _ _⟩
 ·
  have e1 : IntKind.u64.wrap n = n := by
   rw [IntKind.wrap_u64]
   have := HF.out.2
   omega
  have e2 : n / 9223372036854775808 = 0 := by
   have := HF.out.2
   omega
  have add1 := add_two lo n 0 b2 (by omega) (by omega) (by omega)
  have add2 := add_two hi 0 ((lo + n) / 18446744073709551616) b0 (by omega) (by omega) (by have := HF.out.2; omega)
  rw [Int.add_zero] at add1
  rw [HE2.out.1] at add1
  rw [HE2.out.2] at add2
  obtain ⟨c,hc⟩ : ∃ c,(lo + n) / 18446744073709551616 = c := ⟨_,rfl⟩
  rw [hc] at add1 add2
  clear hc HE1 HE2 hneg
  go_enter Tryz.func118,Tryz.ntmps118
  go_wp2_with (simp only [add1,add2])
  exact bodyPost_ret (v := .agg #[.int .u64 hi',.int .u64 lo']) (by simp [results,Tryz.results118,go_sem,d0,d1]) rfl ⟨rfl,bset (bset (bchain HW.out HB.out) (by have := HW.out.size; omega) _ _) (by have := HW.out.size; omega) _ _⟩
end Go.Proofs.YtillcleccjgocaaGreat
