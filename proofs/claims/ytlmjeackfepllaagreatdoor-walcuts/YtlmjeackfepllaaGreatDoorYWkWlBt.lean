/- impostlaw18.between: A HARD THAT LIES BETWEEN TWO. (By genwlbt.py.) -/
import Derived.Test.YtlmjeackfepllaaGreatDoorZWk10
import Derived.Test.YtlmjeackfepllaaGreatDoorZWk8
import Derived.Deep.RegionHeld3
set_option maxRecDepth 100000
set_option linter.unusedVariables false
namespace Go.Proofs.YtlmjeackfepllaaGreatDoor.Wl
open Go.RowKit
open Mem
set_option maxHeartbeats 8000000 in
theorem lw_between (x a g : Hd.T) (xl al gl : List Et.T) (w : World) (hx : Et.Ls w x.log.ao x.log.n x.log.cap xl) (ha : Et.Ls w a.log.ao a.log.n a.log.cap al) (hg : Et.Ls w g.log.ao g.log.n g.log.cap gl) (hs : x.snap = .empty)
  (hP : Hd.h x xl = Hd.h a al ∨ Hd.h x xl = (Hd.h a al).vote' g.term g.vote ∨ ∃ m,m ≤ gl.length ∧ Hd.h x xl = (Hd.h g gl).with (gl.take m)) :
  Calls Tryz.prog 34 #[Hd.val x,Hd.val a,Hd.val g] w fun e w' => e = .returned (.bool true) ∧ Below w.heap.size w w' := by
 obtain ⟨W0,hW0,hbW0,hC0⟩ := Hd.boxed1 w x
 obtain ⟨W1,hW1,hbW1,hC1⟩ := Hd.boxed1 W0 a
 obtain ⟨W,hW,hbW,hC2⟩ := Hd.boxed1 W1 g
 have HB := Lib.hid (bchain hbW0 (bchain hbW1 hbW))
 have LZ0 : ∀ y,Below W.heap.size W y → Hd.C y w.heap.size x := fun y k => ((hC0.below hbW1).below hbW).below k
 have LZ1 : ∀ y,Below W.heap.size W y → Hd.C y W0.heap.size a := fun y k => (hC1.below hbW).below k
 have LZ2 : ∀ y,Below W.heap.size W y → Hd.C y W1.heap.size g := fun y k => hC2.below k
 have hlx := hx.below HB.out
 have hla := ha.below HB.out
 have hlg := hg.below HB.out
 have CA : ∀ u b,sameA (Hd.h x xl) (Hd.h a al) = b → Below W.heap.size W u → Calls Tryz.prog 14 #[Hd.val x,Hd.val a] u fun e w' => e = .returned (.bool b) ∧ Below W.heap.size W w' := fun u b e k => (rf_same x a xl al u (hlx.below k) (hla.below k)).mono fun e1 y z => ⟨by rw [z.1,e],bchain k z.2⟩
 have CG : ∀ u b,sameA (Hd.h x xl) (Hd.h g gl) = b → Below W.heap.size W u → Calls Tryz.prog 14 #[Hd.val x,Hd.val g] u fun e w' => e = .returned (.bool b) ∧ Below W.heap.size W w' := fun u b e k => (rf_same x g xl gl u (hlx.below k) (hlg.below k)).mono fun e1 y z => ⟨by rw [z.1,e],bchain k z.2⟩
 have CV : ∀ u b,sameA (Hd.h x xl) (Hd.h ⟨g.term,g.vote,a.base,a.bt,a.mem,⟨#[]⟩,a.log⟩ al) = b → Below W.heap.size W u → Calls Tryz.prog 14 #[Hd.val x,Hd.val ⟨g.term,g.vote,a.base,a.bt,a.mem,⟨#[]⟩,a.log⟩] u fun e w' => e = .returned (.bool b) ∧ Below W.heap.size W w' := fun u b e k => (rf_same x ⟨g.term,g.vote,a.base,a.bt,a.mem,⟨#[]⟩,a.log⟩ xl al u (hlx.below k) (hla.below k)).mono fun e1 y z => ⟨by rw [z.1,e],bchain k z.2⟩
 have HP := Lib.hid hP
 have HSx := Lib.hid hs
 have nx := hlx.len
 have na := hla.len
 have ng := hlg.len
 have fx := hlx.fits
 have rx := hlx.reach
 have fg := hlg.fits
 have rg := hlg.reach
 have CE : ∀ u,xl = gl.take xl.length → x.log.n ≤ g.log.n → Below W.heap.size W u → (∀ y,(Instr.slice 28 (.slice g.log.ao g.log.n g.log.cap) none (some (.int .i64 (x.log.n : Int))) none).run Tryz.prog y = .ok (.slice g.log.ao x.log.n g.log.cap) y) ∧ Calls Tryz.prog 76 #[.slice x.log.ao x.log.n x.log.cap,.slice g.log.ao x.log.n g.log.cap] u fun e w' => e = .returned (.bool true) ∧ Below W.heap.size W w' := fun u e hle k => by
  obtain ⟨h1,h2⟩ := (hlg.below k).to x.log.n hle
  refine ⟨h1,?_⟩
  rw [nx,← e] at h2
  rw [← nx] at h2
  exact (Et.same_rows xl _ _ _ _ _ u u (Below.refl _ _) (hlx.below k) h2).mono fun e1 y z => ⟨z.1,bchain k z.2⟩
 have HN := Lib.hid (And.intro nx (And.intro na ng))
 clear hx ha hg hlx hla hlg hC0 hC1 hC2 hbW0 hbW1 hbW hP hs nx na ng
 obtain ⟨xt,xv,xb,xbt,xm,xs,⟨xo,xn,xc⟩⟩ := x
 obtain ⟨at',av,ab,abt,am,as',⟨ao,an,ac⟩⟩ := a
 obtain ⟨gt',gv,gb,gbt,gm,gs,⟨go,gn,gc⟩⟩ := g
 unfold Hd.val at CA CG CV ⊢
 unfold Hd.C at LZ0 LZ1 LZ2
 dsimp only at CA CG CV CE LZ0 LZ1 LZ2 hW0 hW1 hW fx rx fg rg HP HSx HN ⊢
 have CA := Lib.hid CA
 have CG := Lib.hid CG
 have CV := Lib.hid CV
 have CE := Lib.hid CE
 have LZ := Lib.hid fun y (k : Below W.heap.size W y) => And.intro (LZ0 y k) (And.intro (LZ1 y k) (LZ2 y k))
 clear LZ0 LZ1 LZ2
 obtain ⟨⟨x0,x1,x2,x3,x4,x5,x6⟩,⟨a0,a1,a2,a3,a4,a5,a6⟩,g0,g1,g2,g3,g4,g5,g6⟩ := LZ.out W (Below.refl _ _)
 by_cases e1 : Hd.h ⟨xt,xv,xb,xbt,xm,xs,⟨xo,xn,xc⟩⟩ xl = Hd.h ⟨at',av,ab,abt,am,as',⟨ao,an,ac⟩⟩ al
 ·
  have C1 := Lib.hid (CA.out W true (sameA_iff.2 e1) (Below.refl _ _))
  clear e1 CE
  go_enter Tryz.func34,Tryz.ntmps34
  go_wp2_with fail
  refine C1.out.mono ?_
  rintro e u ⟨rfl,b1⟩
  have HB1 := Lib.hid b1
  clear b1
  go_wp2_with fail
  go_ret
  exact ⟨rfl,bchain HB.out HB1.out⟩
 have C1 := Lib.hid (CA.out W false (sameA_no e1) (Below.refl _ _))
 have E1 := Lib.hid e1
 clear e1
 by_cases e2 : Hd.h ⟨xt,xv,xb,xbt,xm,xs,⟨xo,xn,xc⟩⟩ xl = Hd.h ⟨gt',gv,gb,gbt,gm,gs,⟨go,gn,gc⟩⟩ gl
 ·
  have C2 := Lib.hid fun u => CG.out u true (sameA_iff.2 e2)
  clear e2
  go_enter Tryz.func34,Tryz.ntmps34
  go_wp2_with fail
  refine C1.out.mono ?_
  rintro e u1 ⟨rfl,b1⟩
  have HB1 := Lib.hid b1
  clear b1
  obtain ⟨⟨x0,x1,x2,x3,x4,x5,x6⟩,⟨a0,a1,a2,a3,a4,a5,a6⟩,g0,g1,g2,g3,g4,g5,g6⟩ := LZ.out u1 HB1.out
  go_wp2_with fail
  refine (C2.out _ HB1.out).mono ?_
  rintro e u2 ⟨rfl,b1⟩
  have HB2 := Lib.hid b1
  clear b1
  go_wp2_with fail
  go_ret
  exact ⟨rfl,bchain HB.out HB2.out⟩
 have C2 := Lib.hid fun u => CG.out u false (sameA_no e2)
 clear e2
 have HQ : Hid (xt = gt' ∧ xv = gv) := Lib.hid (by
  rcases HP.out with z | z | ⟨m,_,z⟩
  · exact absurd z E1.out
  · exact ⟨congrArg H.term z,congrArg H.vote z⟩
  · exact ⟨congrArg H.term z,congrArg H.vote z⟩)
 obtain ⟨hq1,hq2⟩ := HQ.out
 have q1 : (xt != gt') = false := by rw [hq1]; exact bne_self_eq_false _
 have q2 : (xv != gv) = false := by rw [hq2]; exact bne_self_eq_false _
 clear hq1 hq2
 have HA : Hid (sameA (Hd.h ⟨xt,xv,xb,xbt,xm,xs,⟨xo,xn,xc⟩⟩ xl) (Hd.h ⟨gt',gv,ab,abt,am,⟨#[]⟩,⟨ao,an,ac⟩⟩ al) = true ∧ xn = an ∨ (xn ≤ gn ∧ xb = gb ∧ xbt = gbt ∧ xm = gm ∧ xl = gl.take xl.length)) := Lib.hid (by
  obtain ⟨n1,n2,n3⟩ := HN.out
  rcases HP.out with z | z | ⟨m,hm,z⟩
  · exact absurd z E1.out
  ·
   have hl : xl = al := congrArg H.log z
   refine .inl ⟨sameA_iff.2 ?_,by rw [n1,n2,hl]⟩
   have z1 := congrArg H.base z
   have z2 := congrArg H.bt z
   have z3 := congrArg H.mem z
   have z4 := HQ.out
   unfold Hd.h at z1 z2 z3 ⊢
   unfold H.vote' at z1 z2 z3
   dsimp only at z1 z2 z3
   rw [z4.1,z4.2,z1,z2,z3,HSx.out,hl]
   rfl
  ·
   have hl : xl = gl.take m := congrArg H.log z
   have hlen : xl.length = m := by rw [hl,List.length_take]; omega
   exact .inr ⟨by omega,congrArg H.base z,congrArg H.bt z,congrArg H.mem z,by rw [hlen]; exact hl⟩)
 cases q3 : sameA (Hd.h ⟨xt,xv,xb,xbt,xm,xs,⟨xo,xn,xc⟩⟩ xl) (Hd.h ⟨gt',gv,ab,abt,am,⟨#[]⟩,⟨ao,an,ac⟩⟩ al)
 ·
  have hrest := HA.out.resolve_left fun z => by rw [q3] at z; cases z.1
  obtain ⟨h1,h2,h3,h4,h5⟩ := hrest
  have C4 := Lib.hid fun u => CE.out u h5 h1
  have hcut := (CE.out W h5 h1 (Below.refl _ _)).1
  have p2 : (xb != gb) = false := by rw [h2]; exact bne_self_eq_false _
  have p3 : (xbt != gbt) = false := by rw [h3]; exact bne_self_eq_false _
  have p4 : (xm != gm) = false := by rw [h4]; exact bne_self_eq_false _
  clear h2 h3 h4 h5
  have C3 := Lib.hid fun u => CV.out u false q3
  clear HA HQ HP CA CG CV CE q3
  by_cases hn : xn = an
  ·
   subst hn
   have hnn : ((xn : Int) == (xn : Int)) = true := beq_self_eq_true _
   go_enter Tryz.func34,Tryz.ntmps34
   go_wp2_with fail
   refine C1.out.mono ?_
   rintro e u1 ⟨rfl,b1⟩
   have HB1 := Lib.hid b1
   clear b1
   obtain ⟨⟨x0,x1,x2,x3,x4,x5,x6⟩,⟨a0,a1,a2,a3,a4,a5,a6⟩,g0,g1,g2,g3,g4,g5,g6⟩ := LZ.out u1 HB1.out
   go_wp2_with fail
   refine (C2.out _ HB1.out).mono ?_
   rintro e u2 ⟨rfl,b1⟩
   have HB2 := Lib.hid b1
   clear b1
   obtain ⟨⟨x0,x1,x2,x3,x4,x5,x6⟩,⟨a0,a1,a2,a3,a4,a5,a6⟩,g0,g1,g2,g3,g4,g5,g6⟩ := LZ.out u2 HB2.out
   go_wp2_with fail
   refine (C3.out _ HB2.out).mono ?_
   rintro e u3 ⟨rfl,b1⟩
   have HB3 := Lib.hid b1
   clear b1
   obtain ⟨⟨x0,x1,x2,x3,x4,x5,x6⟩,⟨a0,a1,a2,a3,a4,a5,a6⟩,g0,g1,g2,g3,g4,g5,g6⟩ := LZ.out u3 HB3.out
   have C5 := Lib.hid ((C4.out _ HB3.out).2)
   have C6 := Lib.hid ((C4.out _ HB3.out.drew).2)
   go_wp2_with fail
   go_region_held3 (fun y => y.cell? ⟨w.heap.size,6,none⟩ = some (.slice xo xn xc) ∧ y.cell? ⟨W1.heap.size,6,none⟩ = some (.slice go gn gc)) (go_keep) (first | (go_at_call 76; (first | refine C5.out.mono ?_ | refine C6.out.mono ?_); rintro e u4 ⟨rfl,b4⟩; have HB4 := Lib.hid b4; (obtain ⟨⟨y0,y1,y2,y3,y4,y5,y6⟩,⟨d0,d1,d2,d3,d4,d5,d6⟩,h0,h1,h2,h3,h4,h5,h6⟩ := LZ.out u4 b4); clear b4) | fail)
   all_goals (go_wp2_with fail; go_ret; exact ⟨rfl,bchain HB.out HB4.out⟩)
  ·
   have hnn : ((xn : Int) == (an : Int)) = false := beq_eq_false_iff_ne.2 (by omega)
   go_enter Tryz.func34,Tryz.ntmps34
   go_wp2_with fail
   refine C1.out.mono ?_
   rintro e u1 ⟨rfl,b1⟩
   have HB1 := Lib.hid b1
   clear b1
   obtain ⟨⟨x0,x1,x2,x3,x4,x5,x6⟩,⟨a0,a1,a2,a3,a4,a5,a6⟩,g0,g1,g2,g3,g4,g5,g6⟩ := LZ.out u1 HB1.out
   go_wp2_with fail
   refine (C2.out _ HB1.out).mono ?_
   rintro e u2 ⟨rfl,b1⟩
   have HB2 := Lib.hid b1
   clear b1
   obtain ⟨⟨x0,x1,x2,x3,x4,x5,x6⟩,⟨a0,a1,a2,a3,a4,a5,a6⟩,g0,g1,g2,g3,g4,g5,g6⟩ := LZ.out u2 HB2.out
   go_wp2_with fail
   have HB3 := HB2
   have C5 := Lib.hid ((C4.out _ HB3.out).2)
   have C6 := Lib.hid ((C4.out _ HB3.out.drew).2)
   go_region_held3 (fun y => y.cell? ⟨w.heap.size,6,none⟩ = some (.slice xo xn xc) ∧ y.cell? ⟨W1.heap.size,6,none⟩ = some (.slice go gn gc)) (go_keep) (first | (go_at_call 76; (first | refine C5.out.mono ?_ | refine C6.out.mono ?_); rintro e u4 ⟨rfl,b4⟩; have HB4 := Lib.hid b4; (obtain ⟨⟨y0,y1,y2,y3,y4,y5,y6⟩,⟨d0,d1,d2,d3,d4,d5,d6⟩,h0,h1,h2,h3,h4,h5,h6⟩ := LZ.out u4 b4); clear b4) | fail)
   all_goals (go_wp2_with fail; go_ret; exact ⟨rfl,bchain HB.out HB4.out⟩)
 ·
  have C3 := Lib.hid fun u => CV.out u true q3
  by_cases hn : xn = an
  ·
   subst hn
   have hnn : ((xn : Int) == (xn : Int)) = true := beq_self_eq_true _
   clear HA HQ HP CA CG CV CE q3
   go_enter Tryz.func34,Tryz.ntmps34
   go_wp2_with fail
   refine C1.out.mono ?_
   rintro e u1 ⟨rfl,b1⟩
   have HB1 := Lib.hid b1
   clear b1
   obtain ⟨⟨x0,x1,x2,x3,x4,x5,x6⟩,⟨a0,a1,a2,a3,a4,a5,a6⟩,g0,g1,g2,g3,g4,g5,g6⟩ := LZ.out u1 HB1.out
   go_wp2_with fail
   refine (C2.out _ HB1.out).mono ?_
   rintro e u2 ⟨rfl,b1⟩
   have HB2 := Lib.hid b1
   clear b1
   obtain ⟨⟨x0,x1,x2,x3,x4,x5,x6⟩,⟨a0,a1,a2,a3,a4,a5,a6⟩,g0,g1,g2,g3,g4,g5,g6⟩ := LZ.out u2 HB2.out
   go_wp2_with fail
   refine (C3.out _ HB2.out).mono ?_
   rintro e u3 ⟨rfl,b1⟩
   have HB3 := Lib.hid b1
   clear b1
   go_wp2_with fail
   go_ret
   exact ⟨rfl,bchain HB.out HB3.out⟩
  · exact absurd (HN.out.1.trans ((congrArg (fun z : H => z.log.length) (sameA_iff.1 q3)).trans HN.out.2.1.symm)) hn
end Go.Proofs.YtlmjeackfepllaaGreatDoor.Wl
