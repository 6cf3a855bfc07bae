/- LAWS OF PACKAGE letter: LetterBack. (By genltbk.py.) -/
import Derived.Test.YtagjbjppddbalaaZLb4
import Derived.Test.YtagjbjppddbalaaYLbByIn
set_option maxRecDepth 100000
set_option linter.unusedVariables false
namespace Go.Proofs.Ytagjbjppddbalaa
open Go.RowKit
open Mem Pk
set_option maxHeartbeats 4000000 in
theorem letterBack_walk (z0 : Lr.T) (z1 : List UInt8) (ao : Option Addr) (len1 cap1 : Nat) (W : World) (ws0 : Lr.Short z0) (w0 : Lr.Sub W z0) (w1 : By.Ls W ao len1 cap1 z1) (y1 : len1 ≤ 140737488351232) :
  Calls Try.prog 7 #[Lr.val z0,  .slice ao len1 cap1] W fun e W' => e = .returned (.bool true) ∧ Below W.heap.size W W' := by
 obtain ⟨l0,hl0,hn0⟩ := w0
 have hl0' := hl0.below (Lr.below_own W z0)
 obtain ⟨hfl,hfn⟩ := Lr.few_ls hl0
 have HFl := Lib.hid hfl
 have HL1 := Lib.hid w1
 have HX := Lib.hid (Bx.box (Below.refl W.heap.size W) hl0)
 have HFe := Lib.hid (lw_few z0 l0 (Lr.box W z0) hl0')
 obtain ⟨r,hr⟩ : ∃ r,Lr.few z0 = r := ⟨_,rfl⟩
 obtain ⟨l,hll⟩ : ∃ l,l0.take 20 = l := ⟨_,rfl⟩
 rw [hr] at HFe
 rw [hr,hll] at HFl
 clear w1 hl0 hl0' hfl hfn hn0 ws0 hll hr
 obtain ⟨Y,hY⟩ : ∃ Y,Lr.box W z0 = Y := ⟨_,rfl⟩
 rw [hY] at HX HFe
 unfold Lr.box at hY
 have HY := Lib.hid hY
 clear hY
 unfold Lr.val at HFe ⊢
 go_enter Try.func7,Try.ntmps7
 go_wp2_with (go_at_call 13; rw [HY.out]; refine HFe.out.mono ?_)
 rintro e u1 ⟨rfl,b1⟩
 have HX1 := Lib.hid (HX.out.below b1)
 clear b1 HX HFe HY
 obtain ⟨a0,a1,a2,a3,a4,a5,a6,a7,a8,a9,a10,a11,a12⟩ := HX1.out.c
 have q0 := HX1.out.fz 0
 have q1 := HX1.out.fz 1
 have q2 := HX1.out.fz 2
 have q3 := HX1.out.fz 3
 have q4 := HX1.out.fz 4
 have q5 := HX1.out.fz 5
 have q6 := HX1.out.fz 6
 have q7 := HX1.out.fz 7
 have q8 := HX1.out.fz 8
 have q9 := HX1.out.fz 9
 have q10 := HX1.out.fz 10
 have q11 := HX1.out.fz 11
 have q12 := HX1.out.fz 12
 have HX2 := Lib.hid (HX1.out.lay (r' := r) HFl.out)
 obtain ⟨U2,hU2⟩ : ∃ U,Lr.lay u1 W.heap.size r = U := ⟨_,rfl⟩
 rw [hU2] at HX2
 unfold Lr.lay at hU2
 have HU2 := Lib.hid hU2
 clear hU2
 go_wp2_with fail
 rw [HU2.out]
 clear a0 a1 a2 a3 a4 a5 a6 a7 a8 a9 a10 a11 a12 q0 q1 q2 q3 q4 q5 q6 q7 q8 q9 q10 q11 q12 HU2
 have HCr := Lib.hid (lt_right r l U2 HX2.out.ls)
 unfold Lr.val at HCr
 cases hq : Lr.rightB (Lr.m r l)
 ·
  rw [hq] at HCr
  refine HCr.out.mono ?_
  rintro e u3 ⟨rfl,b3⟩
  have HB := Lib.hid (bchain HX2.out.bel b3)
  clear b3 HCr hq HX2 HX1
  go_wp2_with (go_at_call 10; refine (lt_get z1 ao len1 cap1 u3 (HL1.out.below HB.out) (by omega)).mono ?_)
  rintro e y1' ⟨R,rfl,hm,o,hs,b⟩
  have HR := Lib.hid (Bx.box (bchain HB.out b) (Lr.ents_ls o hs))
  have HM := Lib.hid hm
  clear hm o hs b
  obtain ⟨y2,hy2⟩ : ∃ Y,Lr.box y1' R = Y := ⟨_,rfl⟩
  rw [hy2] at HR
  unfold Lr.box at hy2
  have HY2 := Lib.hid hy2
  clear hy2
  unfold Lr.val
  by_cases hz : Lr.getE z1 = 0
  ·
   rw [hz]
   have HPg := Lib.hid (Lr.lt_put R (Lr.getM z1).ents y2 HR.out.ls)
   rw [HM.out,Lr.put_get hz] at HPg
   unfold Lr.val at HPg
   clear hz
   obtain ⟨c0,c1,c2,c3,c4,c5,c6,c7,c8,c9,c10,c11,c12⟩ := HR.out.c
   go_wp2_with (go_at_call 9; rw [HY2.out]; refine HPg.out.mono ?_)
   rintro e y3 ⟨v3,rfl,o3,b3⟩
   obtain ⟨ao3,cap3,rfl,L3,-⟩ := By.own_ls o3
   have HB3 := Lib.hid (bchain HR.out.bel b3)
   have HSm := Lib.hid (By.same_any z1 z1 ao3 ao z1.length len1 cap3 cap1 y3 L3 (HL1.out.below HB3.out))
   rw [decide_eq_true rfl] at HSm
   clear b3 L3 o3 c0 c1 c2 c3 c4 c5 c6 c7 c8 c9 c10 c11 c12
   go_wp2_with (go_at_call 11; refine HSm.out.mono ?_)
   rintro e y4 ⟨rfl,b4⟩
   have HB4 := Lib.hid (bchain HB3.out b4)
   clear b4
   go_wp2_with (go_at_call 3; refine (lruns y4).mono ?_)
   rintro e y5 ⟨rfl,b5⟩
   have HB5 := Lib.hid (bchain HB4.out b5)
   clear b5
   go_wp2_with fail
   go_ret
   exact ⟨rfl,HB5.out⟩
  ·
   have qz : (Lr.getE z1 != 0) = true := bne_iff_ne.2 hz
   generalize Lr.getE z1 = z at qz ⊢
   clear hz
   go_wp2_with (go_at_call 3; rw [HY2.out]; refine (lruns y2).mono ?_)
   rintro e y5 ⟨rfl,b5⟩
   have HB5 := Lib.hid (bchain HR.out.bel b5)
   clear b5
   go_wp2_with fail
   go_ret
   exact ⟨rfl,HB5.out⟩
 ·
  rw [hq] at HCr
  refine HCr.out.mono ?_
  rintro e u3 ⟨rfl,b3⟩
  have HX3 := Lib.hid (HX2.out.below b3)
  have HPu := Lib.hid (Lr.lt_put r l u3 HX3.out.ls)
  have HGb := Lib.hid (Lr.get_bytes hq)
  rw [show Lr.putM (Lr.m r l) = (Lr.m r l).bytes from if_pos hq] at HPu
  have HLen := Lib.hid (Lr.bytes_small hq)
  unfold Lr.val at HPu
  clear b3 HCr hq HX2 HX1
  obtain ⟨a0,a1,a2,a3,a4,a5,a6,a7,a8,a9,a10,a11,a12⟩ := HX3.out.c
  go_wp2_with (go_at_call 9; refine HPu.out.mono ?_)
  rintro e u4 ⟨v4,rfl,o4,b4⟩
  have HX4 := Lib.hid (HX3.out.below b4)
  obtain ⟨ao4,cap4,rfl,L4,-⟩ := By.own_ls o4
  have HL4 := Lib.hid L4
  have hn4 : (Lr.m r l).bytes.length ≤ 140737488355328 := Nat.le_trans HLen.out (by decide)
  obtain ⟨n4,hn4e⟩ : ∃ n,(Lr.m r l).bytes.length = n := ⟨_,rfl⟩
  rw [hn4e] at HL4 hn4 ⊢
  clear b4 o4 L4 HX3 HPu hn4e a0 a1 a2 a3 a4 a5 a6 a7 a8 a9 a10 a11 a12
  go_wp2_with (go_at_call 10; refine (lt_get _ ao4 n4 cap4 u4 HL4.out hn4).mono ?_)
  rintro e u5 ⟨R5,rfl,hm5,o5,hs5,b5⟩
  rw [HGb.out.1] at hm5 o5 hs5
  rw [HGb.out.2]
  have HX5 := Lib.hid (HX4.out.below (bchain (Below.refl _ _) b5))
  have HE5 := Lib.hid (Lr.ents_ls o5 hs5)
  have hR5 : R5 = Lr.with r R5.ents := Lr.of_m (show Lr.m r l = Lr.m R5 l from hm5.symm)
  obtain ⟨s5,hs5'⟩ : ∃ s,R5.ents = s := ⟨_,rfl⟩
  rw [hs5'] at hR5 HE5
  subst hR5
  have HX5b := Lib.hid (HX5.out.below (Lr.below_own u5 (Lr.with r s5)))
  have HR5 := Lib.hid (Lr.c_box u5 (Lr.with r s5))
  have HE5b := Lib.hid (HE5.out.below (Lr.below_own u5 (Lr.with r s5)))
  obtain ⟨u6,hu6⟩ : ∃ Y,Lr.box u5 (Lr.with r s5) = Y := ⟨_,rfl⟩
  rw [hu6] at HX5b HR5 HE5b
  unfold Lr.box Lr.with at hu6
  dsimp only at hu6
  have HU6 := Lib.hid hu6
  have HSa := Lib.hid (lw_same (Lr.with r s5) r.ents l u6 HE5b.out HX5b.out.ls)
  rw [show Lr.with (Lr.with r s5) r.ents = r from rfl] at HSa
  unfold Lr.val Lr.with at HSa ⊢
  dsimp only at HSa ⊢
  clear hu6 hs5' hs5 o5 hm5 b5 HX4 HX5 HE5 HL4 HR5 HE5b hn4
  obtain ⟨a0,a1,a2,a3,a4,a5,a6,a7,a8,a9,a10,a11,a12⟩ := HX5b.out.c
  rw [← HU6.out] at a0 a1 a2 a3 a4 a5 a6 a7 a8 a9 a10 a11 a12
  go_wp2_with (go_at_call 12; rw [HU6.out]; refine HSa.out.mono ?_)
  rintro e u7 ⟨rfl,b7⟩
  have HB := Lib.hid (bchain HX5b.out.bel b7)
  clear b7 HX5b HSa HU6 a0 a1 a2 a3 a4 a5 a6 a7 a8 a9 a10 a11 a12
  go_wp2_with (go_at_call 10; refine (lt_get z1 ao len1 cap1 u7 (HL1.out.below HB.out) (by omega)).mono ?_)
  rintro e y1' ⟨R,rfl,hm,o,hs,b⟩
  have HR := Lib.hid (Bx.box (bchain HB.out b) (Lr.ents_ls o hs))
  have HM := Lib.hid hm
  clear hm o hs b
  obtain ⟨y2,hy2⟩ : ∃ Y,Lr.box y1' R = Y := ⟨_,rfl⟩
  rw [hy2] at HR
  unfold Lr.box at hy2
  have HY2 := Lib.hid hy2
  clear hy2
  unfold Lr.val
  by_cases hz : Lr.getE z1 = 0
  ·
   rw [hz]
   have HPg := Lib.hid (Lr.lt_put R (Lr.getM z1).ents y2 HR.out.ls)
   rw [HM.out,Lr.put_get hz] at HPg
   unfold Lr.val at HPg
   clear hz
   obtain ⟨c0,c1,c2,c3,c4,c5,c6,c7,c8,c9,c10,c11,c12⟩ := HR.out.c
   go_wp2_with (go_at_call 9; rw [HY2.out]; refine HPg.out.mono ?_)
   rintro e y3 ⟨v3,rfl,o3,b3⟩
   obtain ⟨ao3,cap3,rfl,L3,-⟩ := By.own_ls o3
   have HB3 := Lib.hid (bchain HR.out.bel b3)
   have HSm := Lib.hid (By.same_any z1 z1 ao3 ao z1.length len1 cap3 cap1 y3 L3 (HL1.out.below HB3.out))
   rw [decide_eq_true rfl] at HSm
   clear b3 L3 o3 c0 c1 c2 c3 c4 c5 c6 c7 c8 c9 c10 c11 c12
   go_wp2_with (go_at_call 11; refine HSm.out.mono ?_)
   rintro e y4 ⟨rfl,b4⟩
   have HB4 := Lib.hid (bchain HB3.out b4)
   clear b4
   go_wp2_with (go_at_call 3; refine (lruns y4).mono ?_)
   rintro e y5 ⟨rfl,b5⟩
   have HB5 := Lib.hid (bchain HB4.out b5)
   clear b5
   go_wp2_with fail
   go_ret
   exact ⟨rfl,HB5.out⟩
  ·
   have qz : (Lr.getE z1 != 0) = true := bne_iff_ne.2 hz
   generalize Lr.getE z1 = z at qz ⊢
   clear hz
   go_wp2_with (go_at_call 3; rw [HY2.out]; refine (lruns y2).mono ?_)
   rintro e y5 ⟨rfl,b5⟩
   have HB5 := Lib.hid (bchain HR.out.bel b5)
   clear b5
   go_wp2_with fail
   go_ret
   exact ⟨rfl,HB5.out⟩
end Go.Proofs.Ytagjbjppddbalaa
