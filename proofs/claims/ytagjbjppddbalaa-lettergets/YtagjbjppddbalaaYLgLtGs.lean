/- LAWS OF PACKAGE letter: LetterGets. (By genltgs.py.) -/
import Derived.Test.YtagjbjppddbalaaYLgLrgG
import Derived.Test.YtagjbjppddbalaaYLgByIn
set_option maxRecDepth 100000
set_option linter.unusedVariables false
namespace Go.Proofs.Ytagjbjppddbalaa
open Go.RowKit
open Mem Pk
set_option maxHeartbeats 4000000 in
theorem letterGets_walk (bs : List UInt8) (ao : Option Addr) (len1 cap1 : Nat) (w : World) (hL1 : By.Ls w ao len1 cap1 bs) (hn1 : len1 ≤ 140737488351232) :
  Calls Try.prog 5 #[.slice ao len1 cap1] w fun e w' => e = .returned (.bool true) ∧ Below w.heap.size w w' := by
 have HL := Lib.hid hL1
 have hcap := hL1.reach
 have hfit := hL1.fits
 have HLen := Lib.hid hL1.len
 clear hL1
 have HRo := Lib.hid (By.roomy bs 3 ao len1 cap1 w HL.out (by omega))
 unfold By.bv at HRo
 go_enter Try.func5,Try.ntmps5
 go_wp2_with fail
 refine HRo.out.mono ?_
 rintro e w1 ⟨rfl,hB1,b1⟩
 have HF := hB1.ls (by rw [List.length_append,List.length_replicate,← HLen.out]; omega)
 rw [List.length_append,List.length_replicate,← HLen.out] at HF
 obtain ⟨hsl,hLb⟩ := HF.to len1 (by omega)
 rw [List.take_left' HLen.out.symm] at hLb
 have HLb := Lib.hid hLb
 have HB1 := Lib.hid b1
 have HBk := Lib.hid hB1
 clear b1 hB1 HF hLb HRo
 go_wp2_with fail
 clear hsl
 refine (lt_get bs _ len1 (len1 + 80) w1 HLb.out (by omega)).mono ?_
 rintro e w2 ⟨R1,rfl,hm1,o1,hs1,b2⟩
 have HX2 := Lib.hid (Bx.box (bchain HB1.out b2) (Lr.ents_ls o1 hs1))
 have HBk2 := Lib.hid ((HBk.out.below b2).below (Lr.below_own w2 R1))
 have HM1 := Lib.hid hm1
 have HG2 : Hid (w1.heap.size ≤ w2.heap.size) := Lib.hid b2.size
 obtain ⟨u2,hu2⟩ : ∃ U,Lr.box w2 R1 = U := ⟨_,rfl⟩
 rw [hu2] at HX2 HBk2
 unfold Lr.box at hu2
 have HU2 := Lib.hid hu2
 clear b2 hm1 o1 hs1 hu2
 unfold Lr.val
 go_wp2_with (go_at_call 20; rw [HU2.out]; refine (rl_get bs ao len1 cap1 u2 (HL.out.below HX2.out.bel) (by omega)).mono ?_)
 rintro e w3 ⟨R2,rfl,hm2,o2,hs2,b3⟩
 have hR2 : R2 = Lr.with R1 R2.ents := Lr.of_m (l := (Lr.getM bs).ents) (by rw [HM1.out,hm2])
 have hls2 := Lr.ents_ls o2 hs2
 obtain ⟨s2,hs2'⟩ : ∃ s,R2.ents = s := ⟨_,rfl⟩
 rw [hs2'] at hR2 hls2
 subst hR2
 have HX3 := Lib.hid ((HX2.out.below b3).below (Lr.below_own w3 (Lr.with R1 s2)))
 have HC3 := Lib.hid (Lr.c_box w3 (Lr.with R1 s2))
 have HBk3 := Lib.hid ((HBk2.out.below b3).below (Lr.below_own w3 (Lr.with R1 s2)))
 have HLs3 := Lib.hid (hls2.below (Lr.below_own w3 (Lr.with R1 s2)))
 obtain ⟨u3,hu3⟩ : ∃ U,Lr.box w3 (Lr.with R1 s2) = U := ⟨_,rfl⟩
 rw [hu3] at HX3 HC3 HBk3 HLs3
 have HSa := Lib.hid (lw_same R1 s2 (Lr.getM bs).ents u3 HX3.out.ls HLs3.out)
 unfold Lr.box Lr.with at hu3
 dsimp only at hu3
 have HU3 := Lib.hid hu3
 unfold Lr.val Lr.with at HSa ⊢
 dsimp only at HSa ⊢
 clear b3 hm2 o2 hs2 hs2' hls2 hu3 HX2 HBk2 HU2 HC3
 obtain ⟨a0,a1,a2,a3,a4,a5,a6,a7,a8,a9,a10,a11,a12⟩ := HX3.out.c
 rw [← HU3.out] at a0 a1 a2 a3 a4 a5 a6 a7 a8 a9 a10 a11 a12
 have HRt : Hid (Lr.getE bs = 0 → Lr.rightB (Lr.getM bs) = true) := Lib.hid fun h => (Lr.bytes_get h).1
 generalize Lr.getE bs = z at HRt ⊢
 have HIn := Lib.hid (fun u (h : Below u3.heap.size u3 u) => By.intact bs 3 ao w.heap.size len1 cap1 u (HL.out.below (bchain HX3.out.bel h)) (HBk3.out.below h) (by omega))
 go_wp2_with (go_at_call 12; rw [HU3.out]; refine HSa.out.mono ?_)
 rintro e u4 ⟨rfl,b4⟩
 have HX4 := Lib.hid (HX3.out.below b4)
 have HI4 := Lib.hid (HIn.out u4 b4)
 unfold By.bv at HI4
 clear b4 HX3 HSa HU3 HIn HBk3 HLs3 a0 a1 a2 a3 a4 a5 a6 a7 a8 a9 a10 a11 a12
 go_wp2_with (go_at_call 21; refine HI4.out.mono ?_)
 rintro e u5 ⟨rfl,b5⟩
 have HX5 := Lib.hid (HX4.out.below b5)
 clear b5 HX4 HI4
 by_cases hz : z = 0
 ·
  subst hz
  have HCr := Lib.hid (lt_right R1 (Lr.getM bs).ents u5 HX5.out.ls)
  rw [HM1.out,HRt.out rfl] at HCr
  unfold Lr.val at HCr
  obtain ⟨a0,a1,a2,a3,a4,a5,a6,a7,a8,a9,a10,a11,a12⟩ := HX5.out.c
  go_wp2_with (go_at_call 17; refine HCr.out.mono ?_)
  rintro e u6 ⟨rfl,b6⟩
  have HB6 := Lib.hid (bchain HX5.out.bel b6)
  clear b6 HX5 HCr a0 a1 a2 a3 a4 a5 a6 a7 a8 a9 a10 a11 a12
  go_wp2_with (go_at_call 3; refine (lruns u6).mono ?_)
  rintro e u7 ⟨rfl,b7⟩
  have HB7 := Lib.hid (bchain HB6.out b7)
  clear b7
  go_wp2_with fail
  go_ret
  exact ⟨rfl,HB7.out⟩
 ·
  have qz : (z != 0) = true := bne_iff_ne.2 hz
  clear hz HRt
  go_wp2_with (go_at_call 3; refine (lruns u5).mono ?_)
  rintro e u7 ⟨rfl,b7⟩
  have HB7 := Lib.hid (bchain HX5.out.bel b7)
  clear b7
  go_wp2_with fail
  go_ret
  exact ⟨rfl,HB7.out⟩
end Go.Proofs.Ytagjbjppddbalaa
