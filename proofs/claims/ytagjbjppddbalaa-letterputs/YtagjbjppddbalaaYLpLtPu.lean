/- LAWS OF PACKAGE letter: LetterPuts. (By genltpu.py.) -/
import Derived.Test.YtagjbjppddbalaaYLpLrgZ
import Derived.Test.YtagjbjppddbalaaYLpLrgP
import Derived.Test.YtagjbjppddbalaaYLpEtR
set_option maxRecDepth 100000
set_option linter.unusedVariables false
namespace Go.Proofs.Ytagjbjppddbalaa
open Go.RowKit
open Mem Pk
def Lr.mark : Et.T := ⟨7,0,⟨#[]⟩⟩
theorem Lr.mark_short : Et.Short Lr.mark := ⟨⟨by decide,by decide⟩,⟨by decide,by decide⟩,by decide⟩
set_option maxHeartbeats 4000000 in
theorem letterPuts_walk (z0 : Lr.T) (W : World) (ws0 : Lr.Short z0) (w0 : Lr.Sub W z0) :
  Calls Try.prog 4 #[Lr.val z0] W fun e W' => e = .returned (.bool true) ∧ Below W.heap.size W W' := by
 have HSh : Hid (Lr.Short (Lr.few z0)) := Lib.hid (by
  unfold Lr.few
  split
  · exact ws0
  · exact ws0)
 obtain ⟨l0,hl0,hn0⟩ := w0
 have hl0' := hl0.below (Lr.below_own W z0)
 obtain ⟨hfl,hfn⟩ := Lr.few_ls hl0
 have HFl := Lib.hid hfl
 have HX := Lib.hid (Bx.box (Below.refl W.heap.size W) hl0)
 have HFe := Lib.hid (lw_few z0 l0 (Lr.box W z0) hl0')
 obtain ⟨r,hr⟩ : ∃ r,Lr.few z0 = r := ⟨_,rfl⟩
 obtain ⟨l,hll⟩ : ∃ l,l0.take 20 = l := ⟨_,rfl⟩
 rw [hr] at HFe
 rw [hr,hll] at HFl
 rw [hr] at hfn
 rw [hr] at HSh
 clear hl0 hl0' hfl hn0 ws0 hll hr
 obtain ⟨Y,hY⟩ : ∃ Y,Lr.box W z0 = Y := ⟨_,rfl⟩
 rw [hY] at HX HFe
 unfold Lr.box at hY
 have HY := Lib.hid hY
 clear hY
 unfold Lr.val at HFe ⊢
 go_enter Try.func4,Try.ntmps4
 go_wp2_with (go_at_call 13; rw [HY.out]; refine HFe.out.mono ?_)
 rintro e u1 ⟨rfl,b1⟩
 have HX1 := Lib.hid (HX.out.below b1)
 clear b1 HX HFe HY
 obtain ⟨a0,a1,a2,a3,a4,a5,a6,a7,a8,a9,a10,a11,a12⟩ := HX1.out.c
 have q0 := HX1.out.fz 0
 have q1 := HX1.out.fz 1
 have q2 := HX1.out.fz 2
 have q3 := HX1.out.fz 3
 have q4 := HX1.out.fz 4
 have q5 := HX1.out.fz 5
 have q6 := HX1.out.fz 6
 have q7 := HX1.out.fz 7
 have q8 := HX1.out.fz 8
 have q9 := HX1.out.fz 9
 have q10 := HX1.out.fz 10
 have q11 := HX1.out.fz 11
 have q12 := HX1.out.fz 12
 have HX2 := Lib.hid (HX1.out.lay (r' := r) HFl.out)
 obtain ⟨U2,hU2⟩ : ∃ U,Lr.lay u1 W.heap.size r = U := ⟨_,rfl⟩
 rw [hU2] at HX2
 unfold Lr.lay at hU2
 have HU2 := Lib.hid hU2
 clear hU2
 go_wp2_with fail
 rw [HU2.out]
 clear a0 a1 a2 a3 a4 a5 a6 a7 a8 a9 a10 a11 a12 q0 q1 q2 q3 q4 q5 q6 q7 q8 q9 q10 q11 q12 HU2 HX1
 have HRo := Lib.hid (Et.roomy l Lr.mark r.ents.ao r.ents.n r.ents.cap U2 HX2.out.ls (by omega))
 unfold Et.val Lr.mark at HRo
 dsimp only at HRo
 refine HRo.out.mono ?_
 rintro e u3 ⟨rfl,hblk,b3⟩
 have HX3 := Lib.hid (HX2.out.below b3)
 obtain ⟨g,hg⟩ : ∃ g,U2.heap.size + 1 = g := ⟨_,rfl⟩
 rw [hg] at hblk ⊢
 have hF3 : Et.Block u3 g (l ++ List.replicate 80 Lr.mark) := hblk
 have HN := Lib.hid HX3.out.ls.len
 have hfull := Et.full_ls hF3 HX3.out.ls.len (by omega) HX3.out.ls.short Lr.mark_short
 obtain ⟨hsl,hOl⟩ := hfull.to r.ents.n (by omega)
 rw [HX3.out.ls.len,List.take_left' rfl,← HX3.out.ls.len] at hOl
 have hlt3 := HX3.out.lt
 have hc3 := HX3.out.ls.fits
 have hr3 := HX3.out.ls.reach
 obtain ⟨R',hR'⟩ : ∃ R',Lr.with r ⟨some ⟨g,0,none⟩,r.ents.n,r.ents.n + 80⟩ = R' := ⟨_,rfl⟩
 have hOl' : Et.Ls u3 R'.ents.ao R'.ents.n R'.ents.cap l := by rw [← hR']; exact hOl
 have HO4 : Hid (Bx W (Lr.box u3 R') u3.heap.size R' l) := Lib.hid (Bx.box HX3.out.bel hOl')
 have HX4 := Lib.hid (HX3.out.below (Lr.below_own u3 R'))
 have HX3b := Lib.hid (HX3.out.below (Lr.below_own u3 r))
 have HF4 := Lib.hid (hF3.below (Lr.below_own u3 R'))
 obtain ⟨u4,hu4⟩ : ∃ U,Lr.box u3 R' = U := ⟨_,rfl⟩
 rw [hu4] at HO4 HX4 HF4
 have HU4 := Lib.hid hu4
 have hx3 := HX3b.out.c.2.2.2.2.2.2.2.2.2.2.2.2
 unfold Lr.box at hx3
 clear b3 hblk hg hF3 hfull hOl hOl' hu4 HX2 HRo HFl
 obtain ⟨a0,a1,a2,a3,a4,a5,a6,a7,a8,a9,a10,a11,a12⟩ := HX3.out.c
 clear HX3 HX3b
 go_wp2_with fail
 have hm' : Lr.m R' l = Lr.m r l := by rw [← hR']; rfl
 have hu := HU4.out
 rw [← hR'] at hu
 unfold Lr.box Lr.with at hu
 dsimp only at hu
 rw [hu]
 clear hu hR' HU4 hx3 hsl a0 a1 a2 a3 a4 a5 a6 a7 a8 a9 a10 a11 a12
 obtain ⟨a0,a1,a2,a3,a4,a5,a6,a7,a8,a9,a10,a11,a12⟩ := HX4.out.c
 have HRl := Lib.hid (Lr.rl_right r l u4 HX4.out.ls)
 unfold Lr.val at HRl
 cases hq : Lr.rightB (Lr.m r l)
 ·
  rw [hq] at HRl
  refine HRl.out.mono ?_
  rintro e u5 ⟨rfl,b5⟩
  have HX5 := Lib.hid (HX4.out.below b5)
  have HO5 := Lib.hid (HO4.out.below b5)
  have HF5 := Lib.hid (HF4.out.below b5)
  clear b5 HX4 HO4 HF4 HRl a0 a1 a2 a3 a4 a5 a6 a7 a8 a9 a10 a11 a12
  obtain ⟨a0,a1,a2,a3,a4,a5,a6,a7,a8,a9,a10,a11,a12⟩ := HX5.out.c
  obtain ⟨d0,d1,d2,d3,d4,d5,d6,d7,d8,d9,d10,d11,d12⟩ := HO5.out.c
  have HCo := Lib.hid (lt_right R' l u5 HO5.out.ls)
  rw [hm',hq] at HCo
  unfold Lr.val at HCo
  go_wp2_with (go_at_call 17; refine HCo.out.mono ?_)
  rintro e u7 ⟨rfl,b7⟩
  have HX7 := Lib.hid (HX5.out.below b7)
  have HO7 := Lib.hid (HO5.out.below b7)
  have HF7 := Lib.hid (HF5.out.below b7)
  clear b7 HX5 HO5 HF5 HCo a0 a1 a2 a3 a4 a5 a6 a7 a8 a9 a10 a11 a12 d0 d1 d2 d3 d4 d5 d6 d7 d8 d9 d10 d11 d12
  obtain ⟨d0,d1,d2,d3,d4,d5,d6,d7,d8,d9,d10,d11,d12⟩ := HO7.out.c
  have HPu := Lib.hid (Lr.lt_put R' l u7 HO7.out.ls)
  rw [hm',show Lr.putM (Lr.m r l) = [] from if_neg (by rw [hq]; exact Bool.false_ne_true)] at HPu
  unfold Lr.val at HPu
  go_wp2_with (go_at_call 9; refine HPu.out.mono ?_)
  rintro e u8 ⟨v8,rfl,o8,b8⟩
  obtain ⟨ao8,cap8,rfl,L8,-⟩ := By.own_ls o8
  have HX8 := Lib.hid (HX7.out.below b8)
  have HF8 := Lib.hid (HF7.out.below b8)
  have HSm := Lib.hid (By.same_any ([]) ([]) ao8 none ([]).length 0 cap8 0 u8 L8 (By.ls_nil u8))
  rw [decide_eq_true rfl] at HSm
  clear b8 o8 L8 HX7 HO7 HF7 HPu d0 d1 d2 d3 d4 d5 d6 d7 d8 d9 d10 d11 d12
  go_wp2_with (go_at_call 11; refine HSm.out.mono ?_)
  rintro e u9 ⟨rfl,b9⟩
  have HX9 := Lib.hid (HX8.out.below b9)
  have HF9 := Lib.hid (HF8.out.below b9)
  clear b9 HX8 HF8 HSm
  have HIn := Lib.hid (Et.intact l Lr.mark r.ents.ao g r.ents.n r.ents.cap u9 u9 (Below.refl _ _) HX9.out.ls HF9.out Lr.mark_short (by omega))
  unfold Et.val Lr.mark at HIn
  dsimp only at HIn
  obtain ⟨-,-,-,-,-,-,-,-,-,-,-,-,a12⟩ := HX9.out.c
  go_wp2_with (go_at_call 18; refine HIn.out.mono ?_)
  rintro e u10 ⟨rfl,b10⟩
  have HB10 := Lib.hid (bchain HX9.out.bel b10)
  clear b10 HX9 HF9 HIn a12
  go_wp2_with (go_at_call 3; refine (lruns u10).mono ?_)
  rintro e u11 ⟨rfl,b11⟩
  have HB11 := Lib.hid (bchain HB10.out b11)
  clear b11
  go_wp2_with fail
  go_ret
  exact ⟨rfl,HB11.out⟩
 ·
  rw [hq] at HRl
  refine HRl.out.mono ?_
  rintro e u5 ⟨rfl,b5⟩
  have HX5 := Lib.hid (HX4.out.below b5)
  have HO5 := Lib.hid (HO4.out.below b5)
  have HF5 := Lib.hid (HF4.out.below b5)
  clear b5 HX4 HO4 HF4 HRl a0 a1 a2 a3 a4 a5 a6 a7 a8 a9 a10 a11 a12
  obtain ⟨a0,a1,a2,a3,a4,a5,a6,a7,a8,a9,a10,a11,a12⟩ := HX5.out.c
  obtain ⟨d0,d1,d2,d3,d4,d5,d6,d7,d8,d9,d10,d11,d12⟩ := HO5.out.c
  have HPl := Lib.hid (Lr.rl_put r l u5 HX5.out.ls HSh.out hfn (Nat.le_trans (Lr.ok_of hq).data (by decide)) (fun x hx => Nat.le_trans ((Lr.ok_of hq).ents x hx).2.2 (by decide)))
  unfold Lr.val at HPl
  have HLn := Lib.hid (Lr.bytes_small hq)
  go_wp2_with (go_at_call 16; refine HPl.out.mono ?_)
  rintro e u6 ⟨v6,rfl,o6,b6⟩
  obtain ⟨ao6,cap6,rfl,L6,-⟩ := By.own_ls o6
  have HL6 := Lib.hid L6
  have HX6 := Lib.hid (HX5.out.below b6)
  have HO6 := Lib.hid (HO5.out.below b6)
  have HF6 := Lib.hid (HF5.out.below b6)
  clear b6 o6 L6 HX5 HO5 HF5 HPl a0 a1 a2 a3 a4 a5 a6 a7 a8 a9 a10 a11 a12 d0 d1 d2 d3 d4 d5 d6 d7 d8 d9 d10 d11 d12
  obtain ⟨a0,a1,a2,a3,a4,a5,a6,a7,a8,a9,a10,a11,a12⟩ := HX6.out.c
  obtain ⟨d0,d1,d2,d3,d4,d5,d6,d7,d8,d9,d10,d11,d12⟩ := HO6.out.c
  have HCo := Lib.hid (lt_right R' l u6 HO6.out.ls)
  rw [hm',hq] at HCo
  unfold Lr.val at HCo
  go_wp2_with (go_at_call 17; refine HCo.out.mono ?_)
  rintro e u7 ⟨rfl,b7⟩
  have HX7 := Lib.hid (HX6.out.below b7)
  have HO7 := Lib.hid (HO6.out.below b7)
  have HF7 := Lib.hid (HF6.out.below b7)
  have HL7 := Lib.hid (HL6.out.below b7)
  clear b7 HX6 HO6 HF6 HCo a0 a1 a2 a3 a4 a5 a6 a7 a8 a9 a10 a11 a12 d0 d1 d2 d3 d4 d5 d6 d7 d8 d9 d10 d11 d12
  obtain ⟨d0,d1,d2,d3,d4,d5,d6,d7,d8,d9,d10,d11,d12⟩ := HO7.out.c
  have HPu := Lib.hid (Lr.lt_put R' l u7 HO7.out.ls)
  rw [hm',show Lr.putM (Lr.m r l) = (Lr.m r l).bytes from if_pos hq] at HPu
  unfold Lr.val at HPu
  go_wp2_with (go_at_call 9; refine HPu.out.mono ?_)
  rintro e u8 ⟨v8,rfl,o8,b8⟩
  obtain ⟨ao8,cap8,rfl,L8,-⟩ := By.own_ls o8
  have HX8 := Lib.hid (HX7.out.below b8)
  have HF8 := Lib.hid (HF7.out.below b8)
  have HSm := Lib.hid (By.same_any ((Lr.m r l).bytes) ((Lr.m r l).bytes) ao8 ao6 ((Lr.m r l).bytes).length (Lr.m r l).bytes.length cap8 cap6 u8 L8 (HL7.out.below b8))
  rw [decide_eq_true rfl] at HSm
  clear b8 o8 L8 HX7 HO7 HF7 HPu d0 d1 d2 d3 d4 d5 d6 d7 d8 d9 d10 d11 d12 HL6 HL7
  go_wp2_with (go_at_call 11; refine HSm.out.mono ?_)
  rintro e u9 ⟨rfl,b9⟩
  have HX9 := Lib.hid (HX8.out.below b9)
  have HF9 := Lib.hid (HF8.out.below b9)
  clear b9 HX8 HF8 HSm
  have HIn := Lib.hid (Et.intact l Lr.mark r.ents.ao g r.ents.n r.ents.cap u9 u9 (Below.refl _ _) HX9.out.ls HF9.out Lr.mark_short (by omega))
  unfold Et.val Lr.mark at HIn
  dsimp only at HIn
  obtain ⟨-,-,-,-,-,-,-,-,-,-,-,-,a12⟩ := HX9.out.c
  go_wp2_with (go_at_call 18; refine HIn.out.mono ?_)
  rintro e u10 ⟨rfl,b10⟩
  have HB10 := Lib.hid (bchain HX9.out.bel b10)
  clear b10 HX9 HF9 HIn a12
  go_wp2_with (go_at_call 3; refine (lruns u10).mono ?_)
  rintro e u11 ⟨rfl,b11⟩
  have HB11 := Lib.hid (bchain HB10.out b11)
  clear b11
  go_wp2_with fail
  go_ret
  exact ⟨rfl,HB11.out⟩
end Go.Proofs.Ytagjbjppddbalaa
