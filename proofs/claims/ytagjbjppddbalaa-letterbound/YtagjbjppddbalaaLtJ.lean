/- LAWS OF PACKAGE letter: LetterRuns from any world. (By genltj.py.) -/
import Derived.Test.YtagjbjppddbalaaLtI
set_option maxRecDepth 100000
set_option linter.unusedVariables false
namespace Go.Proofs.Ytagjbjppddbalaa
open Go.RowKit
open Mem Pk

def Lr.r0 : Lr.T := ⟨2, 0, 1, 1, 0, 0, 0, 0, 0, 0, true, ⟨#[]⟩, ⟨none, 0, 0⟩⟩
def Lr.r1 : Lr.T := ⟨2, 0, 0, 1, 0, 0, 0, 0, 0, 0, false, ⟨#[]⟩, ⟨none, 0, 0⟩⟩
def Lr.r2 : Lr.T := ⟨2, 0, 1, 1, 1, 0, 0, 0, 0, 0, false, ⟨#[]⟩, ⟨none, 0, 0⟩⟩
def Lr.bs0 : List UInt8 := [4, 0, 2, 2, 0, 0, 0, 0, 0, 0, 2, 0, 0]
theorem Lr.right_0 : Lr.rightB (Lr.m Lr.r0 []) = true := by decide +kernel
theorem Lr.bytes_0 : (Lr.m Lr.r0 []).bytes = Lr.bs0 := by decide +kernel
theorem Lr.put_0 : Lr.putM (Lr.m Lr.r0 []) = Lr.bs0 := by
  unfold Lr.putM
  rw [Lr.right_0, if_pos rfl, Lr.bytes_0]
theorem Lr.get_0 : Lr.getE Lr.bs0 = 0 ∧ Lr.getM Lr.bs0 = Lr.m Lr.r0 [] := by
  rw [← Lr.bytes_0]
  exact ⟨(Lr.get_bytes Lr.right_0).2, (Lr.get_bytes Lr.right_0).1⟩
theorem Lr.tail_0 : Lr.getE (Lr.bs0 ++ [0]) = 5 := by decide +kernel
theorem Lr.put_1 : Lr.putM (Lr.m Lr.r1 []) = [] := by decide +kernel
theorem Lr.put_2 : Lr.putM (Lr.m Lr.r2 []) = [] := by decide +kernel
set_option maxHeartbeats 4000000 in
theorem lruns (w : World) : Calls Try.prog 3 #[] w fun e w' => e = .returned (.bool true) ∧ Below w.heap.size w w' := by
  obtain ⟨w0, hw0⟩ : ∃ U, Lr.box w Lr.r0 = U := ⟨_, rfl⟩
  have hb0 : Below w.heap.size w w0 := hw0 ▸ Lr.below_own w Lr.r0
  have HC0 : Hid (Lr.C w0 w.heap.size Lr.r0) := Lib.hid (hw0 ▸ Lr.c_box w Lr.r0)
  have HB0 := Lib.hid hb0
  have HP := Lib.hid (fun u => Lr.lt_put Lr.r0 [] u (Et.ls_nil u))
  have HP1 := Lib.hid (fun u => Lr.lt_put Lr.r1 [] u (Et.ls_nil u))
  have HP2 := Lib.hid (fun u => Lr.lt_put Lr.r2 [] u (Et.ls_nil u))
  rw [Lr.put_0] at HP
  rw [Lr.put_1] at HP1
  rw [Lr.put_2] at HP2
  unfold Lr.val Lr.r0 at HP
  unfold Lr.val Lr.r1 at HP1
  unfold Lr.val Lr.r2 at HP2
  dsimp only at HP HP1 HP2
  unfold Lr.box Lr.r0 at hw0
  dsimp only at hw0
  have HW0 := Lib.hid hw0
  clear hb0 hw0
  go_enter Try.func3, Try.ntmps3
  go_wp2_with fail
  rw [HW0.out]
  clear HW0
  refine (HP.out w0).mono ?_
  rintro e w1 ⟨v1, rfl, o1, b1⟩
  obtain ⟨ao1, cap1, rfl, L1, -⟩ := By.own_ls o1
  rw [show Lr.bs0.length = 13 from rfl] at L1 ⊢
  have HL1 := Lib.hid L1
  have HC1 := Lib.hid (HC0.out.below b1)
  have HB1 := Lib.hid (bchain HB0.out b1)
  clear L1 b1 o1 HC0 HB0
  go_wp2_with fail
  refine (lt_get Lr.bs0 ao1 13 cap1 w1 HL1.out (by omega)).mono ?_
  rintro e w2 ⟨R, rfl, hm2, o2, -, b2⟩
  rw [Lr.get_0.2] at hm2 o2
  have hR : R = Lr.with Lr.r0 R.ents := Lr.of_m hm2.symm
  obtain ⟨s2, hs2⟩ : ∃ s, R.ents = s := ⟨_, rfl⟩
  rw [hs2] at hR o2
  subst hR
  clear hs2 hm2
  rw [Lr.get_0.1]
  have HO2 := Lib.hid o2
  have HB2 := Lib.hid (bchain HB1.out b2)
  have HC2 := Lib.hid (HC1.out.below b2)
  have HL2 := Lib.hid (HL1.out.below b2)
  clear o2 b2 HC1 HB1 HL1
  have hb3 := Lr.below_own w2 (Lr.with Lr.r0 s2)
  have HC3 := Lib.hid (HC2.out.below hb3)
  have HR3 := Lib.hid (Lr.c_box w2 (Lr.with Lr.r0 s2))
  have HL3 := Lib.hid (HL2.out.below hb3)
  have HO3 := Lib.hid (Et.own_below HO2.out hb3)
  have HB3 := Lib.hid (bchain HB2.out hb3)
  obtain ⟨w3, hw3⟩ : ∃ W, Lr.box w2 (Lr.with Lr.r0 s2) = W := ⟨_, rfl⟩
  rw [hw3] at hb3 HC3 HR3 HL3 HO3 HB3
  unfold Lr.box Lr.with Lr.r0 at hw3
  dsimp only at hw3
  have HW3 := Lib.hid hw3
  unfold Lr.val Lr.with Lr.r0
  dsimp only
  clear hb3 HC2 HL2 HO2 HB2 hw3
  have HS3 : Hid (w3.heap.size = w2.heap.size + 1) := Lib.hid (by rw [← HW3.out]; simp)
  have HE4 : Hid ((w3.alloc (.cells #[] 5)).heap[w2.heap.size + 1]? = some (.cells #[] 5 (0, 0))) := Lib.hid (by rw [← HS3.out]; exact heap_alloc_new w3 _)
  have hb4 : Below w3.heap.size w3 (w3.alloc (.cells #[] 5)) := (Below.refl _ _).alloc (Nat.le_refl _) _
  have HB4 := Lib.hid (bchain HB3.out hb4)
  have HL4 := Lib.hid (HL3.out.below hb4)
  have HC4 := Lib.hid (HC3.out.below hb4)
  have HR4 := Lib.hid (HR3.out.below hb4)
  have HO4 := Lib.hid (Et.own_below HO3.out hb4)
  clear hb4
  go_wp2_with (at_builtin; rw [HW3.out]; go_must (refine By.wpList_append _ rfl (.tmp 16) (.tmp 17) rfl w3.heap.size _ [] rfl (By.own_empty (Nat.le_of_eq HS3.out) HE4.out) ao1 13 cap1 Lr.bs0 rfl rfl HL4.out.nil HL4.out.seg (by decide) (by simp) ?_))
  intro v5 w5 o5 gr5 _
  have HB5 : Hid (Below w3.heap.size w3 w5) := Lib.hid (((Below.refl w3.heap.size w3).alloc (Nat.le_refl _) _).grown gr5 (by simp) (fun k e => by cases e; exact Nat.le_of_eq HS3.out))
  have HO5 := Lib.hid o5
  clear HE4 HB4 HL4 HC4 HR4 HO4 HS3 HW3 gr5 o5
  go_wp2_with (at_builtin; go_must (refine By.wpList_append _ rfl (.tmp 18) (.tmp 19) rfl w3.heap.size v5 Lr.bs0 rfl (By.own_alloc HO5.out _) (some ⟨w5.heap.size, 0, none⟩) 1 1 [0] rfl rfl (fun z => by cases z) (By.seg_one (heap_alloc_new w5 _) rfl) (by decide) (Nat.le_trans HB5.out.size (by simp)) ?_))
  intro v6 w6 o6 gr6 _
  have HB6 : Hid (Below w3.heap.size w3 w6) := Lib.hid ((bchain HB5.out ((Below.refl _ _).alloc (Nat.le_refl _) (.cells #[.int .u8 0] 5))).grown gr6 (Nat.le_trans HB5.out.size (by simp)) (By.own_ge HO5.out))
  obtain ⟨ao6, cap6, rfl, L6, -⟩ := By.own_ls o6
  have e14 : (Lr.bs0 ++ [(0 : UInt8)]).length = 14 := rfl
  rw [e14] at L6 ⊢
  have HL6 := Lib.hid L6
  clear o6 gr6 L6 HO5 HB5
  go_wp2_with fail
  refine (lt_get (Lr.bs0 ++ [0]) ao6 14 cap6 w6 HL6.out (by omega)).mono ?_
  rintro e w7 ⟨R7, rfl, hm7, o7, -, b7⟩
  rw [Lr.tail_0]
  have HB7 : Hid (Below w3.heap.size w3 (Lr.box w7 R7)) := Lib.hid (bchain (bchain HB6.out b7) (Lr.below_own w7 R7))
  clear hm7 o7 b7 HL6 HB6
  unfold Lr.val
  have HC7 := Lib.hid (HC3.out.below HB7.out)
  have HR7 := Lib.hid (HR3.out.below HB7.out)
  have HL7 := Lib.hid (HL3.out.below HB7.out)
  have HO7 := Lib.hid (Et.own_below HO3.out HB7.out)
  have HBw := Lib.hid (bchain HB3.out HB7.out)
  clear HC3 HR3 HL3 HO3 HB3 HB7
  obtain ⟨w8, hw8⟩ : ∃ W, Lr.box w7 R7 = W := ⟨_, rfl⟩
  rw [hw8] at HC7 HR7 HL7 HO7 HBw
  unfold Lr.box at hw8
  have HW8 := Lib.hid hw8
  clear hw8
  -- the literal
  have hb9 : Below w8.heap.size w8 (w8.alloc (.cells #[.int .u8 4, .int .u8 0, .int .u8 2, .int .u8 2, .int .u8 0, .int .u8 0, .int .u8 0, .int .u8 0, .int .u8 0, .int .u8 0, .int .u8 2, .int .u8 0, .int .u8 0] 5)) := (Below.refl _ _).alloc (Nat.le_refl _) _
  have HLit : Hid (By.Block (w8.alloc (.cells #[.int .u8 4, .int .u8 0, .int .u8 2, .int .u8 2, .int .u8 0, .int .u8 0, .int .u8 0, .int .u8 0, .int .u8 0, .int .u8 0, .int .u8 2, .int .u8 0, .int .u8 0] 5)) w8.heap.size Lr.bs0) := Lib.hid (heap_alloc_new w8 _)
  have HS8 : Hid (w8.heap.size = w7.heap.size + 1) := Lib.hid (by rw [← HW8.out]; simp)
  rw [HS8.out] at HLit
  have HC9 := Lib.hid (HC7.out.below hb9)
  have HR9 := Lib.hid (HR7.out.below hb9)
  have HL9 := Lib.hid (HL7.out.below hb9)
  have HO9 := Lib.hid (Et.own_below HO7.out hb9)
  have HB9 := Lib.hid (bchain HBw.out hb9)
  clear hb9 HC7 HR7 HL7 HO7 HBw
  have HSm := Lib.hid (By.same_any Lr.bs0 Lr.bs0 ao1 (some ⟨w7.heap.size + 1, 0, none⟩) 13 13 cap1 13 _ HL9.out (HLit.out.ls (by decide)))
  rw [decide_eq_true rfl] at HSm
  go_wp2_with (go_at_call 11; rw [HW8.out]; refine HSm.out.mono ?_)
  rintro e w10 ⟨rfl, b10⟩
  have hC := HC9.out.below b10
  have hR := HR9.out.below b10
  obtain ⟨vz, cz, ez, hLs, -⟩ := Et.own_ls (Et.own_below HO9.out b10) (fun x hx => by cases hx)
  obtain ⟨q1, q2, q3⟩ := Value.slice.inj ez
  have HSa := Lib.hid (lw_same (Lr.with Lr.r0 s2) ⟨none, 0, 0⟩ [] w10 (by
    show Et.Ls w10 s2.ao s2.n s2.cap []
    rw [q1, q2, q3]
    exact hLs) (Et.ls_nil w10))
  have HB10 := Lib.hid (bchain HB9.out b10)
  clear b10 HC9 HR9 HL9 HO9 HB9 HSm HLit HS8 HW8 ez q1 q2 q3 hLs
  unfold Lr.C Lr.r0 at hC
  unfold Lr.C Lr.with Lr.r0 at hR
  unfold Lr.val Lr.with Lr.r0 at HSa
  dsimp only at hC hR HSa
  obtain ⟨a0, a1, a2, a3, a4, a5, a6, a7, a8, a9, a10, a11, a12⟩ := hC
  obtain ⟨c0, c1, c2, c3, c4, c5, c6, c7, c8, c9, c10, c11, c12⟩ := hR
  go_wp2_with (go_at_call 12; refine HSa.out.mono ?_)
  rintro e w11 ⟨rfl, b11⟩
  have HB11 := Lib.hid (bchain HB10.out b11)
  clear b11 HSa HB10 a0 a1 a2 a3 a4 a5 a6 a7 a8 a9 a10 a11 a12 c0 c1 c2 c3 c4 c5 c6 c7 c8 c9 c10 c11 c12
  go_wp2_with (go_at_call 9; refine (HP1.out w11).mono ?_)
  rintro e w12 ⟨v12, rfl, o12, b12⟩
  obtain ⟨ao12, cap12, rfl, -, -⟩ := By.own_ls o12
  have HB12 := Lib.hid (bchain HB11.out b12)
  clear b12 o12 HB11
  go_wp2_with (go_at_call 9; refine (HP2.out w12).mono ?_)
  rintro e w13 ⟨v13, rfl, o13, b13⟩
  obtain ⟨ao13, cap13, rfl, -, -⟩ := By.own_ls o13
  have HB13 := Lib.hid (bchain HB12.out b13)
  clear b13 o13 HB12
  go_wp2_with fail
  go_ret
  exact ⟨rfl, HB13.out⟩
end Go.Proofs.Ytagjbjppddbalaa
