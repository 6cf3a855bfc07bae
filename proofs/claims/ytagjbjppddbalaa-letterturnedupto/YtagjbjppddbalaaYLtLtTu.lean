/- LAWS OF PACKAGE letter: LetterTurned. (By genlttu.py.) -/
import Derived.Test.YtagjbjppddbalaaYLtLrgG
import Derived.Test.YtagjbjppddbalaaYLtLrgP
import Derived.Test.YtagjbjppddbalaaYLtBookIn
set_option maxRecDepth 100000
set_option linter.unusedVariables false
namespace Go.Proofs.Ytagjbjppddbalaa
open Go.RowKit
open Mem Pk
theorem By.own_put {w : World} {B g n cap : Nat} {M : List UInt8} (h : By.Own w B (.slice (some ⟨g,0,none⟩) n cap) M) (k : Nat) (x : UInt8) : By.Own (w.setCell ⟨g,k,none⟩ (By.bv x)) B (.slice (some ⟨g,0,none⟩) n cap) (M.set k x) := by
 rcases h.2 with ⟨h',_⟩ | ⟨g',cap',cur,h',hb,hg,hnc,hcm,hcs,htake⟩
 · cases h'
 ·
  simp only [Value.slice.injEq,Option.some.injEq,Addr.mk.injEq,and_true] at h'
  obtain ⟨e1,e2,e3⟩ := h'
  subst e1 e3
  have h1 := heap_setCell_same _ g k _ _ (By.bv x) hg
  refine ⟨by simp,.inr ⟨g,cap,_,by rw [List.length_set,e2],hb,h1,by rw [List.length_set]; exact hnc,hcm,by simpa using hcs,?_⟩⟩
  rw [List.length_set,List.map_set]
  simp only [Array.toList_setIfInBounds]
  rw [← htake]
  simp only [List.take_set]
theorem By.own_at {w : World} {B : Nat} {v : Value} {M : List UInt8} (h : By.Own w B v M) (hM : 1 ≤ M.length) : ∃ g cap,v = .slice (some ⟨g,0,none⟩) M.length cap ∧ B ≤ g ∧ (∀ o,w.frozen? ⟨g,o,none⟩ = false) := by
 rcases h.2 with ⟨_,h2⟩ | ⟨g,cap,cur,h',hb,hg,_⟩
 · omega
 · exact ⟨g,cap,h',hb,fun o => frozen_of_row w g o _ _ hg⟩
theorem Lr.entsB_le (S : Nat) : ∀ l : List Et.T,(∀ e ∈ l,e.data.size ≤ S) → (Lr.entsB l).length ≤ (S + 30) * l.length
 | [],_ => Nat.le_refl _
 | x :: l,h => by
  have h1 := Lr.entsB_le S l fun e he => h e (List.mem_cons_of_mem _ he)
  have h2 := h x List.mem_cons_self
  have n1 := Wl.nm_len x.term
  have n2 := Wl.nm_len x.mem
  have n3 := Wl.nm_len (x.data.size : Int)
  rw [Lr.entsB,List.length_append,List.length_cons,Nat.mul_succ]
  unfold Lr.entB Wl.tx
  rw [List.length_append,List.length_append,List.length_append,txt_len]
  omega
theorem Lr.bytes_most {m : Lr.M} (hd : m.data.size ≤ 1048576) (hn : m.ents.length ≤ 20) (he : ∀ e ∈ m.ents,e.data.size ≤ 1048576) : 1 ≤ m.bytes.length ∧ m.bytes.length ≤ 100000000 := by
 have h1 := Lr.entsB_le 1048576 m.ents he
 have h2 : (Lr.numsB m.ten).length ≤ 10 * 10 := Lr.numsB_len m.ten
 have h3 := Wl.nm_len (m.data.size : Int)
 have h4 := Wl.nm_len (m.ents.length : Int)
 have h5 : (Lr.flB m.yes).length ≤ 10 := Wl.nm_len _
 have h6 : 1 ≤ (Lr.flB m.yes).length := Wl.nm_pos _
 have h7 : (1048576 + 30) * m.ents.length ≤ (1048576 + 30) * 20 := Nat.mul_le_mul_left _ hn
 unfold Lr.M.bytes Wl.tx
 simp only [List.length_append,txt_len]
 omega
set_option maxHeartbeats 4000000 in
theorem letterTurned_walk (z0 : Lr.T) (at1 to1 how1 : Int) (W : World) (ws0 : Lr.Short z0) (hd : z0.data.size ≤ 1048576) (w0 : ∃ es,Et.Ls W z0.ents.ao z0.ents.n z0.ents.cap es ∧ ∀ x ∈ es,x.data.size ≤ 1048576) (w1 : Fit at1) (w2 : 0 ≤ to1 ∧ to1 ≤ 255) (w3 : Fit how1) :
  Calls Try.prog 6 #[Lr.val z0,.int .i64 at1,.int .u8 to1,.int .i64 how1] W fun e W' => e = .returned (.bool true) ∧ Below W.heap.size W W' := by
 have HSh : Hid (Lr.Short (Lr.few z0)) := Lib.hid (by
  unfold Lr.few
  split
  · exact ws0
  · exact ws0)
 have hdf : (Lr.few z0).data.size ≤ 1048576 := by
  unfold Lr.few
  split
  · exact hd
  · exact hd
 obtain ⟨l0,hl0,hx0⟩ := w0
 have hl0' := hl0.below (Lr.below_own W z0)
 obtain ⟨hfl,hfn⟩ := Lr.few_ls hl0
 have HBx := Lib.hid (Lr.below_own W z0)
 have HFl := Lib.hid hfl
 have HFe := Lib.hid (lw_few z0 l0 (Lr.box W z0) hl0')
 have HXs : Hid (∀ x ∈ l0.take 20,x.data.size ≤ 1048576) := Lib.hid fun x hx => hx0 x (List.mem_of_mem_take hx)
 obtain ⟨r,hr⟩ : ∃ r,Lr.few z0 = r := ⟨_,rfl⟩
 obtain ⟨l,hll⟩ : ∃ l,l0.take 20 = l := ⟨_,rfl⟩
 rw [hr] at HFe HSh hfn hdf
 rw [hr,hll] at HFl
 rw [hll] at HXs
 obtain ⟨x8,hx8⟩ : ∃ x : UInt8,By.bv x = .int .u8 to1 := ⟨UInt8.ofNat to1.toNat,by
  unfold By.bv
  have : (UInt8.ofNat to1.toNat).toNat = to1.toNat := by
   rw [UInt8.toNat_ofNat']
   omega
  rw [this,Int.toNat_of_nonneg w2.1]⟩
 have HX8 := Lib.hid hx8
 have HLl : Hid (l.length ≤ 20) := Lib.hid (by have := HFl.out.len; omega)
 clear hl0 hl0' hfl hx0 ws0 hll hr hx8 hd
 obtain ⟨Y,hY⟩ : ∃ Y,Lr.box W z0 = Y := ⟨_,rfl⟩
 rw [hY] at HFe HBx
 unfold Lr.box at hY
 have HY := Lib.hid hY
 clear hY
 unfold Lr.val at HFe ⊢
 go_enter Try.func6,Try.ntmps6
 go_wp2_with (go_at_call 13; rw [HY.out]; refine HFe.out.mono ?_)
 rintro e u1 ⟨rfl,b1⟩
 have HB1 := Lib.hid (bchain HBx.out b1)
 clear b1 HBx HFe HY
 have HPl := Lib.hid (Lr.rl_put r l u1 (HFl.out.below HB1.out) HSh.out hfn (by omega) (fun x hx => Nat.le_trans (HXs.out x hx) (by decide)))
 have HMo := Lib.hid (Lr.bytes_most (m := Lr.m r l) hdf HLl.out HXs.out)
 unfold Lr.val at HPl
 go_wp2_with (go_at_call 16; refine HPl.out.mono ?_)
 rintro e w5 ⟨v5,rfl,o5,b5⟩
 have HB5 := Lib.hid (bchain HB1.out b5)
 have hge5 := b5
 obtain ⟨bs,hbs⟩ : ∃ bs,(Lr.m r l).bytes = bs := ⟨_,rfl⟩
 rw [hbs] at o5 HMo
 obtain ⟨g,cap,rfl,hg,hfz⟩ := By.own_at o5 HMo.out.1
 have HO5 := Lib.hid (By.own_mono o5 HB1.out.size)
 have HGg : Hid (W.heap.size ≤ g) := Lib.hid (Nat.le_trans HB1.out.size hg)
 have HFz := Lib.hid hfz
 obtain ⟨n,hn⟩ : ∃ n,bs.length = n := ⟨_,rfl⟩
 rw [hn] at HMo HO5 ⊢
 have hn1 := HMo.out.1
 have hn2 := HMo.out.2
 have HLn := Lib.hid hn
 have hL5 : By.Ls w5 (some ⟨g,0,none⟩) n cap bs := by
  obtain ⟨ao',cap',e',L',-⟩ := By.own_ls HO5.out
  obtain ⟨z1,z2,z3⟩ := Value.slice.inj e'
  rw [z1,z2,z3]
  exact L'
 have HL5 := Lib.hid hL5
 have hc1 := hL5.fits
 have hc2 := hL5.reach
 have e0 : (0 : Int) ≤ 4611686018427387904 := by decide
 clear b5 hge5 o5 hbs hg hfz hn hL5 HPl HFl HSh HXs HB1 hdf hfn HMo
 go_wp2_with (go_at_call 22; refine (bookWithin_any at1 0 ((n : Int) - 1) w5 w1 (by omega) (by omega) (by omega)).mono ?_)
 rintro e w6 ⟨⟨k,rfl,hk1,hk2⟩,rfl⟩
 go_wp2_with (go_at_call 22; refine (bookWithin_any how1 0 2 w6 w3 (by omega) (by omega) (by omega)).mono ?_)
 rintro e w7 ⟨⟨q,rfl,hq1,hq2⟩,rfl⟩
 have hkn : k < n := by omega
 have hq3 : q = 0 ∨ q = 1 ∨ q = 2 := by omega
 clear w1 w3 hq1 hq2 hk1 hk2
 rcases hq3 with rfl | rfl | rfl
 ·
  have hkb : k < bs.length := by rw [HLn.out]; exact hkn
  have c5 := HL5.out.row k hkb
  have z5 := HFz.out k
  rw [Nat.zero_add] at c5
  have HO8 : Hid (By.Own (w7.setCell ⟨g,k,none⟩ (.int .u8 to1)) W.heap.size (.slice (some ⟨g,0,none⟩) n cap) (bs.set k x8)) := Lib.hid (by
   have := By.own_put HO5.out k x8
   rw [HX8.out] at this
   exact this)
  have HB8 : Hid (Below W.heap.size W (w7.setCell ⟨g,k,none⟩ (.int .u8 to1))) := Lib.hid (bset HB5.out HGg.out k _)
  obtain ⟨w8,hw8⟩ : ∃ w8,w7.setCell ⟨g,k,none⟩ (.int .u8 to1) = w8 := ⟨_,rfl⟩
  rw [hw8] at HO8 HB8
  have HW8 := Lib.hid hw8
  have HL8 : Hid (By.Ls w8 (some ⟨g,0,none⟩) n cap (bs.set k x8)) := Lib.hid (by
   obtain ⟨ao',cap',e',L',-⟩ := By.own_ls HO8.out
   obtain ⟨z1,z2,z3⟩ := Value.slice.inj e'
   rw [z1,z2,z3]
   exact L')
  clear hw8
  go_wp2_with (go_at_call 10; rw [HW8.out]; refine (lt_get (bs.set k x8) (some ⟨g,0,none⟩) n cap w8 HL8.out (by omega)).mono ?_)
  rintro e v2 ⟨R1,rfl,hm1,o1,hs1,b2⟩
  have HX2 := Lib.hid (Bx.box (bchain HB8.out b2) (Lr.ents_ls o1 hs1))
  have HM1 := Lib.hid hm1
  have HLb := Lib.hid ((HL8.out).below (bchain (Below.refl _ _) (bchain b2 (Lr.below_own v2 R1))))
  obtain ⟨u2,hu2⟩ : ∃ U,Lr.box v2 R1 = U := ⟨_,rfl⟩
  rw [hu2] at HX2 HLb
  unfold Lr.box at hu2
  have HU2 := Lib.hid hu2
  clear b2 hm1 o1 hs1 hu2
  unfold Lr.val
  go_wp2_with (go_at_call 20; rw [HU2.out]; refine (rl_get (bs.set k x8) (some ⟨g,0,none⟩) n cap u2 HLb.out (by omega)).mono ?_)
  rintro e v3 ⟨R2,rfl,hm2,o2,hs2,b3⟩
  have hR2 : R2 = Lr.with R1 R2.ents := Lr.of_m (l := (Lr.getM (bs.set k x8)).ents) (by rw [HM1.out,hm2])
  have hls2 := Lr.ents_ls o2 hs2
  obtain ⟨s2,hs2'⟩ : ∃ s,R2.ents = s := ⟨_,rfl⟩
  rw [hs2'] at hR2 hls2
  subst hR2
  have HX3 := Lib.hid ((HX2.out.below b3).below (Lr.below_own v3 (Lr.with R1 s2)))
  have HLs3 := Lib.hid (hls2.below (Lr.below_own v3 (Lr.with R1 s2)))
  obtain ⟨u3,hu3⟩ : ∃ U,Lr.box v3 (Lr.with R1 s2) = U := ⟨_,rfl⟩
  rw [hu3] at HX3 HLs3
  have HSa := Lib.hid (lw_same R1 s2 (Lr.getM (bs.set k x8)).ents u3 HX3.out.ls HLs3.out)
  unfold Lr.box Lr.with at hu3
  dsimp only at hu3
  have HU3 := Lib.hid hu3
  unfold Lr.val Lr.with at HSa ⊢
  dsimp only at HSa ⊢
  clear b3 hm2 o2 hs2 hs2' hls2 hu3 HX2 HU2 HLb
  obtain ⟨a0,a1,a2,a3,a4,a5,a6,a7,a8,a9,a10,a11,a12⟩ := HX3.out.c
  rw [← HU3.out] at a0 a1 a2 a3 a4 a5 a6 a7 a8 a9 a10 a11 a12
  generalize Lr.getE (bs.set k x8) = z
  go_wp2_with (go_at_call 12; rw [HU3.out]; refine HSa.out.mono ?_)
  rintro e u4 ⟨rfl,b4⟩
  have HB4 := Lib.hid (bchain HX3.out.bel b4)
  clear b4 HX3 HSa HU3 HLs3 a0 a1 a2 a3 a4 a5 a6 a7 a8 a9 a10 a11 a12
  go_wp2_with (go_at_call 3; refine (lruns u4).mono ?_)
  rintro e u7 ⟨rfl,b7⟩
  have HB7 := Lib.hid (bchain HB4.out b7)
  clear b7
  go_wp2_with fail
  go_ret
  exact ⟨rfl,HB7.out⟩
 ·
  obtain ⟨hsl,hLb⟩ := HL5.out.to k (by omega)
  have HLb := Lib.hid hLb
  clear hLb
  go_wp2_with (go_at_call 10; refine (lt_get (bs.take k) (some ⟨g,0,none⟩) k cap w7 HLb.out (by omega)).mono ?_)
  rintro e v2 ⟨R1,rfl,hm1,o1,hs1,b2⟩
  have HX2 := Lib.hid (Bx.box (bchain HB5.out b2) (Lr.ents_ls o1 hs1))
  have HM1 := Lib.hid hm1
  have HLb := Lib.hid ((HLb.out).below (bchain (Below.refl _ _) (bchain b2 (Lr.below_own v2 R1))))
  obtain ⟨u2,hu2⟩ : ∃ U,Lr.box v2 R1 = U := ⟨_,rfl⟩
  rw [hu2] at HX2 HLb
  unfold Lr.box at hu2
  have HU2 := Lib.hid hu2
  clear b2 hm1 o1 hs1 hu2
  unfold Lr.val
  go_wp2_with (go_at_call 20; rw [HU2.out]; refine (rl_get (bs.take k) (some ⟨g,0,none⟩) k cap u2 HLb.out (by omega)).mono ?_)
  rintro e v3 ⟨R2,rfl,hm2,o2,hs2,b3⟩
  have hR2 : R2 = Lr.with R1 R2.ents := Lr.of_m (l := (Lr.getM (bs.take k)).ents) (by rw [HM1.out,hm2])
  have hls2 := Lr.ents_ls o2 hs2
  obtain ⟨s2,hs2'⟩ : ∃ s,R2.ents = s := ⟨_,rfl⟩
  rw [hs2'] at hR2 hls2
  subst hR2
  have HX3 := Lib.hid ((HX2.out.below b3).below (Lr.below_own v3 (Lr.with R1 s2)))
  have HLs3 := Lib.hid (hls2.below (Lr.below_own v3 (Lr.with R1 s2)))
  obtain ⟨u3,hu3⟩ : ∃ U,Lr.box v3 (Lr.with R1 s2) = U := ⟨_,rfl⟩
  rw [hu3] at HX3 HLs3
  have HSa := Lib.hid (lw_same R1 s2 (Lr.getM (bs.take k)).ents u3 HX3.out.ls HLs3.out)
  unfold Lr.box Lr.with at hu3
  dsimp only at hu3
  have HU3 := Lib.hid hu3
  unfold Lr.val Lr.with at HSa ⊢
  dsimp only at HSa ⊢
  clear b3 hm2 o2 hs2 hs2' hls2 hu3 HX2 HU2 HLb
  obtain ⟨a0,a1,a2,a3,a4,a5,a6,a7,a8,a9,a10,a11,a12⟩ := HX3.out.c
  rw [← HU3.out] at a0 a1 a2 a3 a4 a5 a6 a7 a8 a9 a10 a11 a12
  generalize Lr.getE (bs.take k) = z
  go_wp2_with (go_at_call 12; rw [HU3.out]; refine HSa.out.mono ?_)
  rintro e u4 ⟨rfl,b4⟩
  have HB4 := Lib.hid (bchain HX3.out.bel b4)
  clear b4 HX3 HSa HU3 HLs3 a0 a1 a2 a3 a4 a5 a6 a7 a8 a9 a10 a11 a12
  go_wp2_with (go_at_call 3; refine (lruns u4).mono ?_)
  rintro e u7 ⟨rfl,b7⟩
  have HB7 := Lib.hid (bchain HB4.out b7)
  clear b7
  go_wp2_with fail
  go_ret
  exact ⟨rfl,HB7.out⟩
 ·
  go_wp2_with (at_builtin; go_must (refine By.wpList_append _ rfl (.tmp 38) (.tmp 40) rfl W.heap.size (.slice (some ⟨g,0,none⟩) n cap) bs rfl (By.own_alloc HO5.out _) (some ⟨w7.heap.size,0,none⟩) 1 1 [x8] rfl rfl (fun z => by cases z) (By.seg_one (heap_alloc_new w7 _) HX8.out) (by have := HLn.out; omega) (Nat.le_trans HB5.out.size (by simp)) ?_))
  intro v9 w9 o9 gr9 _
  have HB9 := Lib.hid ((bchain HB5.out ((Below.refl _ _).alloc (Nat.le_refl _) (.cells #[.int .u8 to1] 5))).grown gr9 (Nat.le_trans HB5.out.size (by simp)) (By.own_ge HO5.out))
  obtain ⟨ao9,cap9,rfl,L9,-⟩ := By.own_ls o9
  obtain ⟨n9,hn9⟩ : ∃ n,(bs ++ [x8]).length = n := ⟨_,rfl⟩
  have hn9' : n9 ≤ 140737488355328 := by
   rw [← hn9,List.length_append,HLn.out,List.length_singleton]
   omega
  rw [hn9] at L9 ⊢
  have HL9 := Lib.hid L9
  clear o9 gr9 L9 hn9
  go_wp2_with (go_at_call 10; refine (lt_get (bs ++ [x8]) ao9 n9 cap9 w9 HL9.out hn9').mono ?_)
  rintro e v2 ⟨R1,rfl,hm1,o1,hs1,b2⟩
  have HX2 := Lib.hid (Bx.box (bchain HB9.out b2) (Lr.ents_ls o1 hs1))
  have HM1 := Lib.hid hm1
  have HLb := Lib.hid ((HL9.out).below (bchain (Below.refl _ _) (bchain b2 (Lr.below_own v2 R1))))
  obtain ⟨u2,hu2⟩ : ∃ U,Lr.box v2 R1 = U := ⟨_,rfl⟩
  rw [hu2] at HX2 HLb
  unfold Lr.box at hu2
  have HU2 := Lib.hid hu2
  clear b2 hm1 o1 hs1 hu2
  unfold Lr.val
  go_wp2_with (go_at_call 20; rw [HU2.out]; refine (rl_get (bs ++ [x8]) ao9 n9 cap9 u2 HLb.out hn9').mono ?_)
  rintro e v3 ⟨R2,rfl,hm2,o2,hs2,b3⟩
  have hR2 : R2 = Lr.with R1 R2.ents := Lr.of_m (l := (Lr.getM (bs ++ [x8])).ents) (by rw [HM1.out,hm2])
  have hls2 := Lr.ents_ls o2 hs2
  obtain ⟨s2,hs2'⟩ : ∃ s,R2.ents = s := ⟨_,rfl⟩
  rw [hs2'] at hR2 hls2
  subst hR2
  have HX3 := Lib.hid ((HX2.out.below b3).below (Lr.below_own v3 (Lr.with R1 s2)))
  have HLs3 := Lib.hid (hls2.below (Lr.below_own v3 (Lr.with R1 s2)))
  obtain ⟨u3,hu3⟩ : ∃ U,Lr.box v3 (Lr.with R1 s2) = U := ⟨_,rfl⟩
  rw [hu3] at HX3 HLs3
  have HSa := Lib.hid (lw_same R1 s2 (Lr.getM (bs ++ [x8])).ents u3 HX3.out.ls HLs3.out)
  unfold Lr.box Lr.with at hu3
  dsimp only at hu3
  have HU3 := Lib.hid hu3
  unfold Lr.val Lr.with at HSa ⊢
  dsimp only at HSa ⊢
  clear b3 hm2 o2 hs2 hs2' hls2 hu3 HX2 HU2 HLb
  obtain ⟨a0,a1,a2,a3,a4,a5,a6,a7,a8,a9,a10,a11,a12⟩ := HX3.out.c
  rw [← HU3.out] at a0 a1 a2 a3 a4 a5 a6 a7 a8 a9 a10 a11 a12
  generalize Lr.getE (bs ++ [x8]) = z
  go_wp2_with (go_at_call 12; rw [HU3.out]; refine HSa.out.mono ?_)
  rintro e u4 ⟨rfl,b4⟩
  have HB4 := Lib.hid (bchain HX3.out.bel b4)
  clear b4 HX3 HSa HU3 HLs3 a0 a1 a2 a3 a4 a5 a6 a7 a8 a9 a10 a11 a12
  go_wp2_with (go_at_call 3; refine (lruns u4).mono ?_)
  rintro e u7 ⟨rfl,b7⟩
  have HB7 := Lib.hid (bchain HB4.out b7)
  clear b7
  go_wp2_with fail
  go_ret
  exact ⟨rfl,HB7.out⟩
end Go.Proofs.Ytagjbjppddbalaa
