/- THE WALK OF VatGrows. -/
import Derived.Test.YtgcjhlnolmjdeaaVRuns
namespace Go.Proofs.Ytgcjhlnolmjdeaa
open Go.RowKit
open Vt (Rt)

set_option maxHeartbeats 4000000 in
theorem vatGrows_walk (rs : List Rt) (ao : Option Addr) (n cap : Nat) (r : Rt) (c : ByteArray) (y m d : Int) (w : World) (hR : Rts w ao n cap rs) (hs : Short r) (hy : Fit y) (hm : Fit m) (hd : Fit d) :
    Calls Try.prog 6 #[.slice ao n cap, rowV r, .string c, dayV y m d] w fun e w' => e = .returned (.bool true) ∧ Below w.heap.size w w' := by
  have HR := Lib.hid hR
  have HS := Lib.hid hs
  have HF := Lib.hid (And.intro hy (And.intro hm hd))
  clear hR hs hy hm hd
  obtain ⟨W, hW, hbW, hCr, hCd⟩ := boxedRD w r y m d
  have HBW := Lib.hid hbW
  have HCr := Lib.hid hCr
  have HCd := Lib.hid hCd
  clear hbW hCr hCd
  unfold rowV dayV
  go_enter Try.func6, Try.ntmps6
  go_wp2_with fail
  refine (table_any rs ao n cap _ (HR.out.below HBW.out)).mono ?_
  rintro e w1 ⟨v, rfl, o1, b1⟩
  obtain ⟨ta, tc, rfl, hT, _⟩ := own_rts o1 (tab_short HR.out.short 40)
  have HT := Lib.hid hT
  have HB1 := Lib.hid b1
  clear hT o1 b1 hW
  obtain ⟨T, hTT⟩ : ∃ T, Vt.tab [] (rs.take 40) = T := ⟨_, rfl⟩
  have HTB : Hid (Vt.tableB T = true) := Lib.hid (hTT ▸ Vt.tab_table _ _ Vt.table_nil)
  have HSh : Hid (∀ a ∈ T, Short a) := Lib.hid (hTT ▸ tab_short HR.out.short 40)
  rw [hTT] at HT ⊢
  clear hTT
  have htl : T.length ≤ 24 := ((Vt.table_iff T).1 HTB.out).1
  generalize hTn : T.length = tn at *
  have HTn := Lib.hid hTn
  clear hTn
  have HBw1 := Lib.hid (bchain HBW.out HB1.out)
  replace HCr := Lib.hid (HCr.out.below HB1.out)
  replace HCd := Lib.hid (HCd.out.below HB1.out)
  clear HB1 HBW
  go_wp2_with fail
  refine (vat_right T ta tn tc w1 _ (Below.refl _ _) HT.out).mono ?_
  rintro e w2 ⟨rfl, b2⟩
  have HB2 := Lib.hid b2
  clear b2
  rw [HTB.out]
  have hC2 := HCr.out.below HB2.out
  unfold RowC at hC2
  obtain ⟨a20, a21, a22, a23, a24⟩ := hC2
  go_wp2_with fail
  refine (vat_put T ta tn tc r _ (HT.out.below HB2.out) HS.out).mono ?_
  rintro e w3 ⟨v, rfl, o3, b3⟩
  obtain ⟨va, vc, rfl, hV, _⟩ := own_rts o3 (fun a ha => by
    rcases Vt.putR_mem ha with rfl | ha
    · exact HS.out
    · exact HSh.out a ha)
  have HV := Lib.hid hV
  have HB3 := Lib.hid (bchain HB2.out b3)
  clear hV o3 b3 a20 a21 a22 a23 a24
  by_cases he : Vt.putE T r = 0
  · have HE := Lib.hid he
    have hq : Vt.putR T r = Vt.putL T r := by
      unfold Vt.putR
      rw [if_pos he]
    have hql : (Vt.putL T r).length = tn + 1 := by rw [Vt.putL_len, HTn.out]
    rw [he]
    rw [hq, hql] at HV
    rw [hq, hql]
    clear he hq hql
    obtain ⟨M, hM⟩ : ∃ M, Vt.putL T r = M := ⟨_, rfl⟩
    have HM := Lib.hid hM
    rw [hM] at HV
    clear hM
    have HF1 : Hid (Vt.find M r.cat r.y r.m r.d = (r.bp, true)) := Lib.hid (HM.out ▸ Vt.find_own HE.out)
    have HF2 : Hid (r.cat ≠ c → Vt.find M c y m d = Vt.find T c y m d) := Lib.hid fun k => HM.out ▸ Vt.find_other HE.out k y m d
    have HF3 : Hid (Vt.tableB M = true) := Lib.hid (HM.out ▸ Vt.put_table HE.out)
    have hC3 := HCr.out.below HB3.out
    unfold RowC at hC3
    obtain ⟨a30, a31, a32, a33, a34⟩ := hC3
    go_wp2_with fail
    refine (vat_find M va (tn + 1) vc r.cat r.y r.m r.d w3 _ (Below.refl _ _) HV.out HS.out.2.1 HS.out.2.2.1 HS.out.2.2.2.1).mono ?_
    rintro e w4 ⟨rfl, b4⟩
    have HB4 := Lib.hid b4
    clear b4
    rw [HF1.out]
    unfold foundE
    dsimp only
    clear a30 a31 a32 a33 a34
    have hD4 := HCd.out.below (bchain HB3.out HB4.out)
    unfold DayC at hD4
    obtain ⟨d40, d41, d42⟩ := hD4
    go_wp2_with fail
    refine (vat_find T ta tn tc c y m d w3 _ HB4.out (HT.out.below (bchain HB3.out HB4.out)) HF.out.1 HF.out.2.1 HF.out.2.2).mono ?_
    rintro e w5 ⟨rfl, b5⟩
    have HB5 := Lib.hid b5
    clear b5
    obtain ⟨⟨x, f⟩, hx⟩ : ∃ k, Vt.find T c y m d = k := ⟨_, rfl⟩
    have HX := Lib.hid hx
    rw [hx]
    unfold foundE
    dsimp only
    clear hx
    clear d40 d41 d42
    have hD5 := HCd.out.below (bchain HB3.out HB5.out)
    unfold DayC at hD5
    obtain ⟨d50, d51, d52⟩ := hD5
    go_wp2_with fail
    refine (vat_find M va (tn + 1) vc c y m d w3 _ HB5.out (HV.out.below HB5.out) HF.out.1 HF.out.2.1 HF.out.2.2).mono ?_
    rintro e w6 ⟨rfl, b6⟩
    have HB6 := Lib.hid b6
    clear b6
    obtain ⟨⟨z, g⟩, hx⟩ : ∃ k, Vt.find M c y m d = k := ⟨_, rfl⟩
    have HZ := Lib.hid hx
    rw [hx]
    unfold foundE
    dsimp only
    clear hx
    clear d50 d51 d52
    go_wp2_with fail
    refine (vat_right M va (tn + 1) vc w3 _ HB6.out (HV.out.below HB6.out)).mono ?_
    rintro e w7 ⟨rfl, b7⟩
    have HB7 := Lib.hid b7
    clear b7
    rw [HF3.out]
    have hC7 := HCr.out.below (bchain HB3.out HB7.out)
    unfold RowC at hC7
    obtain ⟨a70, a71, a72, a73, a74⟩ := hC7
    have hbp : (r.bp == r.bp) = true := beq_self_eq_true _
    by_cases hc : r.cat = c
    · have hcc : (c.toList == r.cat.toList) = true := beq_iff_eq.2 (by rw [hc])
      clear hc
      go_wp2_with fail
      refine (vruns_any w3 _ HB7.out).mono ?_
      rintro e w8 ⟨rfl, b8⟩
      have HB8 := Lib.hid b8
      clear b8
      go_wp2_with fail
      go_ret
      exact ⟨rfl, bchain HBw1.out (bchain HB3.out HB8.out)⟩
    · have hcc : (c.toList == r.cat.toList) = false := beq_eq_false_iff_ne.2 fun k => hc (Vt.cat_ext k.symm)
      have hxz : (x, f) = (z, g) := by rw [← HX.out, ← HZ.out]; exact (HF2.out hc).symm
      injection hxz with hx1 hx2
      subst hx1 hx2
      have hxx : (x == x) = true := beq_self_eq_true _
      have hff : (f == f) = true := beq_self_eq_true _
      clear hc
      go_wp2_with fail
      refine (vruns_any w3 _ HB7.out).mono ?_
      rintro e w8 ⟨rfl, b8⟩
      have HB8 := Lib.hid b8
      clear b8
      go_wp2_with fail
      go_ret
      exact ⟨rfl, bchain HBw1.out (bchain HB3.out HB8.out)⟩
  · have hq : Vt.putR T r = [] := by
      unfold Vt.putR
      rw [if_neg he]
    rw [hq]
    obtain ⟨k, hk⟩ : ∃ k, Vt.putE T r = k := ⟨_, rfl⟩
    rw [hk] at he
    rw [hk]
    have hne : (k != 0) = true := bne_iff_ne.2 he
    clear he hk hq HV
    go_wp2_with fail
    refine (vruns_any w1 _ HB3.out).mono ?_
    rintro e w4 ⟨rfl, b4⟩
    have HB4 := Lib.hid b4
    clear b4
    go_wp2_with fail
    go_ret
    exact ⟨rfl, bchain HBw1.out HB4.out⟩
end Go.Proofs.Ytgcjhlnolmjdeaa
