/- THE DOCUMENT's OWN ANSWER: impostref8's day from a reader. -/
import Derived.Test.YtndfhnaafaijcaaRfS
set_option linter.unusedVariables false
set_option maxRecDepth 100000
namespace Go.Proofs.Ytndfhnaafaijcaa
open Go.RowKit
open Mem Pk Cm

theorem boxD (w : World) (y m d : Int) : ∃ W, w.alloc (.cells #[.int .i64 y, .int .i64 m, .int .i64 d] 30) = W ∧ Below w.heap.size w W ∧ D3 W w.heap.size y m d :=
  ⟨_, rfl, below_box (Below.refl _ _) _, by simp [go_sem], by simp [go_sem], by simp [go_sem], fun o => by simp [go_sem]⟩
set_option maxHeartbeats 8000000 in
theorem ref_date (p : Nat) (ao : Option Addr) (n cap : Nat) (bs : List UInt8) (s : St) (w : World) (hR : Rd w p ao n cap bs s) :
    Calls Try.prog 46 #[.pointer (some ⟨p, 0, none⟩)] w fun e w' => e = .returned (.agg #[.int .i64 (rDay bs s).1.1, .int .i64 (rDay bs s).1.2.1, .int .i64 (rDay bs s).1.2.2]) ∧ Rd w' p ao n cap bs (rDay bs s).2 ∧ Upd w p w' := by
  have hlt := cell_lt hR.c0
  have HO0 := Lib.hid (hR.off (Nat.le_refl _))
  obtain ⟨W0, hW0, hb0, hA⟩ := boxD w 0 0 0
  have HU0 := Lib.hid (Upd.of p hb0)
  have HR := Lib.hid (hR.below hb0)
  have HA := Lib.hid hA
  have hnp : w.heap.size ≠ p := by omega
  have hlA := hb0.size
  have hl0 := cell_lt hA.c0
  clear hR hb0 hA
  go_enter Try.func46, Try.ntmps46
  go_wp2_with fail
  clear hW0
  refine (ref_rd_num p ao n cap bs s _ HR.out).mono ?_
  rintro e w1 ⟨rfl, hR1, hU1⟩
  obtain ⟨v1, s1, hv1⟩ : ∃ v1 s1, rNum bs s = (v1, s1) := ⟨_, _, rfl⟩
  rw [hv1] at hR1 ⊢
  dsimp only at hR1 ⊢
  have hs1 := hU1.size
  have HO1 := Lib.hid (hR1.off (Nat.le_refl _))
  have hp1 : w1.heap.size ≠ p := by omega
  have hn01 : w.heap.size ≠ w1.heap.size := by omega
  go_wp2_with fail
  obtain ⟨W1, hW1, d1, hD⟩ := boxD w1 v1 0 0
  rw [hW1]
  have HA1 := Lib.hid (((HA.out.upd hU1 hnp).upd (Upd.of p d1) hnp))
  have HR1 := Lib.hid (hR1.below d1)
  have HU1 := Lib.hid ((HU0.out.trans hU1).trans (Upd.of p d1))
  have HD := Lib.hid hD
  clear hR1 hU1 d1 hD hW1
  refine (ref_rd_num p ao n cap bs s1 _ HR1.out).mono ?_
  rintro e w2 ⟨rfl, hR2, hU2⟩
  obtain ⟨v2, s2, hv2⟩ : ∃ v2 s2, rNum bs s1 = (v2, s2) := ⟨_, _, rfl⟩
  rw [hv2] at hR2 ⊢
  dsimp only at hR2 ⊢
  have D2 := HD.out.upd hU2 hp1
  have HD2 := Lib.hid (D2.s1 v2)
  have HA2 := Lib.hid ((HA1.out.upd hU2 hnp).upd (Upd.set (p := w1.heap.size) (o := 1) (.int .i64 v2)) hn01)
  have HR2 := Lib.hid (hR2.other (o := 1) HO1.out (.int .i64 v2))
  have HU2 := Lib.hid ((HU1.out.trans hU2).fresh (q := w1.heap.size) (o := 1) (by omega) (.int .i64 v2))
  clear hR2 hU2
  obtain ⟨d0, d1, d2, df⟩ := D2
  go_wp2_with fail
  refine (ref_rd_num p ao n cap bs s2 _ HR2.out).mono ?_
  rintro e w3 ⟨rfl, hR3, hU3⟩
  obtain ⟨v3, s3, hv3⟩ : ∃ v3 s3, rNum bs s2 = (v3, s3) := ⟨_, _, rfl⟩
  rw [hv3] at hR3 ⊢
  dsimp only at hR3 ⊢
  have HV : Hid (rDay bs s = ((v1, v2, v3), s3)) := Lib.hid (by
    unfold rDay
    rw [hv1]
    dsimp only
    rw [hv2]
    dsimp only
    rw [hv3])
  have D3' := HD2.out.upd hU3 hp1
  have A3 := HA2.out.upd hU3 hnp
  have HR3 := Lib.hid hR3
  have HU3 := Lib.hid (HU2.out.trans hU3)
  clear hR3 hU3 d0 d1 d2 df
  obtain ⟨d0, d1, d2, df⟩ := D3'
  obtain ⟨a0, a1, a2, af⟩ := A3
  go_wp2_with fail
  refine bodyPost_ret (v := .agg #[.int .i64 v1, .int .i64 v2, .int .i64 v3]) (by simp [results, Try.results46, go_sem, a0, a1, a2]) rfl ⟨by rw [HV.out], ?_, ?_⟩
  · rw [HV.out]
    exact (((HR3.out.other HO1.out _).other HO0.out _).other HO0.out _).other HO0.out _
  · exact (((HU3.out.fresh (by omega) _).fresh (Nat.le_refl _) _).fresh (Nat.le_refl _) _).fresh (Nat.le_refl _) _
end Go.Proofs.Ytndfhnaafaijcaa
