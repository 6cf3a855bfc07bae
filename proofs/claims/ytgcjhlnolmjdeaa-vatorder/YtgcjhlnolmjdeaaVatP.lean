/- CONTRACTS OF PACKAGE vat: Put. -/
import Derived.Test.YtgcjhlnolmjdeaaVatW
namespace Go.Proofs.Ytgcjhlnolmjdeaa
open Go.RowKit
open Vt (Rt)
open Go.Sort (grow)

set_option maxHeartbeats 2000000 in
theorem vat_put (rs : List Rt) (ao : Option Addr) (n cap : Nat) (r : Rt) (w : World) (hR : Rts w ao n cap rs) (hs : Short r) :
    Calls Try.prog 12 #[.slice ao n cap, rowV r] w (PutE w rs r) := by
  have HR := Lib.hid hR
  have HS := Lib.hid hs
  have HN := Lib.hid hR.len
  have hcap := hR.reach
  have hfit := hR.fits
  clear hR hs
  unfold rowV
  go_enter Try.func12, Try.ntmps12
  go_wp2_with fail
  refine (vat_right rs ao n cap _ _ (Below.refl _ _) (HR.out.below (below_boxR' w r))).mono ?_
  rintro e w1 ⟨rfl, b1⟩
  cases hT : Vt.tableB rs
  · have HP := Lib.hid (put_table (r := r) hT)
    have HB := Lib.hid (bchain (below_boxR' w r) b1)
    clear b1
    go_wp2_with fail
    go_ret2
    exact ⟨_, by rw [HP.out.1]; rfl, by rw [HP.out.2]; exact own_nil _ _, HB.out⟩
  · have HTT := Lib.hid hT
    have hC := (rowC_box w r).below b1
    have HC := Lib.hid hC
    unfold RowC at hC
    obtain ⟨a0, a1, a2, a3, a4⟩ := hC
    have HB1 := Lib.hid (bchain (below_boxR' w r) b1)
    clear b1 hT
    go_wp2_with fail
    refine (vat_row r _ _ (Below.refl _ _) HS.out).mono ?_
    rintro e w2 ⟨rfl, b2⟩
    clear a0 a1 a2 a3 a4
    have hC := HC.out.below b2
    have HC2 := Lib.hid hC
    unfold RowC at hC
    obtain ⟨a0, a1, a2, a3, a4⟩ := hC
    have HB2 := Lib.hid (bchain HB1.out b2)
    clear b2
    by_cases he : Vt.rowE r = 0
    · have HE := Lib.hid he
      have HTk := Lib.hid (Vt.taken_any r HE.out rs ((Vt.table_iff rs).1 HTT.out).2.2 ((Vt.table_iff rs).1 HTT.out).2.1)
      rw [he]
      clear he
      go_wp2_with fail
      refine (vat_taken rs ao n cap r _ _ (Below.refl _ _) (HR.out.below HB2.out)).mono ?_
      rintro e w3 ⟨rfl, b3⟩
      clear a0 a1 a2 a3 a4
      have hC := HC2.out.below b3
      unfold RowC at hC
      obtain ⟨a0, a1, a2, a3, a4⟩ := hC
      have HB3 := Lib.hid (bchain HB2.out b3)
      clear b3
      cases hk : rs.any (Vt.sameB r)
      · have HK : Hid (Vt.taken rs r = false) := Lib.hid (HTk.out.trans hk)
        clear hk
        by_cases h24 : n = 24
        · have hq : ((n : Int) == 24) = true := beq_iff_eq.2 (by omega)
          have HP := Lib.hid (put_long HTT.out HE.out HK.out (by have := HN.out; omega))
          clear h24
          go_wp2_with fail
          go_ret2
          exact ⟨_, by rw [HP.out.1]; rfl, by rw [HP.out.2]; exact own_nil _ _, HB3.out⟩
        · have hq : ((n : Int) == 24) = false := beq_eq_false_iff_ne.2 (by omega)
          have HL : Hid (n < 24) := Lib.hid (by have h1 := ((Vt.table_iff rs).1 HTT.out).1; have := HN.out; omega)
          have HP := Lib.hid (put_ok HTT.out HE.out HK.out (by have := HL.out; have := HN.out; omega))
          clear h24
          go_wp2_with fail
          refine (vat_with rs ao n cap r _ (HR.out.below HB3.out) HS.out HL.out ((Vt.table_iff rs).1 HTT.out).2.1 HE.out).mono ?_
          rintro e w4 ⟨v, rfl, o4, b4⟩
          have HO := Lib.hid (own_mono o4 HB3.out.size)
          have HB4 := Lib.hid (bchain HB3.out b4)
          clear o4 b4
          go_wp2_with fail
          go_ret2
          exact ⟨v, by rw [HP.out.1]; rfl, by rw [HP.out.2]; exact HO.out, HB4.out⟩
      · have HP := Lib.hid (put_taken HTT.out HE.out (HTk.out.trans hk))
        clear hk
        go_wp2_with fail
        go_ret2
        exact ⟨_, by rw [HP.out.1]; rfl, by rw [HP.out.2]; exact own_nil _ _, HB3.out⟩
    · have hne : (Vt.rowE r != 0) = true := bne_iff_ne.2 he
      have HP := Lib.hid (put_row HTT.out he)
      go_wp2_with fail
      go_ret2
      exact ⟨_, by rw [HP.out.1]; rfl, by rw [HP.out.2]; exact own_nil _ _, HB2.out⟩
end Go.Proofs.Ytgcjhlnolmjdeaa
