/- CONTRACTS OF PACKAGE session: Right. -/
import Derived.Test.YtfilanbjfnnknaaSnCa
namespace Go.Proofs.Ytfilanbjfnnknaa
open Go.RowKit
open Mem
open Go.Sort (grow)

set_option maxHeartbeats 2000000 in
theorem ses_right (rs : List Sn.T) (ao : Option Addr) (n cap : Nat) (w0 w : World) (hw : Below w0.heap.size w0 w) (hR : Sn.Ls w ao n cap rs) :
    Calls Try.prog 16 #[.slice ao n cap] w fun e w' => e = .returned (.bool (Sp.rightB rs)) ∧ Below w0.heap.size w0 w' := by
  have HW := Lib.hid hw
  have HR := Lib.hid hR
  have HN := Lib.hid hR.len
  have hcap := hR.reach
  have hfit := hR.fits
  clear hw hR
  by_cases h8 : 8 < n
  · have HT := Lib.hid (Sp.right_long (l := rs) (HN.out ▸ h8))
    go_enter Try.func16, Try.ntmps16
    go_wp2
    go_ret
    exact ⟨ret_bool HT.out.symm, HW.out⟩
  · have HT := Lib.hid (Sp.right_short (l := rs) (by have := HN.out; omega))
    go_enter Try.func16, Try.ntmps16
    go_wp2
    go_loopw [3, 5, 11] (fun a _ i wr => ∃ (k : Nat) (A : Int), k ≤ n ∧ a = .int .i64 A ∧ i = .int .i64 k ∧ Hid (A = Sp.aid (Sp.prevAt rs k) ∧ 0 ≤ A) ∧ Hid (Sp.okAll (Sp.prevAt rs k) (rs.drop k) = Sp.okAll none rs) ∧ Hid (Below w.heap.size w wr)) (fun _ _ i _ => n - (intOf i).toNat)
    case atStart => exact ⟨0, 0, by omega, rfl, rfl, Lib.hid ⟨rfl, Int.le_refl _⟩, Lib.hid rfl, Lib.hid (Below.refl _ _)⟩
    case round =>
      obtain ⟨k, A, hk, rfl, rfl, HA, HK, HB⟩ := hrel
      by_cases hlt : k < n
      · obtain ⟨b, off, rfl⟩ := HR.out.at (by omega)
        have hkr : k < rs.length := HN.out ▸ hlt
        obtain ⟨r, hr⟩ : ∃ r, rs[k] = r := ⟨_, rfl⟩
        have hrow := (HR.out.row k hkr).below HB.out
        have HSt := Lib.hid (Sp.okAll_at rs k hkr)
        have HPv := Lib.hid (Sp.prev_at hkr hr)
        rw [hr] at hrow HSt
        have HO := Lib.hid (Sp.ok_mid (Sp.prevAt rs k) r (by rw [← HA.out.1]; exact HA.out.2))
        rw [← HA.out.1] at HO
        obtain ⟨g0, g1, g2, g3, g4⟩ := hrow
        obtain ⟨W, hW, hbW, hA⟩ := Sn.boxed1 wr r
        have HBW := Lib.hid (bchain HB.out hbW)
        have HC := Lib.hid hA
        clear hbW hr
        unfold Sn.C at hA
        obtain ⟨a0, a1, a2, a3, a4⟩ := hA
        by_cases hle : r.id ≤ A
        · have hd : decide (r.id ≤ A) = true := decide_eq_true hle
          have HD : Hid (decide (A < r.id) = false) := Lib.hid (decide_eq_false (by omega))
          clear hle
          go_wp2_with fail
          go_ret
          exact ⟨ret_bool (by rw [HT.out, ← HK.out, HSt.out, HO.out, HD.out, Bool.false_and, Bool.false_and]), bchain HW.out HBW.out⟩
        · have hd : decide (r.id ≤ A) = false := decide_eq_false hle
          have HD : Hid (decide (A < r.id) = true) := Lib.hid (decide_eq_true (by omega))
          have HG : Hid (0 ≤ r.id) := Lib.hid (by have := HA.out.2; omega)
          clear hle
          go_wp2_with fail
          refine (ses_sound r W _ (Below.refl _ _)).mono ?_
          rintro e w1 ⟨rfl, b1⟩
          have hA := HC.out.below b1
          have HB1 := Lib.hid (bchain HBW.out b1)
          clear a0 a1 a2 a3 a4 b1 HC
          unfold Sn.C at hA
          obtain ⟨a0, a1, a2, a3, a4⟩ := hA
          cases hm : Sp.mid r
          · rw [hm] at HO
            clear hm
            go_wp2_with fail
            go_ret
            exact ⟨ret_bool (by rw [HT.out, ← HK.out, HSt.out, HO.out, Bool.and_false, Bool.false_and]), bchain HW.out HB1.out⟩
          · rw [hm] at HO
            clear hm
            go_wp2_with fail
            go_roundw
            case rel => exact ⟨k + 1, r.id, by omega, rfl, by go_num, Lib.hid ⟨by rw [HPv.out]; rfl, HG.out⟩, Lib.hid (by rw [← HK.out, HSt.out, HO.out, HD.out, Bool.true_and, Bool.true_and]), HB1⟩
            case measure => simp [intOf]; omega
      · obtain rfl : k = n := by omega
        go_wp2_with fail
        go_ret
        exact ⟨ret_bool (by rw [HT.out, ← HK.out, List.drop_eq_nil_of_le (Nat.le_of_eq HN.out.symm)]; rfl), bchain HW.out HB.out⟩
end Go.Proofs.Ytfilanbjfnnknaa
