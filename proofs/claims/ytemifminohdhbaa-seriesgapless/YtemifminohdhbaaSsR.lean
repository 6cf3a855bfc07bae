/- CONTRACTS OF PACKAGE series: Right. -/
import Derived.Test.YtemifminohdhbaaSsA
namespace Go.Proofs.Ytemifminohdhbaa
open Go.RowKit
open Mem
open Go.Sort (grow)

set_option maxHeartbeats 2000000 in
theorem ser_right (rs : List Sr.T) (ao : Option Addr) (n cap : Nat) (w0 w : World) (hw : Below w0.heap.size w0 w) (hR : Sr.Ls w ao n cap rs) :
    Calls Try.prog 17 #[.slice ao n cap] w fun e w' => e = .returned (.bool (Se.rightB rs)) ∧ Below w0.heap.size w0 w' := by
  have HW := Lib.hid hw
  have HR := Lib.hid hR
  have HN := Lib.hid hR.len
  have hcap := hR.reach
  have hfit := hR.fits
  clear hw hR
  by_cases h8 : 8 < n
  · have HT := Lib.hid (Se.right_long (l := rs) (HN.out ▸ h8))
    go_enter Try.func17, Try.ntmps17
    go_wp2
    go_ret
    exact ⟨ret_bool HT.out.symm, HW.out⟩
  · have HT := Lib.hid (Se.right_short (l := rs) (by have := HN.out; omega))
    go_enter Try.func17, Try.ntmps17
    go_wp2
    go_loopw [3, 4, 10] (fun _ _ i wr => ∃ k : Nat, k ≤ n ∧ i = .int .i64 k ∧ Hid (Se.okAll (Se.prevAt rs k) (rs.drop k) = Se.okAll none rs) ∧ Hid (Below w.heap.size w wr)) (fun _ _ i _ => n - (intOf i).toNat)
    case atStart => exact ⟨0, by omega, rfl, Lib.hid rfl, Lib.hid (Below.refl _ _)⟩
    case round =>
      obtain ⟨k, hk, rfl, HK, HB⟩ := hrel
      by_cases hlt : k < n
      · obtain ⟨b, off, rfl⟩ := HR.out.at (by omega)
        have hkr : k < rs.length := HN.out ▸ hlt
        obtain ⟨r, hr⟩ : ∃ r, rs[k] = r := ⟨_, rfl⟩
        have hrow := (HR.out.row k hkr).below HB.out
        have HSt := Lib.hid (Se.okAll_at rs k hkr)
        rw [hr] at hrow HSt
        have hsh : Sr.Short r := HR.out.short r (hr ▸ List.getElem_mem hkr)
        obtain ⟨g0, g1, g2, g3⟩ := hrow
        obtain ⟨W, hW, hbW, hA⟩ := Sr.boxed1 wr r
        have HBW := Lib.hid (bchain HB.out hbW)
        clear hbW
        unfold Sr.C at hA
        obtain ⟨a0, a1, a2, a3⟩ := hA
        have k0 := cell_regrown a0
        have k1 := cell_regrown a1
        have k2 := cell_regrown a2
        have k3 := cell_regrown a3
        have c1 := sound_agg r hsh
        clear hsh hr
        cases he : Se.sound r
        · rw [he] at c1
          have HO : Hid (Se.ok (Se.prevAt rs k) r = false) := by
            show _ = _
            unfold Se.ok
            rw [he]
            rfl
          clear he
          go_wp2
          refine wp_region_quiet_below (by kernel_rfl) (by kernel_rfl) ?_
          repeat (first | go_big_quiet_step (first | (go_at_call 30; exact c1 _ _ _)) | quiet_step (first | (go_at_call 30; exact c1 _ _ _)))
          refine wpQuiet_nil ?_
          intro _ hw'
          obtain ⟨⟨dq, osq⟩, hw''⟩ := hw'
          subst hw''
          have HBv := Lib.hid (bchain HBW.out (below_regrown W dq osq))
          go_wp2
          go_ret
          exact ⟨ret_bool (by rw [HT.out, ← HK.out, HSt.out, HO.out, Bool.false_and]), bchain HW.out HBv.out⟩
        · rw [he] at c1
          by_cases hk0 : k = 0
          · subst hk0
            simp only [Nat.zero_mul, Nat.add_zero] at g0 g1 g2 g3
            have HO : Hid (Se.ok (Se.prevAt rs 0) r = true) := by
              show _ = _
              unfold Se.ok Se.prevAt
              rw [he]
              rfl
            clear he
            go_wp2
            refine wp_region_quiet_below (by kernel_rfl) (by kernel_rfl) ?_
            repeat (first | go_big_quiet_step (first | (go_at_call 30; exact c1 _ _ _)) | quiet_step (first | (go_at_call 30; exact c1 _ _ _)))
            refine wpQuiet_nil ?_
            intro _ hw'
            obtain ⟨⟨dq, osq⟩, hw''⟩ := hw'
            subst hw''
            have HBv := Lib.hid (bchain HBW.out (below_regrown W dq osq))
            go_wp2
            go_roundw
            case rel => exact ⟨1, by omega, rfl, Lib.hid (by rw [← HK.out, HSt.out, HO.out, Bool.true_and]), HBv⟩
            case measure => simp [intOf]; omega
          · obtain ⟨j, rfl⟩ : ∃ j, k = j + 1 := ⟨k - 1, by omega⟩
            have hjr : j < rs.length := by omega
            obtain ⟨q, hq⟩ : ∃ q, rs[j] = q := ⟨_, rfl⟩
            have hrow2 := (HR.out.row j hjr).below HBW.out
            rw [hq] at hrow2
            obtain ⟨f0, f1, f2, f3⟩ := hrow2
            have m0 := cell_regrown f0
            have m1 := cell_regrown f1
            have m2 := cell_regrown f2
            have m3 := cell_regrown f3
            have HO : Hid (Se.ok (Se.prevAt rs (j + 1)) r = Op.bytesLess q.name.toList r.name.toList) := by
              show _ = _
              unfold Se.ok
              rw [he, Se.prev_at hjr hq]
              rfl
            have hjs : ((j + 1 : Nat) : Int) - 1 = (j : Int) := by omega
            clear he hq hk0
            cases hlt2 : Op.bytesLess q.name.toList r.name.toList
            · rw [hlt2] at HO
              go_wp2
              refine wp_region_quiet_below (by kernel_rfl) (by kernel_rfl) ?_
              repeat (first | go_big_quiet_step (first | (go_at_call 30; exact c1 _ _ _)) | quiet_step (first | (go_at_call 30; exact c1 _ _ _)))
              refine wpQuiet_nil ?_
              intro _ hw'
              obtain ⟨⟨dq, osq⟩, hw''⟩ := hw'
              subst hw''
              have HBv := Lib.hid (bchain HBW.out (below_regrown W dq osq))
              go_wp2
              go_ret
              exact ⟨ret_bool (by rw [HT.out, ← HK.out, HSt.out, HO.out, Bool.false_and]), bchain HW.out HBv.out⟩
            · rw [hlt2] at HO
              go_wp2
              refine wp_region_quiet_below (by kernel_rfl) (by kernel_rfl) ?_
              repeat (first | go_big_quiet_step (first | (go_at_call 30; exact c1 _ _ _)) | quiet_step (first | (go_at_call 30; exact c1 _ _ _)))
              refine wpQuiet_nil ?_
              intro _ hw'
              obtain ⟨⟨dq, osq⟩, hw''⟩ := hw'
              subst hw''
              have HBv := Lib.hid (bchain HBW.out (below_regrown W dq osq))
              go_wp2
              go_roundw
              case rel => exact ⟨j + 1 + 1, by omega, by go_num, Lib.hid (by rw [← HK.out, HSt.out, HO.out, Bool.true_and]), HBv⟩
              case measure => simp [intOf]; omega
      · obtain rfl : k = n := by omega
        go_wp2
        go_ret
        exact ⟨ret_bool (by rw [HT.out, ← HK.out, List.drop_eq_nil_of_le (Nat.le_of_eq HN.out.symm)]; rfl), bchain HW.out HB.out⟩
end Go.Proofs.Ytemifminohdhbaa
