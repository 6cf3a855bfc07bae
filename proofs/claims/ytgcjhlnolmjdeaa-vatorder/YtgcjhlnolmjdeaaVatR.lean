/- CONTRACTS OF PACKAGE vat: Right. -/
import Derived.Test.YtgcjhlnolmjdeaaVSeg
import Derived.Test.YtgcjhlnolmjdeaaVatA
import Derived.Test.YtgcjhlnolmjdeaaRefTable
namespace Go.Proofs.Ytgcjhlnolmjdeaa
open Go.RowKit
open Vt (Rt)
open Go.Sort (grow)

theorem vatRow_agg (r : Rt) (hs : Short r) (u : World) (i : Nat) (os : Array Obj) : Ans 17 #[.agg #[.string r.cat, .int .i64 r.y, .int .i64 r.m, .int .i64 r.d, .int .i64 r.bp]] u i os (.int .i64 (Vt.rowE r)) :=
  Calls.regrown_of (vat_row r _ _ (Below.refl _ _) hs)
theorem vatAhead_agg (a b : Rt) (ha : Short a) (hb : Short b) (ra : Vt.rowE a = 0) (rb : Vt.rowE b = 0) (u : World) (i : Nat) (os : Array Obj) : Ans 27 #[.agg #[.string a.cat, .int .i64 a.y, .int .i64 a.m, .int .i64 a.d, .int .i64 a.bp], .agg #[.string b.cat, .int .i64 b.y, .int .i64 b.m, .int .i64 b.d, .int .i64 b.bp]] u i os (.bool (Vt.lt a b)) :=
  Calls.regrown_of (vat_ahead a b _ _ (Below.refl _ _) ha hb (Vt.rowE_0.1 ra).2.1 (Vt.rowE_0.1 rb).2.1)
set_option maxHeartbeats 2000000 in
theorem vat_right (rs : List Rt) (ao : Option Addr) (n cap : Nat) (w0 w : World) (hw : Below w0.heap.size w0 w) (hR : Rts w ao n cap rs) :
    Calls Try.prog 10 #[.slice ao n cap] w fun e w' => e = .returned (.bool (Vt.tableB rs)) ∧ Below w0.heap.size w0 w' := by
  have HW := Lib.hid hw
  have HR := Lib.hid hR
  have HN := Lib.hid hR.len
  have hcap := hR.reach
  have hfit := hR.fits
  clear hw hR
  by_cases h24 : 24 < n
  · have HT := Lib.hid (Vt.table_long (l := rs) (HN.out ▸ h24))
    go_enter Try.func10, Try.ntmps10
    go_wp2
    go_ret
    exact ⟨ret_bool HT.out.symm, HW.out⟩
  · have HT := Lib.hid (Vt.table_short (l := rs) (by have := HN.out; omega))
    go_enter Try.func10, Try.ntmps10
    go_wp2
    go_loopw [3, 4, 10] (fun _ _ i wr => ∃ k : Nat, k ≤ n ∧ i = .int .i64 k ∧ Hid (Vt.okAll (Vt.prevAt rs k) (rs.drop k) = Vt.okAll none rs) ∧ Hid (∀ q, Vt.prevAt rs k = some q → Vt.rowE q = 0) ∧ Hid (Below w.heap.size w wr)) (fun _ _ i _ => n - (intOf i).toNat)
    case atStart => exact ⟨0, by omega, rfl, Lib.hid rfl, Lib.hid (fun q h => by unfold Vt.prevAt at h; rw [if_pos rfl] at h; cases h), Lib.hid (Below.refl _ _)⟩
    case round =>
      obtain ⟨k, hk, rfl, HK, HQ, HB⟩ := hrel
      by_cases hlt : k < n
      · obtain ⟨b, off, rfl⟩ := HR.out.at (by omega)
        have hkr : k < rs.length := HN.out ▸ hlt
        obtain ⟨r, hr⟩ : ∃ r, rs[k] = r := ⟨_, rfl⟩
        have hrow := (HR.out.row k hkr).below HB.out
        have HSt := Lib.hid (Vt.okAll_at rs k hkr)
        have HPr : Hid (Vt.prevAt rs (k + 1) = some r) := Lib.hid (by unfold Vt.prevAt; rw [if_neg (by omega), Nat.add_sub_cancel, List.getElem?_eq_getElem hkr, hr])
        rw [hr] at hrow HSt
        have hsh : Short r := HR.out.short r (hr ▸ List.getElem_mem hkr)
        obtain ⟨g0, g1, g2, g3, g4⟩ := hrow
        obtain ⟨W, hW, hbW, hA⟩ := boxed1 wr r
        have HBW := Lib.hid (bchain HB.out hbW)
        clear hbW
        unfold RowC at hA
        obtain ⟨a0, a1, a2, a3, a4⟩ := hA
        have k0 := cell_regrown a0
        have k1 := cell_regrown a1
        have k2 := cell_regrown a2
        have k3 := cell_regrown a3
        have k4 := cell_regrown a4
        have c1 := vatRow_agg r hsh
        by_cases he : Vt.rowE r = 0
        · have hne : (Vt.rowE r != 0) = false := by rw [he]; rfl
          by_cases hk0 : k = 0
          · subst hk0
            simp only [Nat.zero_mul, Nat.add_zero] at g0 g1 g2 g3 g4
            have HO : Hid (Vt.ok (Vt.prevAt rs 0) r = true) := by
              show _ = _
              unfold Vt.ok Vt.prevAt
              rw [decide_eq_true he]
              rfl
            have HE := Lib.hid he
            clear he hr hsh
            go_wp2
            refine wp_region_quiet_below (by kernel_rfl) (by kernel_rfl) ?_
            repeat (first | go_big_quiet_step (first | (go_at_call 17; exact c1 _ _ _)) | quiet_step (first | (go_at_call 17; exact c1 _ _ _)))
            refine wpQuiet_nil ?_
            intro _ hw'
            obtain ⟨⟨dq, osq⟩, hw''⟩ := hw'
            subst hw''
            have HBv := Lib.hid (bchain HBW.out (below_regrown W dq osq))
            go_wp2
            go_roundw
            case rel => exact ⟨1, by omega, rfl, Lib.hid (by rw [← HK.out, HSt.out, HO.out, Bool.true_and]), Lib.hid (fun q h => by rw [HPr.out] at h; cases h; exact HE.out), HBv⟩
            case measure => simp [intOf]; omega
          · obtain ⟨j, rfl⟩ : ∃ j, k = j + 1 := ⟨k - 1, by omega⟩
            have hjr : j < rs.length := by omega
            obtain ⟨q, hq⟩ : ∃ q, rs[j] = q := ⟨_, rfl⟩
            have hrow2 := (HR.out.row j hjr).below HBW.out
            have hqs : Short q := HR.out.short q (hq ▸ List.getElem_mem hjr)
            rw [hq] at hrow2
            obtain ⟨f0, f1, f2, f3, f4⟩ := hrow2
            have m0 := cell_regrown f0
            have m1 := cell_regrown f1
            have m2 := cell_regrown f2
            have m3 := cell_regrown f3
            have m4 := cell_regrown f4
            have hpj : Vt.prevAt rs (j + 1) = some q := by unfold Vt.prevAt; rw [if_neg (by omega), Nat.add_sub_cancel, List.getElem?_eq_getElem hjr, hq]
            have c2 := vatAhead_agg q r hqs hsh (HQ.out q hpj) he
            have HO : Hid (Vt.ok (Vt.prevAt rs (j + 1)) r = Vt.lt q r) := by
              show _ = _
              unfold Vt.ok
              rw [decide_eq_true he, hpj]
              rfl
            have hjs : ((j + 1 : Nat) : Int) - 1 = (j : Int) := by omega
            have HE := Lib.hid he
            clear he hq hk0 hpj hr hsh hqs
            cases hlt2 : Vt.lt q r
            · rw [hlt2] at c2 HO
              go_wp2
              refine wp_region_quiet_below (by kernel_rfl) (by kernel_rfl) ?_
              repeat (first | go_big_quiet_step (first | (go_at_call 17; exact c1 _ _ _) | (go_at_call 27; exact c2 _ _ _)) | quiet_step (first | (go_at_call 17; exact c1 _ _ _) | (go_at_call 27; exact c2 _ _ _)))
              refine wpQuiet_nil ?_
              intro _ hw'
              obtain ⟨⟨dq, osq⟩, hw''⟩ := hw'
              subst hw''
              have HBv := Lib.hid (bchain HBW.out (below_regrown W dq osq))
              go_wp2
              go_ret
              exact ⟨ret_bool (by rw [HT.out, ← HK.out, HSt.out, HO.out, Bool.false_and]), bchain HW.out HBv.out⟩
            · rw [hlt2] at c2 HO
              go_wp2
              refine wp_region_quiet_below (by kernel_rfl) (by kernel_rfl) ?_
              repeat (first | go_big_quiet_step (first | (go_at_call 17; exact c1 _ _ _) | (go_at_call 27; exact c2 _ _ _)) | quiet_step (first | (go_at_call 17; exact c1 _ _ _) | (go_at_call 27; exact c2 _ _ _)))
              refine wpQuiet_nil ?_
              intro _ hw'
              obtain ⟨⟨dq, osq⟩, hw''⟩ := hw'
              subst hw''
              have HBv := Lib.hid (bchain HBW.out (below_regrown W dq osq))
              go_wp2
              go_roundw
              case rel => exact ⟨j + 1 + 1, by omega, by go_num, Lib.hid (by rw [← HK.out, HSt.out, HO.out, Bool.true_and]), Lib.hid (fun q h => by rw [HPr.out] at h; cases h; exact HE.out), HBv⟩
              case measure => simp [intOf]; omega
        · have hne : (Vt.rowE r != 0) = true := bne_iff_ne.2 he
          have HO : Hid (Vt.ok (Vt.prevAt rs k) r = false) := by
            show _ = _
            unfold Vt.ok
            rw [decide_eq_false he]
            rfl
          clear he hr hsh
          go_wp2
          refine wp_region_quiet_below (by kernel_rfl) (by kernel_rfl) ?_
          repeat (first | go_big_quiet_step (first | (go_at_call 17; exact c1 _ _ _)) | quiet_step (first | (go_at_call 17; exact c1 _ _ _)))
          refine wpQuiet_nil ?_
          intro _ hw'
          obtain ⟨⟨dq, osq⟩, hw''⟩ := hw'
          subst hw''
          have HBv := Lib.hid (bchain HBW.out (below_regrown W dq osq))
          go_wp2
          go_ret
          exact ⟨ret_bool (by rw [HT.out, ← HK.out, HSt.out, HO.out, Bool.false_and]), bchain HW.out HBv.out⟩
      · obtain rfl : k = n := by omega
        go_wp2
        go_ret
        exact ⟨ret_bool (by rw [HT.out, ← HK.out, List.drop_eq_nil_of_le (Nat.le_of_eq HN.out.symm)]; rfl), bchain HW.out HB.out⟩
end Go.Proofs.Ytgcjhlnolmjdeaa
