/- THE DOCUMENT's OWN ANSWER: impostref3's Table. -/
import Derived.Test.YtgcjhlnolmjdeaaVSeg
import Derived.Test.YtgcjhlnolmjdeaaRefVat
namespace Go.Proofs.Ytgcjhlnolmjdeaa
open Go.RowKit
open Vt (Rt)
open Go.Sort (grow)

def Ans (f : FuncId) (args : Array Value) (u : World) (i : Nat) (os : Array Obj) (v : Value) : Prop :=
  Calls Try.prog f args (grow (redrawn u i) os) fun e w'' => e = .returned v ∧ ∃ p : Regrown, w'' = grow (redrawn u p.d) p.os
theorem refRow_agg (r : Rt) (hs : Short r) (u : World) (i : Nat) (os : Array Obj) : Ans 18 #[.agg #[.string r.cat, .int .i64 r.y, .int .i64 r.m, .int .i64 r.d, .int .i64 r.bp]] u i os (.int .i64 (Vt.rowE r)) :=
  Calls.regrown_of (refRow_any r _ _ (Below.refl _ _) hs)
theorem refBefore_agg (a b : Rt) (u : World) (i : Nat) (os : Array Obj) : Ans 34 #[.agg #[.string a.cat, .int .i64 a.y, .int .i64 a.m, .int .i64 a.d, .int .i64 a.bp], .agg #[.string b.cat, .int .i64 b.y, .int .i64 b.m, .int .i64 b.d, .int .i64 b.bp]] u i os (.bool (Vt.lt a b)) :=
  Calls.regrown_of (refBefore_any a b _ _ (Below.refl _ _))
set_option maxHeartbeats 2000000 in
theorem refTable_any (rs : List Rt) (ao : Option Addr) (n cap : Nat) (w0 w : World) (hw : Below w0.heap.size w0 w) (hR : Rts w ao n cap rs) :
    Calls Try.prog 19 #[.slice ao n cap] w fun e w' => e = .returned (.bool (Vt.tableB rs)) ∧ Below w0.heap.size w0 w' := by
  have HW := Lib.hid hw
  have HR := Lib.hid hR
  have hn := hR.len
  have hcap := hR.reach
  have hfit := hR.fits
  clear hw hR
  by_cases h24 : 24 < n
  · have HT := Lib.hid (Vt.table_long (l := rs) (by omega))
    go_enter Try.func19, Try.ntmps19
    go_wp2
    go_ret
    exact ⟨ret_bool HT.out.symm, HW.out⟩
  · have HT := Lib.hid (Vt.table_short (l := rs) (by omega))
    go_enter Try.func19, Try.ntmps19
    go_wp2
    go_loopw [3] (fun i wr => ∃ k : Nat, k ≤ n ∧ i = .int .i64 k ∧ Hid (Vt.okAll (Vt.prevAt rs k) (rs.drop k) = Vt.okAll none rs) ∧ Hid (Below w.heap.size w wr)) (fun i _ => n - (intOf i).toNat)
    case atStart => exact ⟨0, by omega, rfl, Lib.hid rfl, Lib.hid (Below.refl _ _)⟩
    case round =>
      obtain ⟨k, hk, rfl, HK, HB⟩ := hrel
      by_cases hlt : k < n
      · obtain ⟨b, off, rfl⟩ := HR.out.at (by omega)
        have hkr : k < rs.length := by omega
        obtain ⟨r, hr⟩ : ∃ r, rs[k] = r := ⟨_, rfl⟩
        have hrow := (HR.out.row k hkr).below HB.out
        have HSt := Lib.hid (Vt.okAll_at rs k hkr)
        rw [hr] at hrow HSt
        have hsh : Short r := HR.out.short r (hr ▸ List.getElem_mem hkr)
        obtain ⟨g0, g1, g2, g3, g4⟩ := hrow
        have k0 := cell_regrown g0
        have k1 := cell_regrown g1
        have k2 := cell_regrown g2
        have k3 := cell_regrown g3
        have k4 := cell_regrown g4
        have c1 := refRow_agg r hsh
        clear hr hsh
        by_cases he : Vt.rowE r = 0
        · have hne : (Vt.rowE r != 0) = false := by rw [he]; rfl
          by_cases hk0 : k = 0
          · subst hk0
            simp only [Nat.zero_mul, Nat.add_zero] at k0 k1 k2 k3 k4
            have HO : Hid (Vt.ok (Vt.prevAt rs 0) r = true) := by
              show _ = _
              unfold Vt.ok Vt.prevAt
              rw [decide_eq_true he]
              rfl
            clear he
            go_wp2
            refine wp_region_quiet_below (by kernel_rfl) (by kernel_rfl) ?_
            repeat (first | go_big_quiet_step (first | (go_at_call 18; exact c1 _ _ _)) | quiet_step (first | (go_at_call 18; exact c1 _ _ _)))
            refine wpQuiet_nil ?_
            intro _ hw'
            obtain ⟨⟨dq, osq⟩, hw''⟩ := hw'
            subst hw''
            have HBv := Lib.hid (bchain HB.out (below_regrown wr dq osq))
            go_wp2
            go_roundw
            case rel => exact ⟨1, by omega, rfl, Lib.hid (by rw [← HK.out, HSt.out, HO.out, Bool.true_and]), HBv⟩
            case measure => simp [intOf]; omega
          · obtain ⟨j, rfl⟩ : ∃ j, k = j + 1 := ⟨k - 1, by omega⟩
            have hjr : j < rs.length := by omega
            obtain ⟨q, hq⟩ : ∃ q, rs[j] = q := ⟨_, rfl⟩
            have hrow2 := (HR.out.row j hjr).below HB.out
            rw [hq] at hrow2
            obtain ⟨f0, f1, f2, f3, f4⟩ := hrow2
            have m0 := cell_regrown f0
            have m1 := cell_regrown f1
            have m2 := cell_regrown f2
            have m3 := cell_regrown f3
            have m4 := cell_regrown f4
            have c2 := refBefore_agg q r
            have HO : Hid (Vt.ok (Vt.prevAt rs (j + 1)) r = Vt.lt q r) := by
              show _ = _
              unfold Vt.ok Vt.prevAt
              rw [decide_eq_true he, if_neg (by omega), Nat.add_sub_cancel, List.getElem?_eq_getElem hjr, hq]
              rfl
            have hjs : ((j + 1 : Nat) : Int) - 1 = (j : Int) := by omega
            clear he hq hk0
            cases hlt2 : Vt.lt q r
            · rw [hlt2] at c2 HO
              go_wp2
              refine wp_region_quiet_below (by kernel_rfl) (by kernel_rfl) ?_
              repeat (first | go_big_quiet_step (first | (go_at_call 18; exact c1 _ _ _) | (go_at_call 34; exact c2 _ _ _)) | quiet_step (first | (go_at_call 18; exact c1 _ _ _) | (go_at_call 34; exact c2 _ _ _)))
              refine wpQuiet_nil ?_
              intro _ hw'
              obtain ⟨⟨dq, osq⟩, hw''⟩ := hw'
              subst hw''
              have HBv := Lib.hid (bchain HB.out (below_regrown wr dq osq))
              go_wp2
              go_ret
              exact ⟨ret_bool (by rw [HT.out, ← HK.out, HSt.out, HO.out, Bool.false_and]), bchain HW.out HBv.out⟩
            · rw [hlt2] at c2 HO
              go_wp2
              refine wp_region_quiet_below (by kernel_rfl) (by kernel_rfl) ?_
              repeat (first | go_big_quiet_step (first | (go_at_call 18; exact c1 _ _ _) | (go_at_call 34; exact c2 _ _ _)) | quiet_step (first | (go_at_call 18; exact c1 _ _ _) | (go_at_call 34; exact c2 _ _ _)))
              refine wpQuiet_nil ?_
              intro _ hw'
              obtain ⟨⟨dq, osq⟩, hw''⟩ := hw'
              subst hw''
              have HBv := Lib.hid (bchain HB.out (below_regrown wr dq osq))
              go_wp2
              go_roundw
              case rel => exact ⟨j + 1 + 1, by omega, by go_num, Lib.hid (by rw [← HK.out, HSt.out, HO.out, Bool.true_and]), HBv⟩
              case measure => simp [intOf]; omega
        · have hne : (Vt.rowE r != 0) = true := bne_iff_ne.2 he
          have HO : Hid (Vt.ok (Vt.prevAt rs k) r = false) := by
            show _ = _
            unfold Vt.ok
            rw [decide_eq_false he]
            rfl
          clear he
          go_wp2
          refine wp_region_quiet_below (by kernel_rfl) (by kernel_rfl) ?_
          repeat (first | go_big_quiet_step (first | (go_at_call 18; exact c1 _ _ _)) | quiet_step (first | (go_at_call 18; exact c1 _ _ _)))
          refine wpQuiet_nil ?_
          intro _ hw'
          obtain ⟨⟨dq, osq⟩, hw''⟩ := hw'
          subst hw''
          have HBv := Lib.hid (bchain HB.out (below_regrown wr dq osq))
          go_wp2
          go_ret
          exact ⟨ret_bool (by rw [HT.out, ← HK.out, HSt.out, HO.out, Bool.false_and]), bchain HW.out HBv.out⟩
      · obtain rfl : k = n := by omega
        go_wp2
        go_ret
        exact ⟨ret_bool (by rw [HT.out, ← HK.out, List.drop_eq_nil_of_le (by omega)]; rfl), bchain HW.out HB.out⟩
end Go.Proofs.Ytgcjhlnolmjdeaa
