/- THE DOCUMENT's OWN ANSWER: impostref3's Find. -/
import Derived.Test.YtgcjhlnolmjdeaaRefTable
namespace Go.Proofs.Ytgcjhlnolmjdeaa
open Go.RowKit
open Vt (Rt)
open Go.Sort (grow)

/-- what Find answers -/
def foundE (p : Int × Bool) : Ending := .returned (.tuple #[.int .i64 p.1, .bool p.2])
theorem last_at (c : ByteArray) (n : Int) (acc : Int × Bool) (rs : List Rt) (k : Nat) (h : k < rs.length) : Vt.last c n acc (rs.drop k) = Vt.last c n (if Vt.hit c n rs[k] = true then (rs[k].bp, true) else acc) (rs.drop (k + 1)) := by
  rw [List.drop_eq_getElem_cons h]
  rfl
theorem hit_yes {c : ByteArray} {n : Int} {r : Rt} (h : r.cat = c) (k : Vt.dy r ≤ n) : Vt.hit c n r = true := by
  unfold Vt.hit
  rw [decide_eq_true h, decide_eq_true k]
  rfl
theorem hit_no {c : ByteArray} {n : Int} {r : Rt} (h : r.cat ≠ c ∨ ¬ Vt.dy r ≤ n) : Vt.hit c n r = false := by
  unfold Vt.hit
  rcases h with h | h
  · rw [decide_eq_false h]; rfl
  · rw [decide_eq_false h, Bool.and_false]
set_option maxHeartbeats 2000000 in
theorem refFind_any (rs : List Rt) (ao : Option Addr) (n cap : Nat) (c : ByteArray) (y m d : Int) (w0 w : World) (hw : Below w0.heap.size w0 w) (hR : Rts w ao n cap rs) :
    Calls Try.prog 16 #[.slice ao n cap, .string c, dayV y m d] w fun e w' => e = foundE (Vt.find rs c y m d) ∧ Below w0.heap.size w0 w' := by
  have HW := Lib.hid hw
  have HR := Lib.hid hR
  have HN := Lib.hid hR.len
  have hcap := hR.reach
  have hfit := hR.fits
  clear hw hR
  unfold dayV
  go_enter Try.func16, Try.ntmps16
  go_wp2_with fail
  refine (refTable_any rs ao n cap (w.alloc (.cells #[.int .i64 y, .int .i64 m, .int .i64 d] 23)) _ (Below.refl _ _) (HR.out.below ((Below.refl _ _).alloc (Nat.le_refl _) _))).mono ?_
  rintro e w1 ⟨rfl, b1⟩
  cases hT : Vt.tableB rs
  · have HF := Lib.hid (Vt.find_not (c := c) (y := y) (m := m) (d := d) (.inl hT))
    have HB1 := Lib.hid (bchain (below_box HW.out _) b1)
    clear b1
    go_wp2_with fail
    go_ret2
    exact ⟨by rw [HF.out]; rfl, HB1.out⟩
  · have HTT := Lib.hid hT
    obtain ⟨hc, hf⟩ := bcell b1
    have HB1 := Lib.hid b1
    clear b1
    go_wp2_with fail
    refine (refRight_any y m d _ _ HB1.out).mono ?_
    rintro e w2 ⟨rfl, b2⟩
    clear hc hf
    have HB2 := Lib.hid b2
    cases hd : Dt.rightB y m d
    · have HF := Lib.hid (Vt.find_not (l := rs) (c := c) (.inr hd))
      have HB3 := Lib.hid (bchain (below_box HW.out _) b2)
      clear b2
      go_wp2_with fail
      go_ret2
      exact ⟨by rw [HF.out]; rfl, HB3.out⟩
    · have HF := Lib.hid (Vt.find_right (c := c) HTT.out hd)
      clear b2
      go_wp2_with fail
      go_loopw [8, 9, 10] (fun t o i wr => ∃ (k : Nat) (x : Int) (f : Bool), k ≤ n ∧ i = .int .i64 k ∧ t = .int .i64 x ∧ o = .bool f ∧ Hid (Vt.last c (Dt.days y m d) (x, f) (rs.drop k) = Vt.last c (Dt.days y m d) (0, false) rs) ∧ Hid (Below (w.alloc (.cells #[.int .i64 y, .int .i64 m, .int .i64 d] 23)).heap.size (w.alloc (.cells #[.int .i64 y, .int .i64 m, .int .i64 d] 23)) wr)) (fun _ _ i _ => n - (intOf i).toNat)
      case atStart => exact ⟨0, 0, false, by omega, rfl, rfl, rfl, Lib.hid rfl, HB2⟩
      case round =>
        rename World => wz
        obtain ⟨k, x, f, hk, rfl, rfl, rfl, HK, HB⟩ := hrel
        by_cases hlt : k < n
        · obtain ⟨b, off, rfl⟩ := HR.out.at (by omega)
          have hkr : k < rs.length := HN.out ▸ hlt
          obtain ⟨r, hr⟩ : ∃ r, rs[k] = r := ⟨_, rfl⟩
          have hrow := (HR.out.row k hkr).below (bchain ((Below.refl _ _).alloc (Nat.le_refl _) _) HB.out)
          have HSt := Lib.hid (last_at c (Dt.days y m d) (x, f) rs k hkr)
          rw [hr] at hrow HSt
          clear hr
          obtain ⟨g0, g1, g2, g3, g4⟩ := hrow
          obtain ⟨hc, hf⟩ := bcell HB.out
          have e0 : wz.cell? ⟨w.heap.size, 0, none⟩ = some (.int .i64 y) := by rw [hc _ _ (by simp)]; simp
          have e1 : wz.cell? ⟨w.heap.size, 1, none⟩ = some (.int .i64 m) := by rw [hc _ _ (by simp)]; simp
          have e2 : wz.cell? ⟨w.heap.size, 2, none⟩ = some (.int .i64 d) := by rw [hc _ _ (by simp)]; simp
          clear hc hf
          have k0 := cell_regrown g0
          have k1 := cell_regrown g1
          have k2 := cell_regrown g2
          have k3 := cell_regrown g3
          have k4 := cell_regrown g4
          have l0 := cell_regrown e0
          have l1 := cell_regrown e1
          have l2 := cell_regrown e2
          have c1 := refDays_agg r.y r.m r.d
          have c2 := refDays_agg y m d
          by_cases hcat : r.cat = c
          · have hq : (r.cat.toList == c.toList) = true := beq_iff_eq.2 (by rw [hcat])
            by_cases hdy : Vt.dy r ≤ Dt.days y m d
            · have HH := Lib.hid (hit_yes hcat hdy)
              have hdy' : Dt.days r.y r.m r.d ≤ Dt.days y m d := hdy
              clear hcat hdy
              go_wp2
              refine wp_region_quiet_below (by kernel_rfl) (by kernel_rfl) ?_
              repeat (first | go_big_quiet_step (first | (go_at_call_of 26 (Value.int .i64 r.y); exact c1 _ _ _) | (go_at_call_of 26 (Value.int .i64 y); exact c2 _ _ _)) | quiet_step (first | (go_at_call_of 26 (Value.int .i64 r.y); exact c1 _ _ _) | (go_at_call_of 26 (Value.int .i64 y); exact c2 _ _ _)))
              refine wpQuiet_nil ?_
              intro _ hw'
              obtain ⟨⟨dq, osq⟩, hw''⟩ := hw'
              subst hw''
              have HBv := Lib.hid (bchain HB.out (below_regrown wz dq osq))
              go_wp2
              go_roundw
              case rel => exact ⟨k + 1, r.bp, true, by omega, by go_num, rfl, rfl, Lib.hid (by rw [← HK.out, HSt.out, HH.out]; rfl), HBv⟩
              case measure => simp [intOf]; omega
            · have HH := Lib.hid (hit_no (c := c) (.inr hdy))
              have hdy' : ¬ Dt.days r.y r.m r.d ≤ Dt.days y m d := hdy
              clear hcat hdy
              go_wp2
              refine wp_region_quiet_below (by kernel_rfl) (by kernel_rfl) ?_
              repeat (first | go_big_quiet_step (first | (go_at_call_of 26 (Value.int .i64 r.y); exact c1 _ _ _) | (go_at_call_of 26 (Value.int .i64 y); exact c2 _ _ _)) | quiet_step (first | (go_at_call_of 26 (Value.int .i64 r.y); exact c1 _ _ _) | (go_at_call_of 26 (Value.int .i64 y); exact c2 _ _ _)))
              refine wpQuiet_nil ?_
              intro _ hw'
              obtain ⟨⟨dq, osq⟩, hw''⟩ := hw'
              subst hw''
              have HBv := Lib.hid (bchain HB.out (below_regrown wz dq osq))
              go_wp2
              go_roundw
              case rel => exact ⟨k + 1, x, f, by omega, by go_num, rfl, rfl, Lib.hid (by rw [← HK.out, HSt.out, HH.out]; rfl), HBv⟩
              case measure => simp [intOf]; omega
          · have hq : (r.cat.toList == c.toList) = false := beq_eq_false_iff_ne.2 fun e => hcat (Vt.cat_ext e)
            have HH := Lib.hid (hit_no (n := Dt.days y m d) (.inl hcat))
            clear hcat
            go_wp2
            refine wp_region_quiet_below (by kernel_rfl) (by kernel_rfl) ?_
            repeat (first | go_big_quiet_step (first | (go_at_call_of 26 (Value.int .i64 r.y); exact c1 _ _ _) | (go_at_call_of 26 (Value.int .i64 y); exact c2 _ _ _)) | quiet_step (first | (go_at_call_of 26 (Value.int .i64 r.y); exact c1 _ _ _) | (go_at_call_of 26 (Value.int .i64 y); exact c2 _ _ _)))
            refine wpQuiet_nil ?_
            intro _ hw'
            obtain ⟨⟨dq, osq⟩, hw''⟩ := hw'
            subst hw''
            have HBv := Lib.hid (bchain HB.out (below_regrown wz dq osq))
            go_wp2
            go_roundw
            case rel => exact ⟨k + 1, x, f, by omega, by go_num, rfl, rfl, Lib.hid (by rw [← HK.out, HSt.out, HH.out]; rfl), HBv⟩
            case measure => simp [intOf]; omega
        · obtain rfl : k = n := by omega
          go_wp2
          go_ret2
          refine ⟨?_, bchain (below_box HW.out _) HB.out⟩
          rw [HF.out, ← HK.out, List.drop_eq_nil_of_le (Nat.le_of_eq HN.out.symm)]
          rfl
end Go.Proofs.Ytgcjhlnolmjdeaa
