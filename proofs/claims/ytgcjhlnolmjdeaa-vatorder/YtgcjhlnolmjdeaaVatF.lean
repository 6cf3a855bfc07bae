/- CONTRACTS OF PACKAGE vat: Find. -/
import Derived.Test.YtgcjhlnolmjdeaaVatR
import Derived.Test.YtgcjhlnolmjdeaaRefFind
namespace Go.Proofs.Ytgcjhlnolmjdeaa
open Go.RowKit
open Vt (Rt)
open Go.Sort (grow)

set_option maxHeartbeats 2000000 in
theorem vat_find (rs : List Rt) (ao : Option Addr) (n cap : Nat) (c : ByteArray) (y m d : Int) (w0 w : World) (hw : Below w0.heap.size w0 w) (hR : Rts w ao n cap rs) (hy : Fit y) (hm : Fit m) (hd : Fit d) :
    Calls Try.prog 15 #[.slice ao n cap, .string c, dayV y m d] w fun e w' => e = foundE (Vt.find rs c y m d) ∧ Below w0.heap.size w0 w' := by
  have HW := Lib.hid hw
  have HR := Lib.hid hR
  have HN := Lib.hid hR.len
  have HFt := Lib.hid (And.intro hy (And.intro hm hd))
  have hcap := hR.reach
  have hfit := hR.fits
  clear hw hR hy hm hd
  unfold dayV
  go_enter Try.func15, Try.ntmps15
  go_wp2_with fail
  refine (vat_right rs ao n cap (w.alloc (.cells #[.int .i64 y, .int .i64 m, .int .i64 d] 23)) _ (Below.refl _ _) (HR.out.below ((Below.refl _ _).alloc (Nat.le_refl _) _))).mono ?_
  rintro e w1 ⟨rfl, b1⟩
  cases hT : Vt.tableB rs
  · have HF := Lib.hid (Vt.find_not (c := c) (y := y) (m := m) (d := d) (.inl hT))
    have HB1 := Lib.hid (bchain (below_box HW.out _) b1)
    clear b1
    go_wp2_with fail
    go_ret2
    exact ⟨by rw [HF.out]; rfl, HB1.out⟩
  · have HTT := Lib.hid hT
    obtain ⟨hc, hf⟩ := bcell b1
    have HB1 := Lib.hid b1
    clear b1
    go_wp2_with fail
    refine (right_date y m d _ _ HB1.out HFt.out.1 HFt.out.2.1 HFt.out.2.2).mono ?_
    rintro e w2 ⟨rfl, b2⟩
    clear hc hf
    have HB2 := Lib.hid b2
    cases hd : Dt.rightB y m d
    · have HF := Lib.hid (Vt.find_not (l := rs) (c := c) (.inr hd))
      have HB3 := Lib.hid (bchain (below_box HW.out _) b2)
      clear b2
      go_wp2_with fail
      go_ret2
      exact ⟨by rw [HF.out]; rfl, HB3.out⟩
    · have HF := Lib.hid (Vt.find_right (c := c) HTT.out hd)
      have HD := Lib.hid hd
      clear b2
      go_wp2_with fail
      go_loopw [8, 9, 11, 22] (fun t o _ i wr => ∃ (k : Nat) (x : Int) (f : Bool), k ≤ n ∧ i = .int .i64 k ∧ t = .int .i64 x ∧ o = .bool f ∧ Hid (Vt.last c (Dt.days y m d) (x, f) (rs.drop k) = Vt.last c (Dt.days y m d) (0, false) rs) ∧ Hid (Below (w.alloc (.cells #[.int .i64 y, .int .i64 m, .int .i64 d] 23)).heap.size (w.alloc (.cells #[.int .i64 y, .int .i64 m, .int .i64 d] 23)) wr)) (fun _ _ _ i _ => n - (intOf i).toNat)
      case atStart => exact ⟨0, 0, false, by omega, rfl, rfl, rfl, Lib.hid rfl, HB2⟩
      case round =>
        rename World => wz
        obtain ⟨k, x, f, hk, rfl, rfl, rfl, HK, HB⟩ := hrel
        by_cases hlt : k < n
        · obtain ⟨b, off, rfl⟩ := HR.out.at (by omega)
          have hkr : k < rs.length := HN.out ▸ hlt
          obtain ⟨r, hr⟩ : ∃ r, rs[k] = r := ⟨_, rfl⟩
          have hrow := (HR.out.row k hkr).below (bchain ((Below.refl _ _).alloc (Nat.le_refl _) _) HB.out)
          have HSt := Lib.hid (last_at c (Dt.days y m d) (x, f) rs k hkr)
          rw [hr] at hrow HSt
          have hmem : r ∈ rs := hr ▸ List.getElem_mem hkr
          have HSh := Lib.hid (HR.out.short r hmem)
          have HRr := Lib.hid (ahead_both HD.out (Vt.rowE_0.1 (((Vt.table_iff rs).1 HTT.out).2.1 r hmem)).2.1)
          clear hr hmem
          obtain ⟨g0, g1, g2, g3, g4⟩ := hrow
          obtain ⟨W, hW, hbW, hA⟩ := boxed1 wz r
          have HBW := Lib.hid (bchain HB.out hbW)
          have HA := Lib.hid hA
          clear hbW
          unfold RowC at hA
          obtain ⟨a0, a1, a2, a3, a4⟩ := hA
          obtain ⟨hc, hf⟩ := bcell HBW.out
          have e0 : W.cell? ⟨w.heap.size, 0, none⟩ = some (.int .i64 y) := by rw [hc _ _ (by simp)]; simp
          have e1 : W.cell? ⟨w.heap.size, 1, none⟩ = some (.int .i64 m) := by rw [hc _ _ (by simp)]; simp
          have e2 : W.cell? ⟨w.heap.size, 2, none⟩ = some (.int .i64 d) := by rw [hc _ _ (by simp)]; simp
          clear hc hf
          by_cases hcat : r.cat = c
          · have hq : (r.cat.toList == c.toList) = true := beq_iff_eq.2 (by rw [hcat])
            by_cases hdy : Vt.dy r ≤ Dt.days y m d
            · have HH := Lib.hid (hit_yes hcat hdy)
              have HL : Hid (aheadB y m d r.y r.m r.d = false) := Lib.hid (by rw [HRr.out]; exact decide_eq_false (by have h : Dt.days r.y r.m r.d ≤ Dt.days y m d := hdy; omega))
              clear hcat hdy
              go_wp2_with fail
              refine (before_date y m d r.y r.m r.d W _ (Below.refl _ _) HFt.out.1 HFt.out.2.1 HFt.out.2.2 HSh.out.2.1 HSh.out.2.2.1 HSh.out.2.2.2.1).mono ?_
              rintro e w3 ⟨rfl, b3⟩
              rw [HL.out]
              have HBv := Lib.hid (bchain HBW.out b3)
              have hA := HA.out.below b3
              unfold RowC at hA
              obtain ⟨d0, d1, d2, d3, d4⟩ := hA
              clear b3
              go_wp2_with fail
              go_roundw
              case rel => exact ⟨k + 1, r.bp, true, by omega, by go_num, rfl, rfl, Lib.hid (by rw [← HK.out, HSt.out, HH.out]; rfl), HBv⟩
              case measure => simp [intOf]; omega
            · have HH := Lib.hid (hit_no (c := c) (.inr hdy))
              have HL : Hid (aheadB y m d r.y r.m r.d = true) := Lib.hid (by rw [HRr.out]; exact decide_eq_true (by have h : ¬ Dt.days r.y r.m r.d ≤ Dt.days y m d := hdy; omega))
              clear hcat hdy
              go_wp2_with fail
              refine (before_date y m d r.y r.m r.d W _ (Below.refl _ _) HFt.out.1 HFt.out.2.1 HFt.out.2.2 HSh.out.2.1 HSh.out.2.2.1 HSh.out.2.2.2.1).mono ?_
              rintro e w3 ⟨rfl, b3⟩
              rw [HL.out]
              have HBv := Lib.hid (bchain HBW.out b3)
              clear b3
              go_wp2_with fail
              go_roundw
              case rel => exact ⟨k + 1, x, f, by omega, by go_num, rfl, rfl, Lib.hid (by rw [← HK.out, HSt.out, HH.out]; rfl), HBv⟩
              case measure => simp [intOf]; omega
          · have hq : (r.cat.toList == c.toList) = false := beq_eq_false_iff_ne.2 fun e => hcat (Vt.cat_ext e)
            have HH := Lib.hid (hit_no (n := Dt.days y m d) (.inl hcat))
            clear hcat
            go_wp2_with fail
            go_roundw
            case rel => exact ⟨k + 1, x, f, by omega, by go_num, rfl, rfl, Lib.hid (by rw [← HK.out, HSt.out, HH.out]; rfl), HBW⟩
            case measure => simp [intOf]; omega
        · obtain rfl : k = n := by omega
          go_wp2
          go_ret2
          refine ⟨?_, bchain (below_box HW.out _) HB.out⟩
          rw [HF.out, ← HK.out, List.drop_eq_nil_of_le (Nat.le_of_eq HN.out.symm)]
          rfl
end Go.Proofs.Ytgcjhlnolmjdeaa
