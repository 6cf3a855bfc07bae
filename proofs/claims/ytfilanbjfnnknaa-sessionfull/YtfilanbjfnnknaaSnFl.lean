/- THE WALK OF SessionFull. -/
import Derived.Test.YtfilanbjfnnknaaSnRn
import Derived.Test.YtfilanbjfnnknaaRfSn
import Derived.Test.YtfilanbjfnnknaaArgsI
import Derived.Test.YtfilanbjfnnknaaBookIn
set_option maxRecDepth 100000
set_option linter.unusedVariables false
namespace Go.Proofs.Ytfilanbjfnnknaa
open Go.RowKit
open Mem
open Go.Sort (grow)

theorem first_ix {l : List Sn.T} (h : 0 < l.length) : Sp.ix (l[0]).id l = 0 := by
  cases l with
  | nil => simp at h
  | cons a l => exact if_pos rfl
set_option maxHeartbeats 8000000 in
theorem sessionFull_walk (zs : List Int) (ao : Option Addr) (n cap : Nat) (w : World) (hI : Ints w ao n cap zs) :
    Calls Try.prog 6 #[.slice ao n cap] w fun e w' => e = .returned (.bool true) ∧ Below w.heap.size w w' := by
  have HI := Lib.hid hI
  have hcap := hI.reach
  have hfit := hI.fits
  clear hI
  go_enter Try.func6, Try.ntmps6
  go_wp2_with fail
  go_loopw [3, 4, 5, 6, 7, 8, 9, 10] (fun a x _ _ _ _ _ _ wr => ∃ (l : List Sn.T) (lo : Option Addr) (p lc j : Nat), j ≤ n ∧ p ≤ 8 ∧ p ≤ lc ∧ lc ≤ 9223372036854775807 ∧ a = .slice lo p lc ∧ x = .int .i64 j ∧ Hid (Sp.rightB l = true ∧ p = l.length) ∧ Hid (Sn.Ls wr lo p lc l) ∧ Hid (Below w.heap.size w wr)) (fun _ x _ _ _ _ _ _ _ => n - (intOf x).toNat)
  case atStart => exact ⟨[], none, 0, 0, 0, by omega, by omega, by omega, by omega, rfl, rfl, Lib.hid ⟨rfl, rfl⟩, Lib.hid (Sn.ls_nil w), Lib.hid (Below.refl _ _)⟩
  case round =>
    rename World => wz
    obtain ⟨l, lo, p, lc, j, hj, hp, hpc, hlc, rfl, rfl, HR, HL, HB⟩ := hrel
    by_cases hlt : j < n ∧ j < 60
    · obtain ⟨hj1, hj2⟩ := hlt
      obtain ⟨b, off, z, rfl, hz, hfz⟩ := HI.out.at j hj1
      have hz' : wz.cell? ⟨b, off + j, none⟩ = some (.int .i64 z) := by
        rw [(bcell HB.out).1 _ _ (cell_lt hz)]
        exact hz
      have HFz := Lib.hid hfz
      clear hz hfz
      go_wp2_with fail
      refine (bookWithin_any z 1 40 _ HFz.out (by omega) (by omega) (by omega)).mono ?_
      rintro e w1 ⟨⟨r, rfl, hr0, hr1⟩, hw1⟩
      have hw2 := hw1.symm
      clear hw1 hz'
      subst hw2
      have HFr : Hid (Fit (r : Int)) := Lib.hid ⟨by omega, by omega⟩
      have HR1 : Hid (¬ (r : Int) < 1) := Lib.hid (by omega)
      go_wp2_with fail
      refine (at_any l (r : Int) lo p lc wz HL.out).mono ?_
      rintro e w1 ⟨rfl, hw1⟩
      have hw2 := hw1.symm
      clear hw1
      subst hw2
      by_cases hin : Sp.ix (r : Int) l < l.length
      · have HP := Lib.hid (Sp.join_taken HR.out.1 (by have := HR1.out; omega) hin)
        rw [Sp.pos_at hin]
        clear hin
        go_wp2_with fail
        refine (ses_join l (r : Int) lo p lc wz HL.out HFr.out).mono ?_
        rintro e w3 ⟨v, rfl, o, b3⟩
        rw [HP.out.1]
        have HB3 := Lib.hid (bchain HB.out b3)
        have HL3 := Lib.hid (HL.out.below b3)
        clear o b3
        go_wp2_with fail
        go_roundw
        case rel => exact ⟨l, lo, p, lc, j + 1, by omega, hp, hpc, hlc, rfl, by go_num, HR, HL3, HB3⟩
        case measure => simp [intOf]; omega
      · rw [Sp.pos_no hin]
        by_cases h8 : p < 8
        · have HP := Lib.hid (Sp.join_ok HR.out.1 (by have := HR1.out; omega) hin (by rw [← HR.out.2]; exact h8))
          have HQ := Lib.hid (Sp.join_right HR.out.1 (by have := HR1.out; omega) hin (by rw [← HR.out.2]; exact h8))
          have HS := Lib.hid (Sp.join_short (l := l) HL.out.short HFr.out)
          clear hin
          go_wp2_with fail
          refine (ses_join l (r : Int) lo p lc wz HL.out HFr.out).mono ?_
          rintro e w3 ⟨v, rfl, o, b3⟩
          rw [HP.out.1]
          have HB3 := Lib.hid (bchain HB.out b3)
          obtain ⟨vo, vc, rfl, hV, hvf, hvr⟩ := Sn.own_lit o HS.out (n := p + 1) (by rw [HP.out.2, Sp.openL_len, ← HR.out.2])
          have HV := Lib.hid hV
          rw [HP.out.2] at HV
          have HQ2 : Hid (p + 1 = (Sp.openL l (Sp.new (r : Int))).length) := Lib.hid (by rw [Sp.openL_len, ← HR.out.2])
          generalize Sp.openL l (Sp.new (r : Int)) = l2 at *
          clear o b3 hV
          go_wp2_with fail
          go_roundw
          case rel => exact ⟨l2, vo, p + 1, vc, j + 1, by omega, by omega, hvf, hvr, rfl, by go_num, Lib.hid ⟨HQ.out, HQ2.out⟩, HV, HB3⟩
          case measure => simp [intOf]; omega
        · obtain rfl : p = 8 := by omega
          have HP := Lib.hid (Sp.join_full HR.out.1 (by have := HR1.out; omega) hin (by rw [← HR.out.2]; exact Nat.le_refl _))
          clear hin
          go_wp2_with fail
          refine (ses_join l (r : Int) lo 8 lc wz HL.out HFr.out).mono ?_
          rintro e w3 ⟨v, rfl, o, b3⟩
          rw [HP.out.1]
          have HB3 := Lib.hid (bchain HB.out b3)
          have HL3 := Lib.hid (HL.out.below b3)
          clear o b3
          obtain ⟨lb, loff, rfl⟩ := HL3.out.at (by omega)
          have h0 : 0 < l.length := by rw [← HR.out.2]; omega
          have hrow := HL3.out.row 0 h0
          have hix := first_ix h0
          have HFi : Hid (Fit (l[0]).id) := Lib.hid (HL3.out.short _ (List.getElem_mem h0)).1
          obtain ⟨x, hx⟩ : ∃ x, l[0] = x := ⟨_, rfl⟩
          rw [hx] at hrow hix HFi
          have HIx : Hid (Sp.ix x.id l < l.length) := Lib.hid (by rw [hix]; exact h0)
          have HLv := Lib.hid (Sp.leave_ok HR.out.1 HIx.out)
          have HCl := Lib.hid (Sp.cut_len HIx.out)
          have HCr := Lib.hid (Sp.cut_right HR.out.1 (Sp.ix x.id l))
          have HCs := Lib.hid (Sp.leave_short (l := l) (i := x.id) HL3.out.short)
          simp only [Nat.zero_mul, Nat.add_zero] at hrow
          obtain ⟨g0, g1, g2, g3, g4⟩ := hrow
          clear hx hix h0
          go_wp2_with fail
          refine (ses_leave l x.id _ 8 lc w3 HL3.out HFi.out).mono ?_
          rintro e w4 ⟨v4, rfl, o4, b4⟩
          rw [HLv.out.1]
          have HB4 := Lib.hid (bchain HB3.out b4)
          obtain ⟨vo, vc, rfl, hV, hvf, hvr⟩ := Sn.own_lit o4 HCs.out (n := 7) (by rw [HLv.out.2]; have h1 := HCl.out; have h2 := HR.out.2; omega)
          rw [HLv.out.2] at hV
          have HV := Lib.hid hV
          have HQ2 : Hid (7 = (Sp.cut l (Sp.ix x.id l)).length) := Lib.hid (by have h1 := HCl.out; have h2 := HR.out.2; omega)
          generalize Sp.cut l (Sp.ix x.id l) = l2 at *
          clear o4 b4 hV g0 g1 g2 g3 g4
          go_wp2_with fail
          go_roundw
          case rel => exact ⟨l2, vo, 7, vc, j + 1, by omega, by omega, hvf, hvr, rfl, by go_num, Lib.hid ⟨HCr.out, HQ2.out⟩, HV, HB4⟩
          case measure => simp [intOf]; omega
    · have hcs : ¬ j < n ∨ (j < n ∧ ¬ j < 60) := by omega
      clear hlt
      rcases hcs with hcs | ⟨hcs1, hcs2⟩
      all_goals
        go_wp2_with fail
        refine (ses_right l lo p lc wz _ (Below.refl _ _) HL.out).mono ?_
        rintro e w5 ⟨rfl, b5⟩
        rw [HR.out.1]
        have HB5 := Lib.hid (bchain HB.out b5)
        clear b5
        go_wp2_with fail
        refine (snruns w _ HB5.out).mono ?_
        rintro e w7 ⟨rfl, b7⟩
        have HB7 := Lib.hid b7
        clear b7
        go_wp2_with fail
        go_ret
        exact ⟨rfl, HB7.out⟩
end Go.Proofs.Ytfilanbjfnnknaa
