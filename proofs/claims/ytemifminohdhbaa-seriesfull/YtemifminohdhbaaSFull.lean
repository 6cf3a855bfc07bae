/- THE WALK OF SeriesFull. -/
import Derived.Test.YtemifminohdhbaaSeRn
import Derived.Test.YtemifminohdhbaaArgsI
import Derived.Test.YtemifminohdhbaaBookIn
set_option maxRecDepth 100000
namespace Go.Proofs.Ytemifminohdhbaa
open Go.RowKit
open Mem
open Go.Sort (grow)

theorem one_str (u : World) (b : Nat) : (convert 55 9 (.slice (some ⟨u.heap.size, 0, none⟩) 1 1)).run Try.prog (u.alloc (.cells #[.int .u8 (b : Int)] 5)) = .ok (.string ⟨[UInt8.ofNat b].toArray⟩) (u.alloc (.cells #[.int .u8 (b : Int)] 5)) := by
  have hr := run_convert_bytes_arg (P := Try.prog) (u.alloc (.cells #[.int .u8 (b : Int)] 5)) 55 5 Try.underlying55 Try.underlying5 u.heap.size 0 1 1 [(b : Int)] rfl (fun i hi => by
    have : i = 0 := by omega
    subst this
    simp) 9 Try.underlying9
  rw [hr]
  rfl
theorem names_all : (List.range 20).all (fun r => Rn.name [UInt8.ofNat (97 + r)]) = true := by decide +kernel
theorem name_one {r : Nat} (h : r ≤ 19) : Rn.name (txt ⟨[UInt8.ofNat (97 + r)].toArray⟩) = true :=
  List.all_eq_true.1 names_all r (List.mem_range.2 (by omega))
theorem one_cell (u : World) (r : Nat) : ∃ s : ByteArray, ⟨[UInt8.ofNat (97 + r)].toArray⟩ = s ∧
    (convert 55 9 (.slice (some ⟨u.heap.size, 0, none⟩) 1 1)).run Try.prog (u.alloc (.cells #[.int .u8 (97 + (r : Int))] 5)) = .ok (.string s) (u.alloc (.cells #[.int .u8 (97 + (r : Int))] 5)) := by
  refine ⟨_, rfl, ?_⟩
  have h := one_str u (97 + r)
  rw [show ((97 + r : Nat) : Int) = 97 + (r : Int) from by omega] at h
  exact h
theorem sorted_next {l : List Sr.T} (h : Se.Sorted l) (j : Nat) (hj : j + 1 < l.length) : Op.bytesLess (l[j]'(by omega)).name.toList l[j + 1].name.toList = true := List.pairwise_iff_getElem.1 h j (j + 1) (by omega) hj (by omega)
set_option maxHeartbeats 4000000 in
theorem seriesFull_walk (zs : List Int) (ao : Option Addr) (n cap : Nat) (w : World) (hI : Ints w ao n cap zs) :
    Calls Try.prog 7 #[.slice ao n cap] w fun e w' => e = .returned (.bool true) ∧ Below w.heap.size w w' := by
  have HI := Lib.hid hI
  have hcap := hI.reach
  have hfit := hI.fits
  clear hI
  go_enter Try.func7, Try.ntmps7
  go_wp2_with fail
  go_loopw [3, 4, 5, 6, 7, 8, 9, 10, 11] (fun a b i _ _ _ _ _ _ wr => ∃ (l : List Sr.T) (lo : Option Addr) (p lc j : Nat), j ≤ n ∧ p ≤ 8 ∧ p ≤ lc ∧ lc ≤ 9223372036854775807 ∧ a = .slice lo p lc ∧ b = .int .i64 p ∧ i = .int .i64 j ∧ Hid (Se.rightB l = true ∧ p = l.length) ∧ Hid (Sr.Ls wr lo p lc l) ∧ Hid (Below w.heap.size w wr)) (fun _ _ i _ _ _ _ _ _ _ => n - (intOf i).toNat)
  case atStart => exact ⟨[], none, 0, 0, 0, by omega, by omega, by omega, by omega, rfl, rfl, rfl, Lib.hid ⟨rfl, rfl⟩, Lib.hid (Sr.ls_nil w), Lib.hid (Below.refl _ _)⟩
  case round =>
    rename World => wz
    obtain ⟨l, lo, p, lc, j, hj, hp, hpc, hlc, rfl, rfl, rfl, HR, HL, HB⟩ := hrel
    by_cases hlt : j < n ∧ j < 60
    · obtain ⟨hj1, hj2⟩ := hlt
      obtain ⟨b, off, z, rfl, hz, hfz⟩ := HI.out.at j hj1
      have hz' : wz.cell? ⟨b, off + j, none⟩ = some (.int .i64 z) := by
        rw [(bcell HB.out).1 _ _ (cell_lt hz)]
        exact hz
      have HFz := Lib.hid hfz
      clear hz hfz
      go_wp2_with fail
      refine (bookWithin_any z 0 19 _ HFz.out (by omega) (by omega) (by omega)).mono ?_
      rintro e w1 ⟨⟨r, rfl, hr0, hr1⟩, hw1⟩
      subst hw1
      obtain ⟨s, hs, hcv⟩ := one_cell w1 r
      have HNm : Hid (Rn.name (txt s) = true) := Lib.hid (hs ▸ name_one (by omega))
      have HSz : Hid (s.size ≤ 140737488355328) := Lib.hid (hs ▸ (show 1 ≤ 140737488355328 by omega))
      have HB1 := Lib.hid (bchain HB.out ((Below.refl w1.heap.size w1).alloc (Nat.le_refl _) (.cells #[.int .u8 (97 + (r : Int))] 5)))
      have HL1 := Lib.hid (HL.out.below ((Below.refl w1.heap.size w1).alloc (Nat.le_refl _) (.cells #[.int .u8 (97 + (r : Int))] 5)))
      clear hs hz'
      go_wp2_with fail
      clear hcv
      generalize w1.alloc (.cells #[.int .u8 (97 + (r : Int))] 5) = U at *
      refine (ser_find l s lo p lc _ _ (Below.refl _ _) HL1.out).mono ?_
      rintro e w2 ⟨rfl, b2⟩
      unfold Sr.val
      obtain ⟨q, hq⟩ : ∃ q, Se.own l s = q := ⟨_, rfl⟩
      rw [hq]
      clear hq
      have hb3 := bchain b2 (Sr.below_own w2 q)
      have HB3 := Lib.hid (bchain HB1.out hb3)
      have HL3 := Lib.hid (HL1.out.below hb3)
      clear b2 hb3
      by_cases hlt : Se.ix s l < l.length
      · have HP := Lib.hid (Se.open_taken HR.out.1 HNm.out (Se.lim_iff.2 ⟨by omega, by omega⟩ : Se.lim 5 = true) hlt)
        rw [decide_eq_true hlt]
        clear hlt
        go_wp2_with fail
        rw [show w2.alloc (.cells #[.string q.name, .int .i64 q.next, .int .i64 q.limit, .bool q.shut] 32) = Sr.box w2 q from rfl]
        generalize Sr.box w2 q = V at *
        refine (ser_open l s 5 lo p lc _ HL3.out HSz.out).mono ?_
        rintro e w4 ⟨v, rfl, o, b4⟩
        rw [HP.out.1]
        rw [HP.out.2] at o
        have HB4 := Lib.hid (bchain HB3.out b4)
        have HL4 := Lib.hid (HL3.out.below b4)
        clear o b4
        go_wp2_with fail
        go_roundw
        case rel => exact ⟨l, lo, p, lc, j + 1, by omega, hp, hpc, hlc, rfl, rfl, by go_num, HR, HL4, HB4⟩
        case measure => simp [intOf]; omega
      · rw [decide_eq_false hlt]
        by_cases h8 : p < 8
        · have HP := Lib.hid (Se.open_ok HR.out.1 HNm.out (Se.lim_iff.2 ⟨by omega, by omega⟩ : Se.lim 5 = true) hlt (by rw [← HR.out.2]; exact h8))
          have HQ := Lib.hid (Se.open_right HR.out.1 HNm.out (Se.lim_iff.2 ⟨by omega, by omega⟩ : Se.lim 5 = true) hlt (by rw [← HR.out.2]; exact h8))
          clear hlt
          go_wp2_with fail
          rw [show w2.alloc (.cells #[.string q.name, .int .i64 q.next, .int .i64 q.limit, .bool q.shut] 32) = Sr.box w2 q from rfl]
          generalize Sr.box w2 q = V at *
          refine (ser_open l s 5 lo p lc _ HL3.out HSz.out).mono ?_
          rintro e w4 ⟨v, rfl, o, b4⟩
          rw [HP.out.1]
          rw [HP.out.2] at o
          have HB4 := Lib.hid (bchain HB3.out b4)
          obtain ⟨vo, vc, rfl, hV, hvf, hvr⟩ := Sr.own_lit o (fun x hx => by
            rcases Se.openL_mem.1 hx with rfl | hx
            · exact ⟨HSz.out, fit_lit rfl, fit_lit rfl⟩
            · exact HL.out.short x hx) (n := p + 1) (by rw [Se.openL_len, ← HR.out.2])
          have HV := Lib.hid hV
          have HQ2 : Hid (p + 1 = (Se.openL l ⟨s, 1, 5, false⟩).length) := Lib.hid hV.len
          generalize Se.openL l ⟨s, 1, 5, false⟩ = l2 at *
          clear o b4 hV
          go_wp2_with fail
          go_roundw
          case rel => exact ⟨l2, vo, p + 1, vc, j + 1, by omega, by omega, hvf, hvr, rfl, by go_num, by go_num, Lib.hid ⟨HQ.out, HQ2.out⟩, HV, HB4⟩
          case measure => simp [intOf]; omega
        · obtain rfl : p = 8 := by omega
          have HP := Lib.hid (Se.open_full HR.out.1 HNm.out (Se.lim_iff.2 ⟨by omega, by omega⟩ : Se.lim 5 = true) hlt (by rw [← HR.out.2]; omega))
          clear hlt
          go_wp2_with fail
          rw [show w2.alloc (.cells #[.string q.name, .int .i64 q.next, .int .i64 q.limit, .bool q.shut] 32) = Sr.box w2 q from rfl]
          generalize Sr.box w2 q = V at *
          refine (ser_open l s 5 lo 8 lc _ HL3.out HSz.out).mono ?_
          rintro e w4 ⟨v, rfl, o, b4⟩
          rw [HP.out.1]
          rw [HP.out.2] at o
          have HB4 := Lib.hid (bchain HB3.out b4)
          have HL4 := Lib.hid (HL3.out.below b4)
          clear o b4
          go_wp2_with fail
          go_roundw
          case rel => exact ⟨l, lo, 8, lc, j + 1, by omega, by omega, hpc, hlc, rfl, rfl, by go_num, HR, HL4, HB4⟩
          case measure => simp [intOf]; omega
    · have hcs : ¬ j < n ∨ (j < n ∧ ¬ j < 60) := by omega
      clear hlt
      have HSo := Lib.hid ((Se.right_iff l).1 HR.out.1).2.2
      rcases hcs with hcs | ⟨hcs1, hcs2⟩
      all_goals
        go_wp2_with fail
        go_loopw [12] (fun i wr => ∃ k : Nat, 1 ≤ k ∧ (k ≤ p ∨ k = 1) ∧ i = .int .i64 k ∧ Hid (Below wz.heap.size wz wr)) (fun i _ => 9 - (intOf i).toNat)
        case atStart => exact ⟨1, by omega, by omega, rfl, Lib.hid (Below.refl _ _)⟩
        case round =>
          rename World => wy
          obtain ⟨k, hk1, hk, rfl, HBy⟩ := hrel
          by_cases hkp : k < p
          · obtain ⟨i, rfl⟩ : ∃ i, k = i + 1 := ⟨k - 1, by omega⟩
            obtain ⟨b, off, rfl⟩ := HL.out.at (by omega)
            have hil : i < l.length := by have := HR.out.2; omega
            have hil1 : i + 1 < l.length := by have := HR.out.2; omega
            have hr1 := (HL.out.row i hil).below HBy.out
            have hr2 := (HL.out.row (i + 1) hil1).below HBy.out
            have hlt2 := sorted_next HSo.out i hil1
            generalize l[i] = x1 at *
            generalize l[i + 1] = x2 at *
            obtain ⟨g0, g1, g2, g3⟩ := hr1
            obtain ⟨f0, f1, f2, f3⟩ := hr2
            have m0 := cell_regrown g0
            have m1 := cell_regrown f0
            have his : ((i + 1 : Nat) : Int) - 1 = (i : Int) := by omega
            go_wp2
            refine wp_region_quiet_below (by kernel_rfl) (by kernel_rfl) ?_
            repeat (first | go_big_quiet_step (fail) | quiet_step (fail))
            refine wpQuiet_nil ?_
            intro _ hw'
            obtain ⟨⟨dq, osq⟩, hw''⟩ := hw'
            subst hw''
            have HBv := Lib.hid (bchain HBy.out (below_regrown wy dq osq))
            go_wp2
            go_roundw
            case rel => exact ⟨i + 1 + 1, by omega, by omega, by go_num, HBv⟩
            case measure => simp [intOf]; omega
          · have hpp : ((p : Int) == (p : Int)) = true := beq_self_eq_true _
            go_wp2_with fail
            refine (sruns wz _ HBy.out).mono ?_
            rintro e w7 ⟨rfl, b7⟩
            have HB7 := Lib.hid b7
            clear b7
            go_wp2_with fail
            go_ret
            exact ⟨rfl, bchain HB.out HB7.out⟩
end Go.Proofs.Ytemifminohdhbaa
