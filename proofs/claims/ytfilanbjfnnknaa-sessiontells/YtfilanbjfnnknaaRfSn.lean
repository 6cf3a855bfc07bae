/- THE DOCUMENT's OWN ANSWER: impostref8's SessionsRight, seat; impostlaw13's at. (By genses.py.) -/
import Derived.Test.YtfilanbjfnnknaaSp
import Derived.Test.YtfilanbjfnnknaaSnM
import Derived.Lib.QuietBelow
set_option linter.unusedVariables false
set_option maxRecDepth 100000
namespace Go.Proofs.Ytfilanbjfnnknaa
open Go.RowKit
open Mem
open Go.Sort (grow)

theorem Sp.ok_no {p : Option Sn.T} {r : Sn.T} (h : Sp.sound r = false) : Sp.ok p r = false := by
  unfold Sp.ok
  rw [h]
  rfl
theorem Sp.ok_first {rs : List Sn.T} {r : Sn.T} (h : Sp.sound r = true) : Sp.ok (Sp.prevAt rs 0) r = true := by
  unfold Sp.ok Sp.prevAt
  rw [h]
  rfl
theorem Sp.ok_next {p : Option Sn.T} {q r : Sn.T} (hp : p = some q) (hl : Sp.lt q.id r.id = true) (h : Sp.sound r = true) : Sp.ok p r = true := by
  unfold Sp.ok
  rw [h, hp]
  exact hl
theorem Sp.ok_order {p : Option Sn.T} {q r : Sn.T} (hp : p = some q) (hl : Sp.lt q.id r.id = false) : Sp.ok p r = false := by
  unfold Sp.ok
  rw [hp, Bool.and_eq_false_iff]
  exact .inr hl
set_option maxHeartbeats 8000000 in
theorem rses_right (rs : List Sn.T) (ao : Option Addr) (n cap : Nat) (w0 w : World) (hw : Below w0.heap.size w0 w) (hR : Sn.Ls w ao n cap rs) :
    Calls Try.prog 17 #[.slice ao n cap] w fun e w' => e = .returned (.bool (Sp.rightB rs)) ∧ Below w0.heap.size w0 w' := by
  have HW := Lib.hid hw
  have HR := Lib.hid hR
  have HN := Lib.hid hR.len
  have hcap := hR.reach
  have hfit := hR.fits
  clear hw hR
  by_cases h8 : 8 < n
  · have HT := Lib.hid (Sp.right_long (l := rs) (HN.out ▸ h8))
    go_enter Try.func17, Try.ntmps17
    go_wp2
    go_ret
    exact ⟨ret_bool HT.out.symm, HW.out⟩
  · have HT := Lib.hid (Sp.right_short (l := rs) (by have := HN.out; omega))
    go_enter Try.func17, Try.ntmps17
    go_wp2
    go_loopw [3] (fun i wr => ∃ k : Nat, k ≤ n ∧ i = .int .i64 k ∧ Hid (Sp.okAll (Sp.prevAt rs k) (rs.drop k) = Sp.okAll none rs) ∧ Hid (Below w.heap.size w wr)) (fun i _ => n - (intOf i).toNat)
    case atStart => exact ⟨0, by omega, rfl, Lib.hid rfl, Lib.hid (Below.refl _ _)⟩
    case round =>
      rename World => wr
      obtain ⟨k, hk, rfl, HK, HB⟩ := hrel
      by_cases hlt : k < n
      · obtain ⟨b, off, rfl⟩ := HR.out.at (by omega)
        have hkr : k < rs.length := HN.out ▸ hlt
        obtain ⟨r, hr⟩ : ∃ r, rs[k] = r := ⟨_, rfl⟩
        have hrow := (HR.out.row k hkr).below HB.out
        have HSt := Lib.hid (Sp.okAll_at rs k hkr)
        rw [hr] at hrow HSt
        obtain ⟨g0, g1, g2, g3, g4⟩ := hrow
        clear hr
        by_cases hk0 : k = 0
        · subst hk0
          simp only [Nat.zero_mul, Nat.add_zero] at g0 g1 g2 g3 g4
          have k0 := cell_regrown g0
          have k1 := cell_regrown g1
          have k2 := cell_regrown g2
          have k3 := cell_regrown g3
          have k4 := cell_regrown g4
          clear g0 g1 g2 g3 g4
          by_cases h1 : r.id < 1
          · have d1 : decide (r.id < 1) = true := decide_eq_true h1
            have HO : Hid (Sp.ok (Sp.prevAt rs 0) r = false) := Lib.hid (Sp.ok_no (Sp.sound_no (.inl h1)))
            go_wp2
            refine wp_region_quiet_below (by kernel_rfl) (by kernel_rfl) ?_
            repeat (first | go_big_quiet_step (fail) | quiet_step (fail))
            refine wpQuiet_nil ?_
            intro _ hw'
            obtain ⟨⟨dq, osq⟩, hw''⟩ := hw'
            subst hw''
            have HBv := Lib.hid (bchain HB.out (below_regrown wr dq osq))
            go_wp2
            go_ret
            exact ⟨ret_bool (by rw [HT.out, ← HK.out, HSt.out, HO.out, Bool.false_and]), bchain HW.out HBv.out⟩
          · have d1 : decide (r.id < 1) = false := decide_eq_false h1
            by_cases h2 : r.last < 0
            · have d2 : decide (r.last < 0) = true := decide_eq_true h2
              have HO : Hid (Sp.ok (Sp.prevAt rs 0) r = false) := Lib.hid (Sp.ok_no (Sp.sound_no (.inr (.inl h2))))
              go_wp2
              refine wp_region_quiet_below (by kernel_rfl) (by kernel_rfl) ?_
              repeat (first | go_big_quiet_step (fail) | quiet_step (fail))
              refine wpQuiet_nil ?_
              intro _ hw'
              obtain ⟨⟨dq, osq⟩, hw''⟩ := hw'
              subst hw''
              have HBv := Lib.hid (bchain HB.out (below_regrown wr dq osq))
              go_wp2
              go_ret
              exact ⟨ret_bool (by rw [HT.out, ← HK.out, HSt.out, HO.out, Bool.false_and]), bchain HW.out HBv.out⟩
            · have d2 : decide (r.last < 0) = false := decide_eq_false h2
              by_cases h3 : 1099511627776 < r.last
              · have d3 : decide (1099511627776 < r.last) = true := decide_eq_true h3
                have HO : Hid (Sp.ok (Sp.prevAt rs 0) r = false) := Lib.hid (Sp.ok_no (Sp.sound_no (.inr (.inr (.inl h3)))))
                go_wp2
                refine wp_region_quiet_below (by kernel_rfl) (by kernel_rfl) ?_
                repeat (first | go_big_quiet_step (fail) | quiet_step (fail))
                refine wpQuiet_nil ?_
                intro _ hw'
                obtain ⟨⟨dq, osq⟩, hw''⟩ := hw'
                subst hw''
                have HBv := Lib.hid (bchain HB.out (below_regrown wr dq osq))
                go_wp2
                go_ret
                exact ⟨ret_bool (by rw [HT.out, ← HK.out, HSt.out, HO.out, Bool.false_and]), bchain HW.out HBv.out⟩
              · have d3 : decide (1099511627776 < r.last) = false := decide_eq_false h3
                by_cases h5 : r.last = 0
                · have d5 : (r.last == 0) = true := beq_iff_eq.2 h5
                  by_cases e0 : r.why = 0
                  · have q0 : (r.why == 0) = true := beq_iff_eq.2 e0
                    by_cases e1 : r.num = 0
                    · have q1 : (r.num == 0) = true := beq_iff_eq.2 e1
                      by_cases e2 : r.gross = 0
                      · have q2 : (r.gross == 0) = true := beq_iff_eq.2 e2
                        have HO : Hid (Sp.ok (Sp.prevAt rs 0) r = true) := Lib.hid (Sp.ok_first (Sp.sound_iff.2 ⟨Int.not_lt.1 h1, Int.not_lt.1 h2, Int.not_lt.1 h3, fun _ => ⟨e0, e1, e2⟩⟩))
                        clear e0 e1 e2 h5
                        go_wp2
                        refine wp_region_quiet_below (by kernel_rfl) (by kernel_rfl) ?_
                        repeat (first | go_big_quiet_step (fail) | quiet_step (fail))
                        refine wpQuiet_nil ?_
                        intro _ hw'
                        obtain ⟨⟨dq, osq⟩, hw''⟩ := hw'
                        subst hw''
                        have HBv := Lib.hid (bchain HB.out (below_regrown wr dq osq))
                        go_wp2
                        go_roundw
                        case rel => exact ⟨1, by omega, rfl, Lib.hid (by rw [← HK.out, HSt.out, HO.out, Bool.true_and]), HBv⟩
                        case measure => simp [intOf]; omega
                      · have q2 : (r.gross == 0) = false := beq_eq_false_iff_ne.2 e2
                        have HO : Hid (Sp.ok (Sp.prevAt rs 0) r = false) := Lib.hid (Sp.ok_no (Sp.sound_no (.inr (.inr (.inr ⟨h5, .inr (.inr e2)⟩)))))
                        clear e0 e1 e2 h5
                        go_wp2
                        refine wp_region_quiet_below (by kernel_rfl) (by kernel_rfl) ?_
                        repeat (first | go_big_quiet_step (fail) | quiet_step (fail))
                        refine wpQuiet_nil ?_
                        intro _ hw'
                        obtain ⟨⟨dq, osq⟩, hw''⟩ := hw'
                        subst hw''
                        have HBv := Lib.hid (bchain HB.out (below_regrown wr dq osq))
                        go_wp2
                        go_ret
                        exact ⟨ret_bool (by rw [HT.out, ← HK.out, HSt.out, HO.out, Bool.false_and]), bchain HW.out HBv.out⟩
                    · have q1 : (r.num == 0) = false := beq_eq_false_iff_ne.2 e1
                      have HO : Hid (Sp.ok (Sp.prevAt rs 0) r = false) := Lib.hid (Sp.ok_no (Sp.sound_no (.inr (.inr (.inr ⟨h5, .inr (.inl e1)⟩)))))
                      clear e0 e1 h5
                      go_wp2
                      refine wp_region_quiet_below (by kernel_rfl) (by kernel_rfl) ?_
                      repeat (first | go_big_quiet_step (fail) | quiet_step (fail))
                      refine wpQuiet_nil ?_
                      intro _ hw'
                      obtain ⟨⟨dq, osq⟩, hw''⟩ := hw'
                      subst hw''
                      have HBv := Lib.hid (bchain HB.out (below_regrown wr dq osq))
                      go_wp2
                      go_ret
                      exact ⟨ret_bool (by rw [HT.out, ← HK.out, HSt.out, HO.out, Bool.false_and]), bchain HW.out HBv.out⟩
                  · have q0 : (r.why == 0) = false := beq_eq_false_iff_ne.2 e0
                    have HO : Hid (Sp.ok (Sp.prevAt rs 0) r = false) := Lib.hid (Sp.ok_no (Sp.sound_no (.inr (.inr (.inr ⟨h5, .inl e0⟩)))))
                    clear e0 h5
                    go_wp2
                    refine wp_region_quiet_below (by kernel_rfl) (by kernel_rfl) ?_
                    repeat (first | go_big_quiet_step (fail) | quiet_step (fail))
                    refine wpQuiet_nil ?_
                    intro _ hw'
                    obtain ⟨⟨dq, osq⟩, hw''⟩ := hw'
                    subst hw''
                    have HBv := Lib.hid (bchain HB.out (below_regrown wr dq osq))
                    go_wp2
                    go_ret
                    exact ⟨ret_bool (by rw [HT.out, ← HK.out, HSt.out, HO.out, Bool.false_and]), bchain HW.out HBv.out⟩
                · have d5 : (r.last == 0) = false := beq_eq_false_iff_ne.2 h5
                  have HO : Hid (Sp.ok (Sp.prevAt rs 0) r = true) := Lib.hid (Sp.ok_first (Sp.sound_iff.2 ⟨Int.not_lt.1 h1, Int.not_lt.1 h2, Int.not_lt.1 h3, fun e => absurd e h5⟩))
                  clear h5
                  go_wp2
                  refine wp_region_quiet_below (by kernel_rfl) (by kernel_rfl) ?_
                  repeat (first | go_big_quiet_step (fail) | quiet_step (fail))
                  refine wpQuiet_nil ?_
                  intro _ hw'
                  obtain ⟨⟨dq, osq⟩, hw''⟩ := hw'
                  subst hw''
                  have HBv := Lib.hid (bchain HB.out (below_regrown wr dq osq))
                  go_wp2
                  go_roundw
                  case rel => exact ⟨1, by omega, rfl, Lib.hid (by rw [← HK.out, HSt.out, HO.out, Bool.true_and]), HBv⟩
                  case measure => simp [intOf]; omega
        · obtain ⟨j, rfl⟩ : ∃ j, k = j + 1 := ⟨k - 1, by omega⟩
          have hjr : j < rs.length := by omega
          obtain ⟨q, hq⟩ : ∃ q, rs[j] = q := ⟨_, rfl⟩
          have hrow2 := (HR.out.row j hjr).below HB.out
          rw [hq] at hrow2
          have m0 := cell_regrown hrow2.c0
          have k0 := cell_regrown g0
          have k1 := cell_regrown g1
          have k2 := cell_regrown g2
          have k3 := cell_regrown g3
          have k4 := cell_regrown g4
          have HPv := Lib.hid (Sp.prev_at hjr hq)
          have hjs : ((j + 1 : Nat) : Int) - 1 = (j : Int) := by omega
          clear hq hk0 hrow2 g0 g1 g2 g3 g4
          by_cases h1 : r.id < 1
          · have d1 : decide (r.id < 1) = true := decide_eq_true h1
            have HO : Hid (Sp.ok (Sp.prevAt rs (j + 1)) r = false) := Lib.hid (Sp.ok_no (Sp.sound_no (.inl h1)))
            go_wp2
            refine wp_region_quiet_below (by kernel_rfl) (by kernel_rfl) ?_
            repeat (first | go_big_quiet_step (fail) | quiet_step (fail))
            refine wpQuiet_nil ?_
            intro _ hw'
            obtain ⟨⟨dq, osq⟩, hw''⟩ := hw'
            subst hw''
            have HBv := Lib.hid (bchain HB.out (below_regrown wr dq osq))
            go_wp2
            go_ret
            exact ⟨ret_bool (by rw [HT.out, ← HK.out, HSt.out, HO.out, Bool.false_and]), bchain HW.out HBv.out⟩
          · have d1 : decide (r.id < 1) = false := decide_eq_false h1
            by_cases h2 : r.last < 0
            · have d2 : decide (r.last < 0) = true := decide_eq_true h2
              have HO : Hid (Sp.ok (Sp.prevAt rs (j + 1)) r = false) := Lib.hid (Sp.ok_no (Sp.sound_no (.inr (.inl h2))))
              go_wp2
              refine wp_region_quiet_below (by kernel_rfl) (by kernel_rfl) ?_
              repeat (first | go_big_quiet_step (fail) | quiet_step (fail))
              refine wpQuiet_nil ?_
              intro _ hw'
              obtain ⟨⟨dq, osq⟩, hw''⟩ := hw'
              subst hw''
              have HBv := Lib.hid (bchain HB.out (below_regrown wr dq osq))
              go_wp2
              go_ret
              exact ⟨ret_bool (by rw [HT.out, ← HK.out, HSt.out, HO.out, Bool.false_and]), bchain HW.out HBv.out⟩
            · have d2 : decide (r.last < 0) = false := decide_eq_false h2
              by_cases h3 : 1099511627776 < r.last
              · have d3 : decide (1099511627776 < r.last) = true := decide_eq_true h3
                have HO : Hid (Sp.ok (Sp.prevAt rs (j + 1)) r = false) := Lib.hid (Sp.ok_no (Sp.sound_no (.inr (.inr (.inl h3)))))
                go_wp2
                refine wp_region_quiet_below (by kernel_rfl) (by kernel_rfl) ?_
                repeat (first | go_big_quiet_step (fail) | quiet_step (fail))
                refine wpQuiet_nil ?_
                intro _ hw'
                obtain ⟨⟨dq, osq⟩, hw''⟩ := hw'
                subst hw''
                have HBv := Lib.hid (bchain HB.out (below_regrown wr dq osq))
                go_wp2
                go_ret
                exact ⟨ret_bool (by rw [HT.out, ← HK.out, HSt.out, HO.out, Bool.false_and]), bchain HW.out HBv.out⟩
              · have d3 : decide (1099511627776 < r.last) = false := decide_eq_false h3
                by_cases h4 : r.id ≤ q.id
                · have d4 : decide (r.id ≤ q.id) = true := decide_eq_true h4
                  have HO : Hid (Sp.ok (Sp.prevAt rs (j + 1)) r = false) := Lib.hid (Sp.ok_order HPv.out (decide_eq_false (by omega)))
                  go_wp2
                  refine wp_region_quiet_below (by kernel_rfl) (by kernel_rfl) ?_
                  repeat (first | go_big_quiet_step (fail) | quiet_step (fail))
                  refine wpQuiet_nil ?_
                  intro _ hw'
                  obtain ⟨⟨dq, osq⟩, hw''⟩ := hw'
                  subst hw''
                  have HBv := Lib.hid (bchain HB.out (below_regrown wr dq osq))
                  go_wp2
                  go_ret
                  exact ⟨ret_bool (by rw [HT.out, ← HK.out, HSt.out, HO.out, Bool.false_and]), bchain HW.out HBv.out⟩
                · have d4 : decide (r.id ≤ q.id) = false := decide_eq_false h4
                  have HL2 : Hid (Sp.lt q.id r.id = true) := Lib.hid (decide_eq_true (by omega))
                  by_cases h5 : r.last = 0
                  · have d5 : (r.last == 0) = true := beq_iff_eq.2 h5
                    by_cases e0 : r.why = 0
                    · have q0 : (r.why == 0) = true := beq_iff_eq.2 e0
                      by_cases e1 : r.num = 0
                      · have q1 : (r.num == 0) = true := beq_iff_eq.2 e1
                        by_cases e2 : r.gross = 0
                        · have q2 : (r.gross == 0) = true := beq_iff_eq.2 e2
                          have HO : Hid (Sp.ok (Sp.prevAt rs (j + 1)) r = true) := Lib.hid (Sp.ok_next HPv.out HL2.out (Sp.sound_iff.2 ⟨Int.not_lt.1 h1, Int.not_lt.1 h2, Int.not_lt.1 h3, fun _ => ⟨e0, e1, e2⟩⟩))
                          clear e0 e1 e2 h5
                          go_wp2
                          refine wp_region_quiet_below (by kernel_rfl) (by kernel_rfl) ?_
                          repeat (first | go_big_quiet_step (fail) | quiet_step (fail))
                          refine wpQuiet_nil ?_
                          intro _ hw'
                          obtain ⟨⟨dq, osq⟩, hw''⟩ := hw'
                          subst hw''
                          have HBv := Lib.hid (bchain HB.out (below_regrown wr dq osq))
                          go_wp2
                          go_roundw
                          case rel => exact ⟨j + 1 + 1, by omega, by go_num, Lib.hid (by rw [← HK.out, HSt.out, HO.out, Bool.true_and]), HBv⟩
                          case measure => simp [intOf]; omega
                        · have q2 : (r.gross == 0) = false := beq_eq_false_iff_ne.2 e2
                          have HO : Hid (Sp.ok (Sp.prevAt rs (j + 1)) r = false) := Lib.hid (Sp.ok_no (Sp.sound_no (.inr (.inr (.inr ⟨h5, .inr (.inr e2)⟩)))))
                          clear e0 e1 e2 h5
                          go_wp2
                          refine wp_region_quiet_below (by kernel_rfl) (by kernel_rfl) ?_
                          repeat (first | go_big_quiet_step (fail) | quiet_step (fail))
                          refine wpQuiet_nil ?_
                          intro _ hw'
                          obtain ⟨⟨dq, osq⟩, hw''⟩ := hw'
                          subst hw''
                          have HBv := Lib.hid (bchain HB.out (below_regrown wr dq osq))
                          go_wp2
                          go_ret
                          exact ⟨ret_bool (by rw [HT.out, ← HK.out, HSt.out, HO.out, Bool.false_and]), bchain HW.out HBv.out⟩
                      · have q1 : (r.num == 0) = false := beq_eq_false_iff_ne.2 e1
                        have HO : Hid (Sp.ok (Sp.prevAt rs (j + 1)) r = false) := Lib.hid (Sp.ok_no (Sp.sound_no (.inr (.inr (.inr ⟨h5, .inr (.inl e1)⟩)))))
                        clear e0 e1 h5
                        go_wp2
                        refine wp_region_quiet_below (by kernel_rfl) (by kernel_rfl) ?_
                        repeat (first | go_big_quiet_step (fail) | quiet_step (fail))
                        refine wpQuiet_nil ?_
                        intro _ hw'
                        obtain ⟨⟨dq, osq⟩, hw''⟩ := hw'
                        subst hw''
                        have HBv := Lib.hid (bchain HB.out (below_regrown wr dq osq))
                        go_wp2
                        go_ret
                        exact ⟨ret_bool (by rw [HT.out, ← HK.out, HSt.out, HO.out, Bool.false_and]), bchain HW.out HBv.out⟩
                    · have q0 : (r.why == 0) = false := beq_eq_false_iff_ne.2 e0
                      have HO : Hid (Sp.ok (Sp.prevAt rs (j + 1)) r = false) := Lib.hid (Sp.ok_no (Sp.sound_no (.inr (.inr (.inr ⟨h5, .inl e0⟩)))))
                      clear e0 h5
                      go_wp2
                      refine wp_region_quiet_below (by kernel_rfl) (by kernel_rfl) ?_
                      repeat (first | go_big_quiet_step (fail) | quiet_step (fail))
                      refine wpQuiet_nil ?_
                      intro _ hw'
                      obtain ⟨⟨dq, osq⟩, hw''⟩ := hw'
                      subst hw''
                      have HBv := Lib.hid (bchain HB.out (below_regrown wr dq osq))
                      go_wp2
                      go_ret
                      exact ⟨ret_bool (by rw [HT.out, ← HK.out, HSt.out, HO.out, Bool.false_and]), bchain HW.out HBv.out⟩
                  · have d5 : (r.last == 0) = false := beq_eq_false_iff_ne.2 h5
                    have HO : Hid (Sp.ok (Sp.prevAt rs (j + 1)) r = true) := Lib.hid (Sp.ok_next HPv.out HL2.out (Sp.sound_iff.2 ⟨Int.not_lt.1 h1, Int.not_lt.1 h2, Int.not_lt.1 h3, fun e => absurd e h5⟩))
                    clear h5
                    go_wp2
                    refine wp_region_quiet_below (by kernel_rfl) (by kernel_rfl) ?_
                    repeat (first | go_big_quiet_step (fail) | quiet_step (fail))
                    refine wpQuiet_nil ?_
                    intro _ hw'
                    obtain ⟨⟨dq, osq⟩, hw''⟩ := hw'
                    subst hw''
                    have HBv := Lib.hid (bchain HB.out (below_regrown wr dq osq))
                    go_wp2
                    go_roundw
                    case rel => exact ⟨j + 1 + 1, by omega, by go_num, Lib.hid (by rw [← HK.out, HSt.out, HO.out, Bool.true_and]), HBv⟩
                    case measure => simp [intOf]; omega
      · obtain rfl : k = n := by omega
        go_wp2
        go_ret
        exact ⟨ret_bool (by rw [HT.out, ← HK.out, List.drop_eq_nil_of_le (Nat.le_of_eq HN.out.symm)]; rfl), bchain HW.out HB.out⟩
/-- where the session of an id stands; -1: nowhere -/
def Sp.pos (l : List Sn.T) (i : Int) : Int := if Sp.ix i l < l.length then (Sp.ix i l : Int) else -1
theorem Sp.pos_at {l : List Sn.T} {i : Int} (h : Sp.ix i l < l.length) : Sp.pos l i = (Sp.ix i l : Int) := if_pos h
theorem Sp.pos_no {l : List Sn.T} {i : Int} (h : ¬ Sp.ix i l < l.length) : Sp.pos l i = -1 := if_neg h
set_option maxHeartbeats 4000000 in
theorem rseat (ls : List Sn.T) (i : Int) (ao : Option Addr) (n cap : Nat) (w : World) (hL : Sn.Ls w ao n cap ls) :
    Calls Try.prog 28 #[.slice ao n cap, .int .i64 i] w fun e w' => e = .returned (.int .i64 (Sp.pos ls i)) ∧ w' = w := by
  have HL := Lib.hid hL
  have HN := Lib.hid hL.len
  have hcap := hL.reach
  have hfit := hL.fits
  clear hL
  go_enter Try.func28, Try.ntmps28
  go_wp2_with fail
  go_loop [5] (fun x => ∃ k : Nat, k ≤ n ∧ x = .int .i64 k ∧ Hid (∀ r ∈ ls.take k, r.id ≠ i)) (fun x => n - (intOf x).toNat)
  case atStart => exact ⟨0, by omega, rfl, Lib.hid (fun _ h => by cases h)⟩
  case round =>
    obtain ⟨k, hk, rfl, HT⟩ := hrel
    by_cases hlt : k < n
    · obtain ⟨b, off, rfl⟩ := HL.out.at (by omega)
      have hkl : k < ls.length := HN.out ▸ hlt
      have hrow := HL.out.row k hkl
      obtain ⟨g0, g1, g2, g3, g4⟩ := hrow
      have HS := Lib.hid (List.take_succ_eq_append_getElem hkl)
      by_cases he : ls[k].id = i
      · have HF : Hid (Sp.pos ls i = (k : Int)) := Lib.hid (by
          have e := Sp.ix_at hkl HT.out he
          rw [Sp.pos_at (by rw [e]; exact hkl), e])
        have qe : (ls[k].id == i) = true := beq_iff_eq.2 he
        clear he
        go_wp2_with fail
        go_ret
        exact ⟨by rw [HF.out]; rfl, rfl⟩
      · have HE := Lib.hid he
        have qe : (ls[k].id == i) = false := beq_eq_false_iff_ne.2 he
        clear he
        go_wp2_with fail
        go_round
        case rel =>
          refine ⟨k + 1, by omega, by go_num, Lib.hid ?_⟩
          rw [HS.out]
          intro r hr
          rcases List.mem_append.1 hr with h | h
          · exact HT.out r h
          · obtain rfl := List.mem_singleton.1 h
            exact HE.out
        case measure => simp [intOf]; omega
    · obtain rfl : k = n := by omega
      have HF : Hid (Sp.pos ls i = -1) := Lib.hid (Sp.pos_no (by
        rw [Sp.ix_none (fun r hr => HT.out r (by rw [List.take_of_length_le (by rw [← HN.out]; exact Nat.le_refl _)]; exact hr))]
        omega))
      go_wp2_with fail
      go_ret
      exact ⟨by rw [HF.out]; rfl, rfl⟩
set_option maxHeartbeats 4000000 in
theorem at_any (ls : List Sn.T) (i : Int) (ao : Option Addr) (n cap : Nat) (w : World) (hL : Sn.Ls w ao n cap ls) :
    Calls Try.prog 21 #[.slice ao n cap, .int .i64 i] w fun e w' => e = .returned (.int .i64 (Sp.pos ls i)) ∧ w' = w := by
  have HL := Lib.hid hL
  have HN := Lib.hid hL.len
  have hcap := hL.reach
  have hfit := hL.fits
  clear hL
  go_enter Try.func21, Try.ntmps21
  go_wp2_with fail
  go_loop [5] (fun x => ∃ k : Nat, k ≤ n ∧ x = .int .i64 k ∧ Hid (∀ r ∈ ls.take k, r.id ≠ i)) (fun x => n - (intOf x).toNat)
  case atStart => exact ⟨0, by omega, rfl, Lib.hid (fun _ h => by cases h)⟩
  case round =>
    obtain ⟨k, hk, rfl, HT⟩ := hrel
    by_cases hlt : k < n
    · obtain ⟨b, off, rfl⟩ := HL.out.at (by omega)
      have hkl : k < ls.length := HN.out ▸ hlt
      have hrow := HL.out.row k hkl
      obtain ⟨g0, g1, g2, g3, g4⟩ := hrow
      have HS := Lib.hid (List.take_succ_eq_append_getElem hkl)
      by_cases he : ls[k].id = i
      · have HF : Hid (Sp.pos ls i = (k : Int)) := Lib.hid (by
          have e := Sp.ix_at hkl HT.out he
          rw [Sp.pos_at (by rw [e]; exact hkl), e])
        have qe : (ls[k].id == i) = true := beq_iff_eq.2 he
        clear he
        go_wp2_with fail
        go_ret
        exact ⟨by rw [HF.out]; rfl, rfl⟩
      · have HE := Lib.hid he
        have qe : (ls[k].id == i) = false := beq_eq_false_iff_ne.2 he
        clear he
        go_wp2_with fail
        go_round
        case rel =>
          refine ⟨k + 1, by omega, by go_num, Lib.hid ?_⟩
          rw [HS.out]
          intro r hr
          rcases List.mem_append.1 hr with h | h
          · exact HT.out r h
          · obtain rfl := List.mem_singleton.1 h
            exact HE.out
        case measure => simp [intOf]; omega
    · obtain rfl : k = n := by omega
      have HF : Hid (Sp.pos ls i = -1) := Lib.hid (Sp.pos_no (by
        rw [Sp.ix_none (fun r hr => HT.out r (by rw [List.take_of_length_le (by rw [← HN.out]; exact Nat.le_refl _)]; exact hr))]
        omega))
      go_wp2_with fail
      go_ret
      exact ⟨by rw [HF.out]; rfl, rfl⟩
end Go.Proofs.Ytfilanbjfnnknaa
