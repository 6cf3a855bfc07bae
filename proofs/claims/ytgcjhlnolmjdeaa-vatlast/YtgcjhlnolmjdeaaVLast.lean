/- THE WALK OF VatLast. -/
import Derived.Test.YtgcjhlnolmjdeaaVRuns
namespace Go.Proofs.Ytgcjhlnolmjdeaa
open Go.RowKit
open Vt (Rt)
open Go.Sort (grow)

theorem refRight_agg (y m d : Int) (u : World) (i : Nat) (os : Array Obj) : Ans 25 #[.agg #[.int .i64 y, .int .i64 m, .int .i64 d]] u i os (.bool (Dt.rightB y m d)) :=
  Calls.regrown_of (refRight_any y m d _ _ (Below.refl _ _))
/-- what is known at the loop's place: nothing found, or the row that was found last -/
def Seen (T : List Rt) (c : ByteArray) (n : Int) (k : Nat) (a : Int) : Prop :=
  (a = -1 ∧ Vt.last c n (0, false) (T.take k) = (0, false)) ∨ ∃ (j : Nat) (q : Rt), a = (j : Int) ∧ j < k ∧ T[j]? = some q ∧ Vt.hit c n q = true ∧ Vt.last c n (0, false) (T.take k) = (q.bp, true)
theorem last_snoc (T : List Rt) (c : ByteArray) (n : Int) (k : Nat) (r : Rt) (h : T[k]? = some r) : Vt.last c n (0, false) (T.take (k + 1)) = if Vt.hit c n r = true then (r.bp, true) else Vt.last c n (0, false) (T.take k) := by
  rw [List.take_add_one, h, Vt.last_app]
  rfl
theorem Seen.skip {T : List Rt} {c : ByteArray} {n : Int} {k : Nat} {a : Int} {r : Rt} (h : Seen T c n k a) (hr : T[k]? = some r) (hh : Vt.hit c n r = false) : Seen T c n (k + 1) a := by
  have e := last_snoc T c n k r hr
  rw [if_neg (by rw [hh]; simp)] at e
  rcases h with ⟨h1, h2⟩ | ⟨j, q, h1, h2, h3, h4, h5⟩
  · exact .inl ⟨h1, e.trans h2⟩
  · exact .inr ⟨j, q, h1, by omega, h3, h4, e.trans h5⟩
theorem Seen.take {T : List Rt} {c : ByteArray} {n : Int} {k : Nat} {r : Rt} (hr : T[k]? = some r) (hh : Vt.hit c n r = true) : Seen T c n (k + 1) k := by
  have e := last_snoc T c n k r hr
  rw [if_pos hh] at e
  exact .inr ⟨k, r, rfl, by omega, hr, hh, e⟩
theorem hit_parts {c : ByteArray} {n : Int} {r : Rt} (h : Vt.hit c n r = true) : r.cat = c ∧ Vt.dy r ≤ n := by
  unfold Vt.hit at h
  rw [Bool.and_eq_true, decide_eq_true_iff, decide_eq_true_iff] at h
  exact h
theorem sorted_dy {T : List Rt} (hs : Vt.Sorted T) {j k : Nat} {q r : Rt} (hj : T[j]? = some q) (hk : T[k]? = some r) (hlt : j < k) (hc : q.cat = r.cat) : Vt.dy q < Vt.dy r := by
  obtain ⟨h1, rfl⟩ := List.getElem?_eq_some_iff.1 hj
  obtain ⟨h2, rfl⟩ := List.getElem?_eq_some_iff.1 hk
  have h := List.pairwise_iff_getElem.1 hs j k h1 h2 hlt
  rw [Vt.lt_same hc, decide_eq_true_iff] at h
  exact h
set_option maxHeartbeats 4000000 in
theorem vatLast_walk (rs : List Rt) (ao : Option Addr) (n cap : Nat) (c : ByteArray) (y m d : Int) (w : World) (hR : Rts w ao n cap rs) (hy : Fit y) (hm : Fit m) (hd : Fit d) :
    Calls Try.prog 8 #[.slice ao n cap, .string c, dayV y m d] w fun e w' => e = .returned (.bool true) ∧ Below w.heap.size w w' := by
  have HR := Lib.hid hR
  have HF := Lib.hid (And.intro hy (And.intro hm hd))
  clear hR hy hm hd
  unfold dayV
  go_enter Try.func8, Try.ntmps8
  go_wp2_with fail
  refine (table_any rs ao n cap _ (HR.out.below ((Below.refl _ _).alloc (Nat.le_refl _) _))).mono ?_
  rintro e w1 ⟨v, rfl, o1, b1⟩
  obtain ⟨ta, tc, rfl, hT, _⟩ := own_rts o1 (tab_short HR.out.short 40)
  have HT := Lib.hid hT
  have HBw1 := Lib.hid (bchain ((Below.refl _ _).alloc (Nat.le_refl _) _) b1)
  have hD := (dayC_box w y m d).below b1
  have HD := Lib.hid hD
  clear hT o1 b1
  obtain ⟨T, hTT⟩ : ∃ T, Vt.tab [] (rs.take 40) = T := ⟨_, rfl⟩
  have HTB : Hid (Vt.tableB T = true) := Lib.hid (hTT ▸ Vt.tab_table _ _ Vt.table_nil)
  rw [hTT] at HT ⊢
  clear hTT
  have HSo := Lib.hid ((Vt.table_iff T).1 HTB.out).2.2
  have htl : T.length ≤ 24 := ((Vt.table_iff T).1 HTB.out).1
  generalize hTn : T.length = tn at *
  have HTn := Lib.hid hTn
  clear hTn
  have hcap := HT.out.reach
  have hfit := HT.out.fits
  unfold DayC at hD
  obtain ⟨d10, d11, d12⟩ := hD
  go_wp2_with fail
  refine (vat_find T ta tn tc c y m d w1 _ (Below.refl _ _) HT.out HF.out.1 HF.out.2.1 HF.out.2.2).mono ?_
  rintro e w2 ⟨rfl, b2⟩
  have HB2 := Lib.hid b2
  clear b2 d10 d11 d12
  obtain ⟨⟨x, f⟩, hx⟩ : ∃ k, Vt.find T c y m d = k := ⟨_, rfl⟩
  have HX := Lib.hid hx
  rw [hx]
  unfold foundE
  dsimp only
  clear hx
  cases hrt : Dt.rightB y m d
  · have HX0 : Hid (x = 0 ∧ f = false) := by
      have h := HX.out
      rw [Vt.find_not (.inr hrt)] at h
      injection h with h1 h2
      exact ⟨h1.symm, h2.symm⟩
    obtain ⟨hx0, hf0⟩ := HX0.out
    subst hx0 hf0
    clear HX0 HX
    go_wp2_with fail
    go_loopw [10, 11] (fun a i wr => ∃ k : Nat, k ≤ tn ∧ i = .int .i64 k ∧ a = .int .i64 (-1) ∧ Hid (Below w1.heap.size w1 wr)) (fun _ i _ => tn - (intOf i).toNat)
    case atStart => exact ⟨0, by omega, rfl, rfl, HB2⟩
    case round =>
      rename World => wz
      obtain ⟨k, hk, rfl, rfl, HB⟩ := hrel
      by_cases hlt : k < tn
      · obtain ⟨b, off, rfl⟩ := HT.out.at (by omega)
        have hkr : k < T.length := HTn.out ▸ hlt
        obtain ⟨r, hr⟩ : ∃ r, T[k] = r := ⟨_, rfl⟩
        have hrow := (HT.out.row k hkr).below HB.out
        rw [hr] at hrow
        clear hr
        obtain ⟨g0, g1, g2, g3, g4⟩ := hrow
        have hD := HD.out.below HB.out
        unfold DayC at hD
        obtain ⟨e0, e1, e2⟩ := hD
        have g0' := cell_regrown g0
        have g1' := cell_regrown g1
        have g2' := cell_regrown g2
        have g3' := cell_regrown g3
        have g4' := cell_regrown g4
        have e0' := cell_regrown e0
        have e1' := cell_regrown e1
        have e2' := cell_regrown e2
        have c0 := refRight_agg y m d
        rw [hrt] at c0
        have c1 := refDays_agg r.y r.m r.d
        have c2 := refDays_agg y m d
        by_cases hcat : r.cat = c
        · have hq : (r.cat.toList == c.toList) = true := beq_iff_eq.2 (by rw [hcat])
          clear hcat
          go_wp2
          refine wp_region_quiet_below (by kernel_rfl) (by kernel_rfl) ?_
          repeat (first | go_big_quiet_step (first | (go_at_call 25; exact c0 _ _ _) | (go_at_call_of 26 (Value.int .i64 r.y); exact c1 _ _ _) | (go_at_call_of 26 (Value.int .i64 y); exact c2 _ _ _)) | quiet_step (first | (go_at_call 25; exact c0 _ _ _) | (go_at_call_of 26 (Value.int .i64 r.y); exact c1 _ _ _) | (go_at_call_of 26 (Value.int .i64 y); exact c2 _ _ _)))
          refine wpQuiet_nil ?_
          intro _ hw'
          obtain ⟨⟨dq, osq⟩, hw''⟩ := hw'
          subst hw''
          have HBv := Lib.hid (bchain HB.out (below_regrown wz dq osq))
          go_wp2
          go_roundw
          case rel => exact ⟨k + 1, by omega, by go_num, rfl, HBv⟩
          case measure => simp [intOf]; omega
        · have hq : (r.cat.toList == c.toList) = false := beq_eq_false_iff_ne.2 fun e => hcat (Vt.cat_ext e)
          clear hcat
          go_wp2
          refine wp_region_quiet_below (by kernel_rfl) (by kernel_rfl) ?_
          repeat (first | go_big_quiet_step (first | (go_at_call 25; exact c0 _ _ _) | (go_at_call_of 26 (Value.int .i64 r.y); exact c1 _ _ _) | (go_at_call_of 26 (Value.int .i64 y); exact c2 _ _ _)) | quiet_step (first | (go_at_call 25; exact c0 _ _ _) | (go_at_call_of 26 (Value.int .i64 r.y); exact c1 _ _ _) | (go_at_call_of 26 (Value.int .i64 y); exact c2 _ _ _)))
          refine wpQuiet_nil ?_
          intro _ hw'
          obtain ⟨⟨dq, osq⟩, hw''⟩ := hw'
          subst hw''
          have HBv := Lib.hid (bchain HB.out (below_regrown wz dq osq))
          go_wp2
          go_roundw
          case rel => exact ⟨k + 1, by omega, by go_num, rfl, HBv⟩
          case measure => simp [intOf]; omega
      · obtain rfl : k = tn := by omega
        go_wp2_with fail
        refine (vruns_any w1 _ HB.out).mono ?_
        rintro e w3 ⟨rfl, b3⟩
        have HB3 := Lib.hid b3
        clear b3
        go_wp2_with fail
        go_ret
        exact ⟨rfl, bchain HBw1.out HB3.out⟩
  · have HL : Hid (Vt.last c (Dt.days y m d) (0, false) T = (x, f)) := Lib.hid (by rw [← HX.out, Vt.find_right HTB.out hrt])
    clear HX
    go_wp2_with fail
    go_loopw [10, 11] (fun a i wr => ∃ (k : Nat) (s : Int), k ≤ tn ∧ i = .int .i64 k ∧ a = .int .i64 s ∧ Hid (Seen T c (Dt.days y m d) k s) ∧ Hid (Below w1.heap.size w1 wr)) (fun _ i _ => tn - (intOf i).toNat)
    case atStart => exact ⟨0, -1, by omega, rfl, rfl, Lib.hid (.inl ⟨rfl, rfl⟩), HB2⟩
    case round =>
      rename World => wz
      obtain ⟨k, s, hk, rfl, rfl, HSe, HB⟩ := hrel
      by_cases hlt : k < tn
      · obtain ⟨b, off, rfl⟩ := HT.out.at (by omega)
        have hkr : k < T.length := HTn.out ▸ hlt
        obtain ⟨r, hr⟩ : ∃ r, T[k] = r := ⟨_, rfl⟩
        have hrow := (HT.out.row k hkr).below HB.out
        have HKr : Hid (T[k]? = some r) := Lib.hid (by rw [List.getElem?_eq_getElem hkr, hr])
        rw [hr] at hrow
        clear hr
        obtain ⟨g0, g1, g2, g3, g4⟩ := hrow
        have hD := HD.out.below HB.out
        unfold DayC at hD
        obtain ⟨e0, e1, e2⟩ := hD
        have g0' := cell_regrown g0
        have g1' := cell_regrown g1
        have g2' := cell_regrown g2
        have g3' := cell_regrown g3
        have g4' := cell_regrown g4
        have e0' := cell_regrown e0
        have e1' := cell_regrown e1
        have e2' := cell_regrown e2
        have c0 := refRight_agg y m d
        rw [hrt] at c0
        have c1 := refDays_agg r.y r.m r.d
        have c2 := refDays_agg y m d
        by_cases hcat : r.cat = c
        · have hq : (r.cat.toList == c.toList) = true := beq_iff_eq.2 (by rw [hcat])
          by_cases hdy : Vt.dy r ≤ Dt.days y m d
          · have HH := Lib.hid (hit_yes hcat hdy)
            have hdy' : Dt.days r.y r.m r.d ≤ Dt.days y m d := hdy
            have HC := Lib.hid hcat
            clear hcat hdy
            rcases HSe.out with ⟨hs, _⟩ | ⟨j, q, hs, hj, hjq, hqh, _⟩
            · subst hs
              go_wp2
              refine wp_region_quiet_below (by kernel_rfl) (by kernel_rfl) ?_
              repeat (first | go_big_quiet_step (first | (go_at_call 25; exact c0 _ _ _) | (go_at_call_of 26 (Value.int .i64 r.y); exact c1 _ _ _) | (go_at_call_of 26 (Value.int .i64 y); exact c2 _ _ _)) | quiet_step (first | (go_at_call 25; exact c0 _ _ _) | (go_at_call_of 26 (Value.int .i64 r.y); exact c1 _ _ _) | (go_at_call_of 26 (Value.int .i64 y); exact c2 _ _ _)))
              refine wpQuiet_nil ?_
              intro _ hw'
              obtain ⟨⟨dq, osq⟩, hw''⟩ := hw'
              subst hw''
              have HBv := Lib.hid (bchain HB.out (below_regrown wz dq osq))
              go_wp2
              go_roundw
              case rel => exact ⟨k + 1, k, by omega, by go_num, rfl, Lib.hid (Seen.take HKr.out HH.out), HBv⟩
              case measure => simp [intOf]; omega
            · subst hs
              have hjr : j < T.length := by
                obtain ⟨h1, _⟩ := List.getElem?_eq_some_iff.1 hjq
                exact h1
              have hlt2 : Dt.days q.y q.m q.d < Dt.days r.y r.m r.d := sorted_dy HSo.out hjq HKr.out hj ((hit_parts hqh).1.trans HC.out.symm)
              have hrow2 := (HT.out.row j hjr).below HB.out
              rw [show T[j] = q from by rw [List.getElem?_eq_getElem hjr] at hjq; exact Option.some.inj hjq] at hrow2
              obtain ⟨f0, f1, f2, f3, f4⟩ := hrow2
              have f0' := cell_regrown f0
              have f1' := cell_regrown f1
              have f2' := cell_regrown f2
              have f3' := cell_regrown f3
              have f4' := cell_regrown f4
              have c3 := refDays_agg q.y q.m q.d
              have hjt : j < tn := by omega
              clear hjq hqh
              go_wp2
              refine wp_region_quiet_below (by kernel_rfl) (by kernel_rfl) ?_
              repeat (first | go_big_quiet_step (first | (go_at_call 25; exact c0 _ _ _) | (go_at_call_of 26 (Value.int .i64 r.y); exact c1 _ _ _) | (go_at_call_of 26 (Value.int .i64 y); exact c2 _ _ _) | (go_at_call_of 26 (Value.int .i64 q.y); exact c3 _ _ _)) | quiet_step (first | (go_at_call 25; exact c0 _ _ _) | (go_at_call_of 26 (Value.int .i64 r.y); exact c1 _ _ _) | (go_at_call_of 26 (Value.int .i64 y); exact c2 _ _ _) | (go_at_call_of 26 (Value.int .i64 q.y); exact c3 _ _ _)))
              refine wpQuiet_nil ?_
              intro _ hw'
              obtain ⟨⟨dq, osq⟩, hw''⟩ := hw'
              subst hw''
              have HBv := Lib.hid (bchain HB.out (below_regrown wz dq osq))
              go_wp2
              go_roundw
              case rel => exact ⟨k + 1, k, by omega, by go_num, rfl, Lib.hid (Seen.take HKr.out HH.out), HBv⟩
              case measure => simp [intOf]; omega
          · have HH := Lib.hid (hit_no (c := c) (.inr hdy))
            have hdy' : ¬ Dt.days r.y r.m r.d ≤ Dt.days y m d := hdy
            have hdyf : decide (Dt.days r.y r.m r.d ≤ Dt.days y m d) = false := decide_eq_false hdy
            clear hcat hdy
            go_wp2
            refine wp_region_quiet_below (by kernel_rfl) (by kernel_rfl) ?_
            repeat (first | go_big_quiet_step (first | (go_at_call 25; exact c0 _ _ _) | (go_at_call_of 26 (Value.int .i64 r.y); exact c1 _ _ _) | (go_at_call_of 26 (Value.int .i64 y); exact c2 _ _ _)) | quiet_step (first | (go_at_call 25; exact c0 _ _ _) | (go_at_call_of 26 (Value.int .i64 r.y); exact c1 _ _ _) | (go_at_call_of 26 (Value.int .i64 y); exact c2 _ _ _)))
            refine wpQuiet_nil ?_
            intro _ hw'
            obtain ⟨⟨dq, osq⟩, hw''⟩ := hw'
            subst hw''
            have HBv := Lib.hid (bchain HB.out (below_regrown wz dq osq))
            go_wp2
            go_roundw
            case rel => exact ⟨k + 1, s, by omega, by go_num, rfl, Lib.hid (HSe.out.skip HKr.out HH.out), HBv⟩
            case measure => simp [intOf]; omega
        · have hq : (r.cat.toList == c.toList) = false := beq_eq_false_iff_ne.2 fun e => hcat (Vt.cat_ext e)
          have HH := Lib.hid (hit_no (n := Dt.days y m d) (.inl hcat))
          clear hcat
          go_wp2
          refine wp_region_quiet_below (by kernel_rfl) (by kernel_rfl) ?_
          repeat (first | go_big_quiet_step (first | (go_at_call 25; exact c0 _ _ _) | (go_at_call_of 26 (Value.int .i64 r.y); exact c1 _ _ _) | (go_at_call_of 26 (Value.int .i64 y); exact c2 _ _ _)) | quiet_step (first | (go_at_call 25; exact c0 _ _ _) | (go_at_call_of 26 (Value.int .i64 r.y); exact c1 _ _ _) | (go_at_call_of 26 (Value.int .i64 y); exact c2 _ _ _)))
          refine wpQuiet_nil ?_
          intro _ hw'
          obtain ⟨⟨dq, osq⟩, hw''⟩ := hw'
          subst hw''
          have HBv := Lib.hid (bchain HB.out (below_regrown wz dq osq))
          go_wp2
          go_roundw
          case rel => exact ⟨k + 1, s, by omega, by go_num, rfl, Lib.hid (HSe.out.skip HKr.out HH.out), HBv⟩
          case measure => simp [intOf]; omega
      · obtain rfl : k = tn := by omega
        have hT' : T.take k = T := List.take_of_length_le (Nat.le_of_eq HTn.out)
        rcases HSe.out with ⟨hs, hl⟩ | ⟨j, q, hs, hj, hjq, hqh, hl⟩
        · subst hs
          rw [hT', HL.out] at hl
          injection hl with h1 h2
          subst h1 h2
          clear hT' HL HSe
          go_wp2_with fail
          refine (vruns_any w1 _ HB.out).mono ?_
          rintro e w3 ⟨rfl, b3⟩
          have HB3 := Lib.hid b3
          clear b3
          go_wp2_with fail
          go_ret
          exact ⟨rfl, bchain HBw1.out HB3.out⟩
        · subst hs
          rw [hT', HL.out] at hl
          injection hl with h1 h2
          subst h1 h2
          obtain ⟨b, off, rfl⟩ := HT.out.at (by omega)
          have hjr : j < T.length := by
            obtain ⟨h1, _⟩ := List.getElem?_eq_some_iff.1 hjq
            exact h1
          have hrow2 := (HT.out.row j hjr).below HB.out
          rw [show T[j] = q from by rw [List.getElem?_eq_getElem hjr] at hjq; exact Option.some.inj hjq] at hrow2
          obtain ⟨f0, f1, f2, f3, f4⟩ := hrow2
          have hbp : (q.bp == q.bp) = true := beq_self_eq_true _
          clear hT' HL HSe hjq hqh hjr
          go_wp2_with fail
          refine (vruns_any w1 _ HB.out).mono ?_
          rintro e w3 ⟨rfl, b3⟩
          have HB3 := Lib.hid b3
          clear b3
          go_wp2_with fail
          go_ret
          exact ⟨rfl, bchain HBw1.out HB3.out⟩
end Go.Proofs.Ytgcjhlnolmjdeaa
