/- ConfTells, walked. (By gencft.py.) -/
import Derived.Test.YtnelakpagjdcdaaCfR
set_option maxRecDepth 100000
set_option linter.unusedVariables false
namespace Go.Proofs.Ytnelakpagjdcdaa
open Go.RowKit
open Mem Cf

set_option maxHeartbeats 2000000 in
theorem confTells_walk (m n id : Int) (w : World) (h0 : (Lit.int .i64 m).wf = true) (h1 : (Lit.int .i64 n).wf = true) (h2 : (Lit.int .i64 id).wf = true) :
    Calls Try.prog 4 #[.int .i64 m, .int .i64 n, .int .i64 id] w fun e w' => e = .returned (.bool true) ∧ Below w.heap.size w w' := by
  clear h0 h1 h2
  go_enter Try.func4, Try.ntmps4
  go_wp2
  go_loopw [7, 8] (fun t i wr => ∃ k : Nat, k ≤ 7 ∧ i = .int .i64 k ∧ Hid (Ci.Own wr w.heap.size t (upto m k)) ∧ Hid (Below w.heap.size w wr)) (fun _ i _ => 7 - (intOf i).toNat)
  case atStart => exact ⟨0, by omega, rfl, Lib.hid (Ci.own_nil _ _), Lib.hid (Below.refl _ _)⟩
  case round =>
    rename World => wz
    obtain ⟨k, hk, rfl, HT, HB⟩ := hrel
    by_cases hlt : k < 7
    · have hlt' : (k : Int) < 7 := by omega
      have CH := Lib.hid (rf_has m k wz)
      rw [hasB_at m k hlt] at CH
      have hle : Hid ((upto m k).length ≤ 100000) := Lib.hid (by
        have := up_le (has m) k
        rw [upto_len]
        omega)
      cases hq : has m k
      · have HT1 : Hid (Ci.Own wz w.heap.size _ (upto m (k + 1))) := Lib.hid (by rw [upto_no hq]; exact HT.out)
        rw [hq] at CH
        clear hq HT
        go_wp2_with (go_at_call 13; refine CH.out.mono ?_; rintro e u ⟨rfl, hu⟩; rw [hu]; clear hu u)
        go_roundw
        case rel => exact ⟨k + 1, by omega, by go_num, HT1, HB⟩
        case measure => simp [intOf]; omega
      · have HK := Lib.hid (upto_yes hq)
        rw [hq] at CH
        clear hq
        go_wp2_with (first | (go_at_call 13; refine CH.out.mono ?_; rintro e u ⟨rfl, hu⟩; rw [hu]; clear hu u) | (at_builtin; go_must (refine Ci.app wz (k : Int) rfl (.tmp 17) (.tmp 19) rfl w.heap.size _ (upto m k) rfl HT.out rfl hle.out HB.out.size ?_)))
        intro v' w1 ho gr
        have HO1 : Hid (Ci.Own w1 w.heap.size v' (upto m (k + 1))) := Lib.hid (by rw [HK.out]; exact ho)
        have HB1 : Hid (Below w.heap.size w w1) := Lib.hid ((HB.out.alloc HB.out.size _).grown gr (by have := HB.out.size; simp; omega) (Ci.own_ge HT.out))
        clear ho gr HT
        go_wp2_with fail
        go_roundw
        case rel => exact ⟨k + 1, by omega, by go_num, HO1, HB1⟩
        case measure => simp [intOf]; omega
    · obtain rfl : k = 7 := by omega
      have HL : Hid ((upto m 7).length = cnt m) := Lib.hid (by rw [upto_len, cnt_up])
      obtain ⟨ao, cap, hv, hz⟩ := Ci.own_zs HT.out
      rw [HL.out] at hv hz
      subst hv
      have HZ := Lib.hid hz
      clear hz HT
      have HW := Lib.hid (show mayB m n = (rightB m && (rightB n && decide (cnt (bits .xor .i64 m n) = 1))) from rfl)
      have CR := fun w => Lib.hid (rf_right m w)
      have CS := fun w => Lib.hid (rf_right n w)
      have C1 := fun w => Lib.hid (rf_count (bits .xor .i64 m n) w)
      have DR := fun w => Lib.hid (cf_right m w)
      have DH := fun w => Lib.hid (cf_has m id w)
      have EH := fun w => Lib.hid (rf_has m id w)
      have DC := fun w => Lib.hid (cf_count m w)
      have DL := fun w => Lib.hid (cf_list m w)
      have DM := fun w => Lib.hid (cf_most m n w)
      have EM := fun w => Lib.hid (rf_most m n w)
      have DY := fun w => Lib.hid (cf_may m n w)
      obtain ⟨q, hq⟩ : ∃ q, upto m 7 = q := ⟨_, rfl⟩
      unfold ListE at DL
      rw [hq] at HZ HL DL
      clear hq
      generalize rightB m = r at *
      generalize rightB n = s at *
      generalize mayB m n = z at *
      generalize cnt (bits .xor .i64 m n) = b at *
      generalize cnt m = c at *
      generalize hasB m id = h at *
      generalize mostB m n = o at *
      have HZZ : Hid (z = (r && (s && ((b : Int) == 1)))) := Lib.hid (by
        rw [HW.out]
        congr 2
        rw [Bool.eq_iff_iff]
        simp
        omega)
      have e1 := beq_self_eq_true r
      have e2 := beq_self_eq_true h
      have e3 := beq_self_eq_true o
      have e4 := beq_self_eq_true z
      have e5 := beq_self_eq_true (c : Int)
      go_wp2_with fail
      cases r
      · refine ((CR _).out).mono ?_
        rintro e u ⟨rfl, hu⟩
        rw [hu]
        clear hu u
        go_wp2_with fail
        have HE : Hid (false = z) := Lib.hid (by rw [HZZ.out]; rfl)
        rw [HE.out]
        refine ((DR _).out).mono ?_
        rintro e u ⟨rfl, hu⟩
        rw [hu]
        clear hu u
        go_wp2_with fail
        refine ((CR _).out).mono ?_
        rintro e u ⟨rfl, hu⟩
        rw [hu]
        clear hu u
        go_wp2_with fail
        refine ((DH _).out).mono ?_
        rintro e u ⟨rfl, hu⟩
        rw [hu]
        clear hu u
        go_wp2_with fail
        refine ((EH _).out).mono ?_
        rintro e u ⟨rfl, hu⟩
        rw [hu]
        clear hu u
        go_wp2_with fail
        refine ((DC _).out).mono ?_
        rintro e u ⟨rfl, hu⟩
        rw [hu]
        clear hu u
        go_wp2_with fail
        refine (DL _).out.mono ?_
        rintro e w1 ⟨v, rfl, ho, hb⟩
        obtain ⟨bo, cap', rfl, hz⟩ := Ci.own_zs ho
        rw [HL.out] at hz
        rw [HL.out]
        have HY := Lib.hid hz
        have HX := Lib.hid (HZ.out.below hb)
        have HB1 := Lib.hid (bchain HB.out hb)
        clear ho hb hz
        go_wp2_with fail
        refine (Ci.same q bo ao c cap' cap w w1 HB1.out HY.out HX.out).mono ?_
        rintro e w2 ⟨rfl, hb⟩
        have HB2 := Lib.hid hb
        clear hb
        go_wp2_with fail
        refine ((DM _).out).mono ?_
        rintro e u ⟨rfl, hu⟩
        rw [hu]
        clear hu u
        go_wp2_with fail
        refine ((EM _).out).mono ?_
        rintro e u ⟨rfl, hu⟩
        rw [hu]
        clear hu u
        go_wp2_with fail
        refine ((DY _).out).mono ?_
        rintro e u ⟨rfl, hu⟩
        rw [hu]
        clear hu u
        go_wp2_with fail
        refine (conf_runs w w2 HB2.out).mono ?_
        rintro e w3 ⟨rfl, hb⟩
        have HB3 := Lib.hid hb
        clear hb
        go_wp2_with fail
        go_ret
        exact ⟨rfl, HB3.out⟩
      cases s
      · refine ((CR _).out).mono ?_
        rintro e u ⟨rfl, hu⟩
        rw [hu]
        clear hu u
        go_wp2_with fail
        refine ((CS _).out).mono ?_
        rintro e u ⟨rfl, hu⟩
        rw [hu]
        clear hu u
        go_wp2_with fail
        have HE : Hid (false = z) := Lib.hid (by rw [HZZ.out]; rfl)
        rw [HE.out]
        refine ((DR _).out).mono ?_
        rintro e u ⟨rfl, hu⟩
        rw [hu]
        clear hu u
        go_wp2_with fail
        refine ((CR _).out).mono ?_
        rintro e u ⟨rfl, hu⟩
        rw [hu]
        clear hu u
        go_wp2_with fail
        refine ((DH _).out).mono ?_
        rintro e u ⟨rfl, hu⟩
        rw [hu]
        clear hu u
        go_wp2_with fail
        refine ((EH _).out).mono ?_
        rintro e u ⟨rfl, hu⟩
        rw [hu]
        clear hu u
        go_wp2_with fail
        refine ((DC _).out).mono ?_
        rintro e u ⟨rfl, hu⟩
        rw [hu]
        clear hu u
        go_wp2_with fail
        refine (DL _).out.mono ?_
        rintro e w1 ⟨v, rfl, ho, hb⟩
        obtain ⟨bo, cap', rfl, hz⟩ := Ci.own_zs ho
        rw [HL.out] at hz
        rw [HL.out]
        have HY := Lib.hid hz
        have HX := Lib.hid (HZ.out.below hb)
        have HB1 := Lib.hid (bchain HB.out hb)
        clear ho hb hz
        go_wp2_with fail
        refine (Ci.same q bo ao c cap' cap w w1 HB1.out HY.out HX.out).mono ?_
        rintro e w2 ⟨rfl, hb⟩
        have HB2 := Lib.hid hb
        clear hb
        go_wp2_with fail
        refine ((DM _).out).mono ?_
        rintro e u ⟨rfl, hu⟩
        rw [hu]
        clear hu u
        go_wp2_with fail
        refine ((EM _).out).mono ?_
        rintro e u ⟨rfl, hu⟩
        rw [hu]
        clear hu u
        go_wp2_with fail
        refine ((DY _).out).mono ?_
        rintro e u ⟨rfl, hu⟩
        rw [hu]
        clear hu u
        go_wp2_with fail
        refine (conf_runs w w2 HB2.out).mono ?_
        rintro e w3 ⟨rfl, hb⟩
        have HB3 := Lib.hid hb
        clear hb
        go_wp2_with fail
        go_ret
        exact ⟨rfl, HB3.out⟩
      · refine ((CR _).out).mono ?_
        rintro e u ⟨rfl, hu⟩
        rw [hu]
        clear hu u
        go_wp2_with fail
        refine ((CS _).out).mono ?_
        rintro e u ⟨rfl, hu⟩
        rw [hu]
        clear hu u
        go_wp2_with fail
        refine ((C1 _).out).mono ?_
        rintro e u ⟨rfl, hu⟩
        rw [hu]
        clear hu u
        go_wp2_with fail
        have HE : Hid (((b : Int) == 1) = z) := Lib.hid (by rw [HZZ.out]; rfl)
        rw [HE.out]
        refine ((DR _).out).mono ?_
        rintro e u ⟨rfl, hu⟩
        rw [hu]
        clear hu u
        go_wp2_with fail
        refine ((CR _).out).mono ?_
        rintro e u ⟨rfl, hu⟩
        rw [hu]
        clear hu u
        go_wp2_with fail
        refine ((DH _).out).mono ?_
        rintro e u ⟨rfl, hu⟩
        rw [hu]
        clear hu u
        go_wp2_with fail
        refine ((EH _).out).mono ?_
        rintro e u ⟨rfl, hu⟩
        rw [hu]
        clear hu u
        go_wp2_with fail
        refine ((DC _).out).mono ?_
        rintro e u ⟨rfl, hu⟩
        rw [hu]
        clear hu u
        go_wp2_with fail
        refine (DL _).out.mono ?_
        rintro e w1 ⟨v, rfl, ho, hb⟩
        obtain ⟨bo, cap', rfl, hz⟩ := Ci.own_zs ho
        rw [HL.out] at hz
        rw [HL.out]
        have HY := Lib.hid hz
        have HX := Lib.hid (HZ.out.below hb)
        have HB1 := Lib.hid (bchain HB.out hb)
        clear ho hb hz
        go_wp2_with fail
        refine (Ci.same q bo ao c cap' cap w w1 HB1.out HY.out HX.out).mono ?_
        rintro e w2 ⟨rfl, hb⟩
        have HB2 := Lib.hid hb
        clear hb
        go_wp2_with fail
        refine ((DM _).out).mono ?_
        rintro e u ⟨rfl, hu⟩
        rw [hu]
        clear hu u
        go_wp2_with fail
        refine ((EM _).out).mono ?_
        rintro e u ⟨rfl, hu⟩
        rw [hu]
        clear hu u
        go_wp2_with fail
        refine ((DY _).out).mono ?_
        rintro e u ⟨rfl, hu⟩
        rw [hu]
        clear hu u
        go_wp2_with fail
        refine (conf_runs w w2 HB2.out).mono ?_
        rintro e w3 ⟨rfl, hb⟩
        have HB3 := Lib.hid hb
        clear hb
        go_wp2_with fail
        go_ret
        exact ⟨rfl, HB3.out⟩
end Go.Proofs.Ytnelakpagjdcdaa
