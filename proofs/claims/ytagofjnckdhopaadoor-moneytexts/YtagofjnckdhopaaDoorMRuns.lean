/- chapter 4's runs, walked. -/
import Derived.Test.YtagofjnckdhopaaDoorShow
import Derived.Test.YtagofjnckdhopaaDoorFormed
namespace Go.Proofs.YtagofjnckdhopaaDoor
open Go.RowKit

theorem dec_step (u v : Nat) (d : UInt8) (h : ¬ u < 10) (hv : u / 10 = v) (hd : UInt8.ofNat (48 + u % 10) = d) : Lib.decDigits u = Lib.decDigits v ++ [d] := by
  rw [Lib.decDigits, dif_neg h, hv, hd]
theorem show_is (n : Int) (l : List UInt8) (w0 w : World) (hb : Below w0.heap.size w0 w) (ht : Tab w0) (hn : Mn.Fit n) (hl : Mn.shown n = l) :
    Calls Tryd.prog 9 #[.int .i64 n] w fun e w' => e = .returned (.string ⟨l.toArray⟩) ∧ Below w0.heap.size w0 w' :=
  (show_any n w hn (ht.below hb)).mono fun _ _ ⟨⟨x, h1, h2, _⟩, h3⟩ => ⟨by rw [h1]; exact ret_str (txt_ext (by rw [h2, hl, txt_mk])), hb.trans (h3.mono hb.size)⟩
theorem shown1 : Mn.shown 5 = [48, 46, 48, 53] := by
  unfold Mn.shown Mn.bare Mn.two
  simp only [Int.reduceLT, if_false, Int.reduceAbs, Nat.reduceDiv, Nat.reduceMod, Nat.reduceAdd]
  rw [Lib.decDigits_one (by omega)]
  rfl
theorem shown2 : Mn.shown (-1230) = [45, 49, 50, 46, 51, 48] := by
  unfold Mn.shown Mn.bare Mn.two
  simp only [Int.reduceLT, Int.reduceNeg, if_true, Int.reduceAbs, Nat.reduceDiv, Nat.reduceMod, Nat.reduceAdd]
  rw [dec_step 12 1 50 (by omega) rfl rfl, Lib.decDigits_one (by omega)]
  rfl
theorem shown3 : Mn.shown (-9223372036854775808) = [45, 57, 50, 50, 51, 51, 55, 50, 48, 51, 54, 56, 53, 52, 55, 55, 53, 56, 46, 48, 56] := by
  unfold Mn.shown Mn.bare Mn.two
  simp only [Int.reduceLT, Int.reduceNeg, if_true, Int.reduceAbs, Nat.reduceDiv, Nat.reduceMod, Nat.reduceAdd]
  rw [dec_step 92233720368547758 9223372036854775 56 (by omega) rfl rfl, dec_step 9223372036854775 922337203685477 53 (by omega) rfl rfl, dec_step 922337203685477 92233720368547 55 (by omega) rfl rfl, dec_step 92233720368547 9223372036854 55 (by omega) rfl rfl, dec_step 9223372036854 922337203685 52 (by omega) rfl rfl, dec_step 922337203685 92233720368 53 (by omega) rfl rfl, dec_step 92233720368 9223372036 56 (by omega) rfl rfl, dec_step 9223372036 922337203 54 (by omega) rfl rfl, dec_step 922337203 92233720 51 (by omega) rfl rfl, dec_step 92233720 9223372 48 (by omega) rfl rfl, dec_step 9223372 922337 50 (by omega) rfl rfl, dec_step 922337 92233 55 (by omega) rfl rfl, dec_step 92233 9223 51 (by omega) rfl rfl, dec_step 9223 922 51 (by omega) rfl rfl, dec_step 922 92 50 (by omega) rfl rfl, dec_step 92 9 50 (by omega) rfl rfl, Lib.decDigits_one (by omega)]
  rfl
theorem reads_is (l : List UInt8) (n k : Int) (w0 w : World) (hb : Below w0.heap.size w0 w) (hs : l.length ≤ 100) (h1 : Mn.val l = n) (h2 : Mn.why l = k) :
    Calls Tryd.prog 10 #[.string ⟨l.toArray⟩, .int .i64 n, .int .i64 k] w fun e w' => e = .returned (.bool true) ∧ Below w0.heap.size w0 w' := by
  have HB := Lib.hid hb
  clear hb
  obtain ⟨s, hs1⟩ : ∃ s : ByteArray, (⟨l.toArray⟩ : ByteArray) = s := ⟨_, rfl⟩
  have hs2 : txt s = l := by rw [← hs1]; rfl
  have hs3 : s.size ≤ 100 := by rw [← hs1, size_mk]; exact hs
  rw [hs1]
  go_enter Tryd.func10, Tryd.ntmps10
  go_wp2_with fail
  refine (read_gen s w0 _ HB.out (by omega)).mono ?_
  rintro e w1 ⟨rfl, b1⟩
  have HB1 := Lib.hid b1
  clear b1
  rw [hs2, h1, h2]
  unfold both
  go_wp2
  go_ret
  exact ⟨rfl, HB1.out⟩

set_option maxHeartbeats 4000000 in
theorem runs_any (w : World) (ht : Tab w) : Calls Tryd.prog 3 #[] w fun e w' => e = .returned (.bool true) ∧ Below w.heap.size w w' := by
  have HT := Lib.hid ht
  clear ht
  go_enter Tryd.func3, Tryd.ntmps3
  go_wp2_with fail
  refine (show_is 5 _ w _ (Below.refl _ _) HT.out ⟨by omega, by omega⟩ shown1).mono ?_
  rintro e w1 ⟨rfl, b1⟩
  have HB1 := Lib.hid b1
  clear b1
  go_wp2_with fail
  refine (show_is (-1230) _ w _ (HB1.out) HT.out ⟨by omega, by omega⟩ shown2).mono ?_
  rintro e w2 ⟨rfl, b2⟩
  have HB2 := Lib.hid b2
  clear b2
  go_wp2_with fail
  refine (show_is (-9223372036854775808) _ w _ (HB2.out) HT.out ⟨by omega, by omega⟩ shown3).mono ?_
  rintro e w3 ⟨rfl, b3⟩
  have HB3 := Lib.hid b3
  clear b3
  go_wp2_with fail
  refine (reads_is [49, 50, 46, 51, 48] 1230 0 w _ (HB3.out) (by decide) (by decide +kernel) (by decide +kernel)).mono ?_
  rintro e w4 ⟨rfl, b4⟩
  have HB4 := Lib.hid b4
  clear b4
  go_wp2_with fail
  refine (reads_is [48, 49, 50, 46, 51, 48] 0 4 w _ (HB4.out) (by decide) (by decide +kernel) (by decide +kernel)).mono ?_
  rintro e w5 ⟨rfl, b5⟩
  have HB5 := Lib.hid b5
  clear b5
  go_wp2_with fail
  refine (reads_is [49, 46, 53] 0 4 w _ (HB5.out) (by decide) (by decide +kernel) (by decide +kernel)).mono ?_
  rintro e w6 ⟨rfl, b6⟩
  have HB6 := Lib.hid b6
  clear b6
  go_wp2_with fail
  refine (reads_is [45, 48, 46, 48, 48] 0 4 w _ (HB6.out) (by decide) (by decide +kernel) (by decide +kernel)).mono ?_
  rintro e w7 ⟨rfl, b7⟩
  have HB7 := Lib.hid b7
  clear b7
  go_wp2_with fail
  refine (reads_is [57, 50, 50, 51, 51, 55, 50, 48, 51, 54, 56, 53, 52, 55, 55, 53, 56, 46, 48, 56] 0 7 w _ (HB7.out) (by decide) (by decide +kernel) (by decide +kernel)).mono ?_
  rintro e w8 ⟨rfl, b8⟩
  have HB8 := Lib.hid b8
  clear b8
  go_wp2_with fail
  refine (add_any 9223372036854775807 1 _ ⟨by omega, by omega⟩ ⟨by omega, by omega⟩).mono ?_
  rintro e w9 ⟨rfl, hw9⟩
  subst hw9
  rw [both_not (by decide)]
  unfold both
  go_wp2_with fail
  refine (sub_any 0 (-9223372036854775808) _ ⟨by omega, by omega⟩ ⟨by omega, by omega⟩).mono ?_
  rintro e w10 ⟨rfl, hw10⟩
  subst hw10
  rw [both_not (by decide)]
  unfold both
  go_wp2_with fail
  refine (mul_any (-9223372036854775808) (-1) _ ⟨by omega, by omega⟩ ⟨by omega, by omega⟩).mono ?_
  rintro e w11 ⟨rfl, hw11⟩
  subst hw11
  rw [both_not (by decide)]
  unfold both
  go_wp2_with fail
  refine (mul_any 4294967296 (-2147483648) _ ⟨by omega, by omega⟩ ⟨by omega, by omega⟩).mono ?_
  rintro e w12 ⟨rfl, hw12⟩
  subst hw12
  rw [both_fit (by decide)]
  unfold both
  go_wp2_with fail
  go_ret
  exact ⟨rfl, HB8.out⟩
theorem moneyRuns_walk (w : World) (ht : Tab w) : Calls Tryd.prog 3 #[] w fun e w' => e = .returned (.bool true) ∧ Below w.heap.size w w' := runs_any w ht
theorem runs_from (w0 w : World) (ht : Tab w0) (hb : Below w0.heap.size w0 w) : Calls Tryd.prog 3 #[] w fun e w' => e = .returned (.bool true) ∧ Below w0.heap.size w0 w' :=
  (runs_any w (ht.below hb)).mono fun _ _ ⟨h1, h2⟩ => ⟨h1, hb.trans (h2.mono hb.size)⟩
end Go.Proofs.YtagofjnckdhopaaDoor
