/- CONTRACTS OF PACKAGE money: plain, Show. -/
import Derived.Test.YtagofjnckdhopaaDoorMoney
import Derived.Lib.ItoaLen
namespace Go.Proofs.YtagofjnckdhopaaDoor
open Go.RowKit

theorem itoa_len (n : Int) (h : Mn.Fit n) : (Lib.itoa n).length ≤ 21 := Lib.itoa_length_le n h.1 h.2
theorem itoa_gen (n : Int) (w0 w : World) (h0 : 0 ≤ n) (h1 : n ≤ 9223372036854775807) (ht : Tab w0) (hb : Below w0.heap.size w0 w) :
    Calls Tryd.prog 28 #[.int .i64 n] w fun e w' => (∃ x : ByteArray, e = .returned (.string x) ∧ txt x = Lib.decDigits n.toNat ∧ x.size ≤ 21) ∧ Below w0.heap.size w0 w' :=
  (itoa_any n (by omega) h1 w (ht.below hb)).mono fun _ _ ⟨h2, h3⟩ => ⟨⟨_, h2, by
    rw [txt_mk]
    unfold Lib.itoa
    rw [if_neg (by omega)], by
    rw [size_mk]
    exact itoa_len n ⟨by omega, h1⟩⟩, hb.trans (h3.mono hb.size)⟩
theorem digit_gen (n : Int) (w0 w : World) (h0 : 0 ≤ n) (h1 : n < 10) (hb : Below w0.heap.size w0 w) :
    Calls Tryd.prog 28 #[.int .i64 n] w fun e w' => (∃ x : ByteArray, e = .returned (.string x) ∧ txt x = [UInt8.ofNat (48 + n.toNat)] ∧ x.size = 1) ∧ Below w0.heap.size w0 w' := by
  obtain ⟨i, rfl⟩ : ∃ i : Nat, n = i := ⟨n.toNat, by omega⟩
  exact (itoa_small i (by omega) w).mono fun _ _ ⟨h2, h3⟩ => ⟨⟨_, h2, rfl, rfl⟩, by rw [h3]; exact hb⟩
theorem size46 : (ByteArray.mk #[46]).size = 1 := rfl
theorem txt46 : txt (ByteArray.mk #[46]) = [46] := rfl
theorem size45 : (ByteArray.mk #[45]).size = 1 := rfl
theorem txt45 : txt (ByteArray.mk #[45]) = [45] := rfl

set_option maxHeartbeats 1000000 in
theorem plain_any (q r : Int) (w : World) (hq0 : 0 ≤ q) (hq1 : q ≤ 9223372036854775807) (hr0 : 0 ≤ r) (hr1 : r < 100) (ht : Tab w) :
    Calls Tryd.prog 21 #[.int .i64 q, .int .i64 r] w fun e w' => (∃ x : ByteArray, e = .returned (.string x) ∧ txt x = Lib.decDigits q.toNat ++ [46, UInt8.ofNat (48 + r.toNat / 10), UInt8.ofNat (48 + r.toNat % 10)] ∧ x.size ≤ 24) ∧ Below w.heap.size w w' := by
  have HT := Lib.hid ht
  clear ht
  go_enter Tryd.func21, Tryd.ntmps21
  go_wp2_with fail
  refine (itoa_gen q w _ hq0 hq1 HT.out (Below.refl _ _)).mono ?_
  rintro e w1 ⟨⟨x1, rfl, hx1, hs1⟩, b1⟩
  have HB1 := Lib.hid b1
  obtain ⟨t1, _, ht1, hz1, hadd1⟩ := add_run x1 ⟨#[46]⟩ (by rw [size46]; omega)
  have HX1 : Hid (txt t1 = Lib.decDigits q.toNat ++ [46] ∧ t1.size ≤ 22) := by
    refine ⟨by rw [ht1, hx1, txt46], by rw [hz1, size46]; omega⟩
  clear b1 hx1 ht1 hz1 hs1
  go_wp2_with fail
  refine (digit_gen _ w _ (by omega) (by omega) HB1.out).mono ?_
  rintro e w2 ⟨⟨x2, rfl, hx2, hs2⟩, b2⟩
  have HB2 := Lib.hid b2
  obtain ⟨t2, _, ht2, hz2, hadd2⟩ := add_run t1 x2 (by have := HX1.out.2; omega)
  have HX2 : Hid (txt t2 = (Lib.decDigits q.toNat ++ [46]) ++ [UInt8.ofNat (48 + r.toNat / 10)] ∧ t2.size ≤ 23) := by
    refine ⟨by rw [ht2, hx2, HX1.out.1]; congr 4; omega, by have := HX1.out.2; omega⟩
  clear b2 hx2 ht2 hz2 hs2 HB1 HX1
  go_wp2_with fail
  refine (digit_gen _ w _ (by omega) (by omega) HB2.out).mono ?_
  rintro e w3 ⟨⟨x3, rfl, hx3, hs3⟩, b3⟩
  have HB3 := Lib.hid b3
  obtain ⟨t3, _, ht3, hz3, hadd3⟩ := add_run t2 x3 (by have := HX2.out.2; omega)
  have HX3 : Hid (txt t3 = ((Lib.decDigits q.toNat ++ [46]) ++ [UInt8.ofNat (48 + r.toNat / 10)]) ++ [UInt8.ofNat (48 + r.toNat % 10)] ∧ t3.size ≤ 24) := by
    refine ⟨by rw [ht3, hx3, HX2.out.1]; congr 4; omega, by have := HX2.out.2; omega⟩
  clear b3 hx3 ht3 hz3 hs3 HB2 HX2
  go_wp2_with fail
  go_ret
  refine ⟨⟨t3, rfl, ?_, HX3.out.2⟩, HB3.out⟩
  rw [HX3.out.1, List.append_assoc, List.append_assoc]
  rfl
theorem bare_eq (u : Nat) (q r : Int) (hq : q = (u / 100 : Nat)) (hr : r = (u % 100 : Nat)) : Lib.decDigits q.toNat ++ [46, UInt8.ofNat (48 + r.toNat / 10), UInt8.ofNat (48 + r.toNat % 10)] = Mn.bare u := by
  subst hq hr
  unfold Mn.bare Mn.two
  rw [Int.toNat_natCast, Int.toNat_natCast, show u % 100 % 10 = u % 10 by omega]
set_option maxHeartbeats 1000000 in
theorem show_any (n : Int) (w : World) (hn : Mn.Fit n) (ht : Tab w) :
    Calls Tryd.prog 9 #[.int .i64 n] w fun e w' => (∃ x : ByteArray, e = .returned (.string x) ∧ txt x = Mn.shown n ∧ x.size ≤ 25) ∧ Below w.heap.size w w' := by
  have HT := Lib.hid ht
  clear ht
  obtain ⟨hn0, hn1⟩ := hn
  by_cases h : n < 0
  · have HS : Hid (Mn.shown n = [45] ++ Mn.bare n.natAbs) := by
      show _ = _
      rw [Mn.shown, if_pos h]
    obtain ⟨q, hq⟩ : ∃ q, n.tdiv 100 = q := ⟨_, rfl⟩
    obtain ⟨r, hr⟩ : ∃ r, n.tmod 100 = r := ⟨_, rfl⟩
    have hq' : -q = (n.natAbs / 100 : Nat) := by
      have e := Int.neg_tdiv (-n) 100
      rw [Int.neg_neg, Int.tdiv_eq_ediv_of_nonneg (show 0 ≤ -n by omega)] at e
      omega
    have hr' : -r = (n.natAbs % 100 : Nat) := by
      have e := Int.neg_tmod (-n) 100
      rw [Int.neg_neg, Int.tmod_eq_emod_of_nonneg (show 0 ≤ -n by omega)] at e
      omega
    go_enter Tryd.func9, Tryd.ntmps9
    go_wp2_with fail
    refine (plain_any ((n.natAbs : Int) / 100) ((n.natAbs : Int) % 100) _ (by omega) (by omega) (by omega) (by omega) HT.out).mono ?_
    rintro e w1 ⟨⟨x, rfl, hx, hs⟩, b1⟩
    have HB := Lib.hid b1
    rw [bare_eq n.natAbs _ _ (by omega) (by omega)] at hx
    obtain ⟨t, _, ht, hz, hadd⟩ := add_run ⟨#[45]⟩ x (by rw [size45]; omega)
    have HX : Hid (txt t = Mn.shown n ∧ t.size ≤ 25) := by
      refine ⟨by rw [ht, hx, txt45, HS.out], by rw [hz, size45]; omega⟩
    clear b1 hx ht hz hs
    go_wp2_with fail
    go_ret
    exact ⟨⟨t, rfl, HX.out.1, HX.out.2⟩, HB.out⟩
  · have HS : Hid (Mn.shown n = Mn.bare n.natAbs) := by
      show _ = _
      rw [Mn.shown, if_neg h]
      rfl
    obtain ⟨q, hq⟩ : ∃ q, n.tdiv 100 = q := ⟨_, rfl⟩
    obtain ⟨r, hr⟩ : ∃ r, n.tmod 100 = r := ⟨_, rfl⟩
    have hq' : q = (n.natAbs / 100 : Nat) := by
      rw [← hq, Int.tdiv_eq_ediv_of_nonneg (by omega)]
      omega
    have hr' : r = (n.natAbs % 100 : Nat) := by
      rw [← hr, Int.tmod_eq_emod_of_nonneg (by omega)]
      omega
    go_enter Tryd.func9, Tryd.ntmps9
    go_wp2_with fail
    refine (plain_any ((n.natAbs : Int) / 100) ((n.natAbs : Int) % 100) _ (by omega) (by omega) (by omega) (by omega) HT.out).mono ?_
    rintro e w1 ⟨⟨x, rfl, hx, hs⟩, b1⟩
    have HB := Lib.hid b1
    rw [bare_eq n.natAbs _ _ (by omega) (by omega)] at hx
    have HX : Hid (txt x = Mn.shown n ∧ x.size ≤ 25) := ⟨by rw [hx, HS.out], by omega⟩
    clear b1 hx hs
    go_wp2_with fail
    go_ret
    exact ⟨⟨x, rfl, HX.out.1, HX.out.2⟩, HB.out⟩
end Go.Proofs.YtagofjnckdhopaaDoor
