/- CONTRACTS OF PACKAGE pack: folded, width, Num, Text. -/
import Derived.Test.YtagjbjppddbalaaPk
import Derived.Test.YtagjbjppddbalaaByK
import Derived.Lib.Zigzag
import Derived.Lib.VarintBits
namespace Go.Proofs.Ytagjbjppddbalaa
open Go.RowKit
open Mem Pk

theorem zz_lib (n : Int) : zz n = Lib.zigzag n := by
  unfold zz Lib.zigzag
  split <;> split <;> omega
theorem pack_folded (n : Int) (hn : Fit n) (w : World) : Calls Try.prog 45 #[.int .i64 n] w fun e w' => e = .returned (.int .u64 (zz n : Int)) ∧ w' = w := by
  unfold Fit at hn
  by_cases h : n < 0
  · have hz := Lib.zigzag_neg hn.1 h
    rw [← zz_lib] at hz
    have hm : ¬ IntKind.u64.signed = true := by decide
    go_enter Try.func45, Try.ntmps45
    go_wp2
    go_ret
    exact ⟨rfl, rfl⟩
  · have hz : (zz n : Int) = n * 2 := by
      unfold zz
      rw [if_neg h]
      omega
    rw [hz]
    go_enter Try.func45, Try.ntmps45
    go_wp2
    go_ret
    exact ⟨rfl, rfl⟩
theorem vbF_len_low {f u : Nat} (h : u < 128) : (vbF (f + 1) u).length = 1 := by rw [vbF_low h]; rfl
theorem vbF_len_high {f u : Nat} (h : ¬ u < 128) : (vbF (f + 1) u).length = 1 + (vbF f (u / 128)).length := by rw [vbF_high h, List.length_cons]; omega
theorem pack_width (u : Nat) (hu : u < 18446744073709551616) (w : World) : Calls Try.prog 46 #[.int .u64 (u : Int)] w fun e w' => e = .returned (.int .i64 (wd u : Int)) ∧ w' = w := by
  have HU := Lib.hid hu
  clear hu
  go_enter Try.func46, Try.ntmps46
  go_wp2
  go_loop [0, 3] (fun x k => ∃ (c v : Nat), x = .int .u64 (v : Int) ∧ k = .int .i64 (c : Int) ∧ c ≤ 10 ∧ 1 ≤ c ∧ v < 18446744073709551616 ∧ Hid (v < lim c) ∧ Hid (c + (vbF (11 - c) v).length = wd u + 1)) (fun _ k => (10 - intOf k).toNat)
  case atStart => exact ⟨1, u, rfl, rfl, by omega, by omega, HU.out, Lib.hid (by rw [lim_one]; exact HU.out), Lib.hid (by unfold wd vb; simp; omega)⟩
  case round =>
    obtain ⟨c, v, rfl, rfl, hc, hc1, hv, HV, HL⟩ := hrel
    have HVn := Lib.hid hv
    clear hv
    by_cases hlt : v < 128
    · have HE : Hid ((c : Int) = (wd u : Int)) := Lib.hid (by
        have h := HL.out
        rw [show 11 - c = (10 - c) + 1 by omega, vbF_len_low hlt] at h
        omega)
      have a1 : ¬ (128 : Int) ≤ (v : Int) := by omega
      go_wp2
      go_ret
      exact ⟨ret_int HE.out, rfl⟩
    · have hi9 : c < 10 := by
        by_cases h9 : c < 10
        · exact h9
        · obtain rfl : c = 10 := by omega
          have := HV.out
          rw [lim_ten] at this
          omega
      have HV2 : Hid (v / 128 < lim (c + 1)) := Lib.hid (by
        have := HV.out
        rw [lim_step hi9] at this
        omega)
      have HL2 : Hid (c + 1 + (vbF (11 - (c + 1)) (v / 128)).length = wd u + 1) := Lib.hid (by
        have h := HL.out
        rw [show 11 - c = (11 - (c + 1)) + 1 by omega, vbF_len_high hlt] at h
        omega)
      have a1 : (128 : Int) ≤ (v : Int) := by omega
      go_wp2
      go_round
      case rel => exact ⟨c + 1, v / 128, by simp, by go_num, by omega, by omega, (by have := HVn.out; omega), HV2, HL2⟩
      case measure => simp [intOf]; omega
theorem and127 (v : Nat) (hv : v < 18446744073709551616) : bits .and .u64 (v : Int) 127 = ((v % 128 : Nat) : Int) := by
  have h := u64_and_nat v 127 hv (by omega)
  have e : v &&& 127 = v % 128 := Nat.and_two_pow_sub_one_eq_mod v 7
  rw [e] at h
  exact h
theorem set_at {bs pre : List UInt8} {L m i : Nat} {x : UInt8} (hm : m = bs.length) (hi : pre.length = i) : (bs ++ pre ++ List.replicate (L + 1) 0).set (m + i) x = bs ++ (pre ++ [x]) ++ List.replicate L 0 := by
  rw [List.set_append_right _ _ (by rw [List.length_append]; omega), List.length_append, ← hm, hi, Nat.sub_self, List.replicate_succ, List.set_cons_zero]
  simp
set_option maxHeartbeats 2000000 in
theorem pack_num (bs : List UInt8) (n : Int) (hn : Fit n) (ao : Option Addr) (m cap : Nat) (w : World) (hL : By.Ls w ao m cap bs) (hm : m ≤ 1000000000000) :
    Calls Try.prog 26 #[.slice ao m cap, .int .i64 n] w fun e w' => (∃ g, e = .returned (.slice (some ⟨g, 0, none⟩) (m + wd (zz n)) (m + wd (zz n))) ∧ w.heap.size ≤ g ∧ By.Block w' g (bs ++ vb (zz n))) ∧ Below w.heap.size w w' := by
  have HF := Lib.hid hn
  have HL := Lib.hid hL
  have HLen := Lib.hid hL.len
  obtain ⟨u, hu⟩ : ∃ u, zz n = u := ⟨_, rfl⟩
  have hul : u < 18446744073709551616 := hu ▸ zz_lt hn
  have HU := Lib.hid hu
  obtain ⟨d, hd⟩ : ∃ d, wd u = d := ⟨_, rfl⟩
  have hd10 : d ≤ 10 := by rw [← hd]; exact vbF_len 10 u
  have hd1 : 1 ≤ d := by rw [← hd]; exact vbF_pos
  have HD := Lib.hid hd
  have hmk := By.make (m + d) (by omega)
  rw [show ((m + d : Nat) : Int) = (m : Int) + (d : Int) from by omega] at hmk
  have hb0 := By.block_made w (m + d)
  rw [← List.replicate_append_replicate] at hb0
  have hB1 := (Below.refl w.heap.size w).alloc (Nat.le_refl _) (.cells (By.zeros (m + d)) 5)
  obtain ⟨W1, hcp, hblk, hbel, hsz⟩ := By.copy (w.alloc (.cells (By.zeros (m + d)) 5)) w.heap.size 0 [] (List.replicate d 0) (m + d) ao m cap bs (by simpa using hb0) rfl hL.len (hL.below hB1).seg (some ⟨w.heap.size, 0, none⟩) (fun _ => rfl)
  rw [List.length_replicate] at hcp
  rw [List.nil_append] at hblk
  have HB1 := Lib.hid (hbel _ _ hB1 (Nat.le_refl _))
  have HBk := Lib.hid hblk
  have hcap := hL.reach
  have HUl := Lib.hid hul
  rw [hu, hd]
  clear hL hn hu hd hb0 hblk hbel hsz hB1 hul
  go_enter Try.func26, Try.ntmps26
  go_wp2_with fail
  refine (pack_folded n HF.out w).mono ?_
  rintro e w2 ⟨rfl, rfl⟩
  rename World => w
  rw [HU.out]
  go_wp2_with fail
  refine (pack_width u HUl.out w).mono ?_
  rintro e w3 ⟨rfl, rfl⟩
  rename World => w
  rw [HD.out]
  go_wp2_with fail
  clear hmk hcp
  go_loopw [5, 7] (fun x k wr => ∃ (i v L : Nat) (pre : List UInt8), x = .int .u64 (v : Int) ∧ k = .int .i64 ((m : Int) + (i : Int)) ∧ i + L + 1 = d ∧ Hid (v < 18446744073709551616 ∧ v < lim (i + 1)) ∧ Hid (pre.length = i) ∧ Hid (vb u = pre ++ vbF (10 - i) v) ∧ Hid ((vbF (10 - i) v).length = L + 1) ∧ Hid (By.Block wr w.heap.size (bs ++ pre ++ List.replicate (L + 1) 0)) ∧ Hid (Below w.heap.size w wr)) (fun _ k _ => m + d - (intOf k).toNat)
  case atStart => exact ⟨0, u, d - 1, [], rfl, by go_num, by omega, Lib.hid ⟨HUl.out, by rw [lim_one]; exact HUl.out⟩, Lib.hid rfl, Lib.hid rfl, Lib.hid (by have h := HD.out; unfold wd vb at h; rw [Nat.sub_zero, h]; omega), Lib.hid (by rw [List.append_nil, show d - 1 + 1 = d by omega]; exact HBk.out), HB1⟩
  case round =>
    obtain ⟨i, v, L, pre, rfl, rfl, hil, HV, HPl, HVb, HLn, HBl, HB⟩ := hrel
    have hlen9 : m + i < (bs ++ pre ++ List.replicate (L + 1) (0 : UInt8)).length := by
      rw [List.length_append, List.length_append, List.length_replicate, ← HLen.out, HPl.out]
      omega
    have hc := HBl.out.row (m + i) hlen9
    have hf := HBl.out.frozen (m + i)
    obtain ⟨z, hz⟩ : ∃ z, By.bv (bs ++ pre ++ List.replicate (L + 1) (0 : UInt8))[m + i] = z := ⟨_, rfl⟩
    rw [hz] at hc
    clear hz hlen9
    by_cases hL0 : L = 0
    · subst hL0
      have HS : Hid (v < 128) := Lib.hid (by
        by_cases hs : v < 128
        · exact hs
        · have h := HLn.out
          rw [show 10 - i = (9 - i) + 1 by omega, vbF_len_high hs] at h
          by_cases h9 : i = 9
          · have := HV.out.2
            rw [h9, lim_ten] at this
            omega
          · have := vbF_pos (f := 8 - i) (u := v / 128)
            rw [show 8 - i + 1 = 9 - i by omega] at this
            omega)
      have HW8 : Hid (IntKind.u8.wrap (v : Int) = (v : Int)) := Lib.hid (by
        rw [IntKind.wrap_u8]
        have := HS.out
        omega)
      have hw8 := HW8.out
      have hdi : (m : Int) + (d : Int) - 1 = (m : Int) + (i : Int) := by omega
      have a1 : ¬ (m : Int) + (i : Int) < (m : Int) + (d : Int) - 1 := by omega
      go_wp2_with fail
      go_ret
      refine ⟨⟨w.heap.size, rfl, Nat.le_refl _, ?_⟩, HB.out.setCell (p := ⟨w.heap.size, m + i, none⟩) (Nat.le_refl _) _⟩
      have h := HBl.out.store (m + i) (UInt8.ofNat v)
      rw [set_at HLen.out HPl.out] at h
      have e1 : By.bv (UInt8.ofNat v) = .int .u8 (v : Int) := by
        unfold By.bv
        rw [byte_nat (by have := HS.out; omega)]
      rw [e1] at h
      have e2 : vb u = pre ++ [UInt8.ofNat v] := by
        rw [HVb.out, show 10 - i = (9 - i) + 1 by omega, vbF_low HS.out]
      rw [e2]
      simpa using h
    · have HS : Hid (¬ v < 128) := Lib.hid (fun hs => by
        have h := HLn.out
        rw [show 10 - i = (9 - i) + 1 by omega, vbF_len_low hs] at h
        omega)
      obtain ⟨r, hr⟩ : ∃ r, v % 128 = r := ⟨_, rfl⟩
      obtain ⟨q, hq⟩ : ∃ q, v / 128 = q := ⟨_, rfl⟩
      have hr128 : r < 128 := by omega
      have hand := and127 v HV.out.1
      rw [hr] at hand
      have hw8 : IntKind.u8.wrap (r : Int) = (r : Int) := by
        rw [IntKind.wrap_u8]
        omega
      have hor : bits .or .u8 (r : Int) 128 = (r : Int) + 128 := u8_or128_right _ (by omega) (by omega)
      have hdiv : (v : Int) / 128 = (q : Int) := by omega
      have HR := Lib.hid hr
      have HQ := Lib.hid hq
      obtain ⟨K, rfl⟩ : ∃ K, L = K + 1 := ⟨L - 1, by omega⟩
      have HV2 : Hid (q < 18446744073709551616 ∧ q < lim (i + 1 + 1)) := Lib.hid (by
        have h1 := HV.out.1
        have h2 := HV.out.2
        rw [lim_step (by omega)] at h2
        omega)
      have HVb2 : Hid (vb u = (pre ++ [UInt8.ofNat (r + 128)]) ++ vbF (10 - (i + 1)) q) := Lib.hid (by
        rw [HVb.out, show 10 - i = (10 - (i + 1)) + 1 by omega, vbF_high HS.out, HR.out, HQ.out, List.append_assoc]
        rfl)
      have HLn2 : Hid ((vbF (10 - (i + 1)) q).length = K + 1) := Lib.hid (by
        have h := HLn.out
        rw [show 10 - i = (10 - (i + 1)) + 1 by omega, vbF_len_high HS.out, HQ.out] at h
        omega)
      have a1 : (m : Int) + (i : Int) < (m : Int) + (d : Int) - 1 := by omega
      clear hr hq
      go_wp2_with fail
      go_roundw
      case rel =>
        refine ⟨i + 1, q, K, pre ++ [UInt8.ofNat (r + 128)], rfl, by go_num, by omega, HV2, Lib.hid (by rw [List.length_append, HPl.out]; rfl), HVb2, HLn2, Lib.hid ?_, Lib.hid (HB.out.setCell (p := ⟨w.heap.size, m + i, none⟩) (Nat.le_refl _) _)⟩
        have h := HBl.out.store (m + i) (UInt8.ofNat (r + 128))
        rw [set_at HLen.out HPl.out] at h
        have e1 : By.bv (UInt8.ofNat (r + 128)) = .int .u8 ((r : Int) + 128) := by
          unfold By.bv
          rw [byte_nat (by omega)]
          simp
        rw [e1] at h
        exact h
      case measure => simp [intOf]; omega
end Go.Proofs.Ytagjbjppddbalaa
