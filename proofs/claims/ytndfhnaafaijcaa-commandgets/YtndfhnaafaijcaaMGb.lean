/- MERGED: PkR, PkS, PkT, PkU, PkV. (By mg.py.) -/
import Derived.Test.YtndfhnaafaijcaaMGa
import Derived.Lib.QuietBelow
/- CONTRACTS OF PACKAGE pack: unfolded, number. (By genpkr.py.) -/
namespace Go.Proofs.Ytndfhnaafaijcaa
open Go.RowKit
open Mem Pk

theorem pack_unfolded (u : Nat) (hu : u < 18446744073709551616) (w : World) : Calls Try.prog 61 #[.int .u64 (u : Int)] w fun e w' => e = .returned (.int .i64 (uz u)) ∧ w' = w := by
  obtain ⟨q, hq⟩ : ∃ q, u / 2 = q := ⟨_, rfl⟩
  have hqb : q ≤ 9223372036854775807 := by omega
  have hdiv : (u : Int) / 2 = (q : Int) := by omega
  have hand := Lib.u64_and1 (u : Int) (by omega) (by omega)
  by_cases h1 : u % 2 = 1
  · have hm : (u : Int) % 2 = 1 := by omega
    rw [hm] at hand
    have hz : uz u = -(q : Int) - 1 := by
      unfold uz
      rw [if_pos h1, hq]
    have hnot := Lib.i64_not q (by omega)
    rw [hz]
    clear hq hu h1 hm hz
    go_enter Try.func61, Try.ntmps61
    go_wp2
    go_ret
    exact ⟨rfl, rfl⟩
  · have hm : (u : Int) % 2 = 0 := by omega
    rw [hm] at hand
    have hz : uz u = (q : Int) := by
      unfold uz
      rw [if_neg h1, hq]
    rw [hz]
    clear hq hu h1 hm hz
    go_enter Try.func61, Try.ntmps61
    go_wp2
    go_ret
    exact ⟨rfl, rfl⟩
/-- what number answers -/
def numE : Int ⊕ (Nat × Nat) → Ending
  | .inl e => .returned (.tuple #[.int .i64 0, .int .i64 0, .int .i64 e])
  | .inr p => .returned (.tuple #[.int .i64 (uz p.1), .int .i64 (p.2 : Int), .int .i64 0])
def pw (k : Nat) : Nat := 128 ^ k

set_option maxHeartbeats 4000000 in
theorem pack_number (bs : List UInt8) (ao : Option Addr) (n cap : Nat) (w : World) (hL : By.Ls w ao n cap bs) :
    Calls Try.prog 53 #[.slice ao n cap] w fun e w' => e = numE (num bs) ∧ w' = w := by
  have HL := Lib.hid hL
  have HLen := Lib.hid hL.len
  have hfit := hL.fits
  have hcap := hL.reach
  clear hL
  go_enter Try.func53, Try.ntmps53
  go_wp2
  go_loop [5, 6, 7, 10] (fun x _ _ i => ∃ (k u : Nat), x = .int .u64 (u : Int) ∧ i = .int .i64 (k : Int) ∧ k ≤ 9 ∧ k ≤ n ∧ Hid (u < pw k) ∧ Hid (rd k u (bs.drop k) = num bs)) (fun _ _ _ i => n - (intOf i).toNat)
  case atStart => exact ⟨0, 0, rfl, rfl, by omega, by omega, Lib.hid (by decide), Lib.hid rfl⟩
  case round =>
    obtain ⟨k, u, rfl, rfl, hk9, hkn, HU, HR⟩ := hrel
    by_cases hlt : k < n
    · have hkl : k < bs.length := HLen.out ▸ hlt
      obtain ⟨b, off, rfl⟩ := HL.out.at (by omega)
      have hc := HL.out.row k hkl
      obtain ⟨x, hx⟩ : ∃ x, bs[k] = x := ⟨_, rfl⟩
      have HDr : Hid (bs.drop k = x :: bs.drop (k + 1)) := Lib.hid (by rw [List.drop_eq_getElem_cons hkl, hx])
      rw [hx] at hc
      have hx256 : x.toNat ≤ 255 := by
        have := UInt8.toNat_lt x
        omega
      obtain ⟨c, hcx⟩ : ∃ c, x.toNat = c := ⟨_, rfl⟩
      unfold By.bv at hc
      rw [hcx] at hc hx256
      have HCx := Lib.hid hcx
      have hand := u8_and127 (c : Int) (by omega) (by omega)
      obtain ⟨r, hr⟩ : ∃ r, c % 128 = r := ⟨_, rfl⟩
      have hr128 : r ≤ 127 := by omega
      rw [show (c : Int) % 128 = (r : Int) by omega] at hand
      have HRc := Lib.hid hr
      clear hx hkl hcx hr
      rcases (by omega : k = 0 ∨ k = 1 ∨ k = 2 ∨ k = 3 ∨ k = 4 ∨ k = 5 ∨ k = 6 ∨ k = 7 ∨ k = 8 ∨ k = 9) with rfl | rfl | rfl | rfl | rfl | rfl | rfl | rfl | rfl | rfl
      · have hub : u < 1 := HU.out
        obtain ⟨S, hS⟩ : ∃ S, u + r * 1 = S := ⟨_, rfl⟩
        have HSm := Lib.hid hS
        have HUb := Lib.hid hub
        rw [Nat.add_zero] at hc
        have hSb : S < 128 := by omega
        have HSb := Lib.hid hSb
        have hor : bits .or .u64 (u : Int) ((r : Int)) = (S : Int) := by
          rw [u64_orv0 _ _ (by omega) (by omega) (by omega) (by omega) (by omega)]
          omega
        by_cases hm : 128 ≤ c
        · have HN : Hid (rd 1 S (bs.drop 1) = num bs) := Lib.hid (by
            have h := HR.out
            rw [HDr.out, rd_more (by omega) (by rw [HCx.out]; exact hm), HCx.out, HRc.out] at h
            rw [← HSm.out]
            exact h)
          have HPw : Hid (S < pw 1) := Lib.hid (by
            rw [show pw 1 = 128 by decide]
            exact HSb.out)
          have a1 : (128 : Int) ≤ (c : Int) := by omega
          clear hub hS hSb
          go_wp2
          go_round
          case rel => exact ⟨1, S, rfl, rfl, by omega, by omega, HPw, HN⟩
          case measure => simp [intOf]; omega
        have hrc : r = c := by
          have := HRc.out
          omega
        have a2 : ¬ (128 : Int) ≤ (c : Int) := by omega
        by_cases hc0 : c = 0
        · have q0 : ((c : Int) == 0) = true := beq_iff_eq.2 (by omega)
          have HE : Hid (num bs = .inr (S, 1)) := Lib.hid (by
            rw [← HR.out, HDr.out, rd_last (by rw [HCx.out]; omega) (by rw [HCx.out]; omega) (by rw [HCx.out]; omega), HCx.out, ← HSm.out, hrc])
          clear hub hS hSb hrc hc0
          go_wp2_with fail
          refine (pack_unfolded S (Nat.lt_of_lt_of_le HSb.out (by omega)) w).mono ?_
          rintro e w1 ⟨rfl, rfl⟩
          rename World => w
          go_wp2_with fail
          go_ret3
          exact ⟨by rw [HE.out]; rfl, rfl⟩
        have q0 : ((c : Int) == 0) = false := beq_eq_false_iff_ne.2 (by omega)
        have HE : Hid (num bs = .inr (S, 1)) := Lib.hid (by
          rw [← HR.out, HDr.out, rd_last (by rw [HCx.out]; omega) (by rw [HCx.out]; omega) (by rw [HCx.out]; omega), HCx.out, ← HSm.out, hrc])
        clear hub hS hSb hrc hc0
        go_wp2_with fail
        refine (pack_unfolded S (Nat.lt_of_lt_of_le HSb.out (by omega)) w).mono ?_
        rintro e w1 ⟨rfl, rfl⟩
        rename World => w
        go_wp2_with fail
        go_ret3
        exact ⟨by rw [HE.out]; rfl, rfl⟩
      · have hub : u < 128 := HU.out
        obtain ⟨S, hS⟩ : ∃ S, u + r * 128 = S := ⟨_, rfl⟩
        have HSm := Lib.hid hS
        have HUb := Lib.hid hub
        have hSb : S < 16384 := by omega
        have HSb := Lib.hid hSb
        have hor : bits .or .u64 (u : Int) ((r : Int) * 128) = (S : Int) := by
          rw [u64_orv7 _ _ (by omega) (by omega) (by omega) (by omega) (by omega)]
          omega
        by_cases hm : 128 ≤ c
        · have HN : Hid (rd 2 S (bs.drop 2) = num bs) := Lib.hid (by
            have h := HR.out
            rw [HDr.out, rd_more (by omega) (by rw [HCx.out]; exact hm), HCx.out, HRc.out] at h
            rw [← HSm.out]
            exact h)
          have HPw : Hid (S < pw 2) := Lib.hid (by
            rw [show pw 2 = 16384 by decide]
            exact HSb.out)
          have a1 : (128 : Int) ≤ (c : Int) := by omega
          clear hub hS hSb
          go_wp2
          go_round
          case rel => exact ⟨2, S, rfl, rfl, by omega, by omega, HPw, HN⟩
          case measure => simp [intOf]; omega
        have hrc : r = c := by
          have := HRc.out
          omega
        have a2 : ¬ (128 : Int) ≤ (c : Int) := by omega
        by_cases hc0 : c = 0
        · have HE : Hid (num bs = .inl 4) := Lib.hid (by
            rw [← HR.out, HDr.out, rd_zero (by rw [HCx.out]; exact hc0) (by omega)])
          have q0 : ((c : Int) == 0) = true := beq_iff_eq.2 (by omega)
          clear hub hS hSb hrc hc0
          go_wp2
          go_ret3
          exact ⟨by rw [HE.out]; rfl, rfl⟩
        have q0 : ((c : Int) == 0) = false := beq_eq_false_iff_ne.2 (by omega)
        have HE : Hid (num bs = .inr (S, 2)) := Lib.hid (by
          rw [← HR.out, HDr.out, rd_last (by rw [HCx.out]; omega) (by rw [HCx.out]; omega) (by rw [HCx.out]; omega), HCx.out, ← HSm.out, hrc])
        clear hub hS hSb hrc hc0
        go_wp2_with fail
        refine (pack_unfolded S (Nat.lt_of_lt_of_le HSb.out (by omega)) w).mono ?_
        rintro e w1 ⟨rfl, rfl⟩
        rename World => w
        go_wp2_with fail
        go_ret3
        exact ⟨by rw [HE.out]; rfl, rfl⟩
      · have hub : u < 16384 := HU.out
        obtain ⟨S, hS⟩ : ∃ S, u + r * 16384 = S := ⟨_, rfl⟩
        have HSm := Lib.hid hS
        have HUb := Lib.hid hub
        have hSb : S < 2097152 := by omega
        have HSb := Lib.hid hSb
        have hor : bits .or .u64 (u : Int) ((r : Int) * 16384) = (S : Int) := by
          rw [u64_orv14 _ _ (by omega) (by omega) (by omega) (by omega) (by omega)]
          omega
        by_cases hm : 128 ≤ c
        · have HN : Hid (rd 3 S (bs.drop 3) = num bs) := Lib.hid (by
            have h := HR.out
            rw [HDr.out, rd_more (by omega) (by rw [HCx.out]; exact hm), HCx.out, HRc.out] at h
            rw [← HSm.out]
            exact h)
          have HPw : Hid (S < pw 3) := Lib.hid (by
            rw [show pw 3 = 2097152 by decide]
            exact HSb.out)
          have a1 : (128 : Int) ≤ (c : Int) := by omega
          clear hub hS hSb
          go_wp2
          go_round
          case rel => exact ⟨3, S, rfl, rfl, by omega, by omega, HPw, HN⟩
          case measure => simp [intOf]; omega
        have hrc : r = c := by
          have := HRc.out
          omega
        have a2 : ¬ (128 : Int) ≤ (c : Int) := by omega
        by_cases hc0 : c = 0
        · have HE : Hid (num bs = .inl 4) := Lib.hid (by
            rw [← HR.out, HDr.out, rd_zero (by rw [HCx.out]; exact hc0) (by omega)])
          have q0 : ((c : Int) == 0) = true := beq_iff_eq.2 (by omega)
          clear hub hS hSb hrc hc0
          go_wp2
          go_ret3
          exact ⟨by rw [HE.out]; rfl, rfl⟩
        have q0 : ((c : Int) == 0) = false := beq_eq_false_iff_ne.2 (by omega)
        have HE : Hid (num bs = .inr (S, 3)) := Lib.hid (by
          rw [← HR.out, HDr.out, rd_last (by rw [HCx.out]; omega) (by rw [HCx.out]; omega) (by rw [HCx.out]; omega), HCx.out, ← HSm.out, hrc])
        clear hub hS hSb hrc hc0
        go_wp2_with fail
        refine (pack_unfolded S (Nat.lt_of_lt_of_le HSb.out (by omega)) w).mono ?_
        rintro e w1 ⟨rfl, rfl⟩
        rename World => w
        go_wp2_with fail
        go_ret3
        exact ⟨by rw [HE.out]; rfl, rfl⟩
      · have hub : u < 2097152 := HU.out
        obtain ⟨S, hS⟩ : ∃ S, u + r * 2097152 = S := ⟨_, rfl⟩
        have HSm := Lib.hid hS
        have HUb := Lib.hid hub
        have hSb : S < 268435456 := by omega
        have HSb := Lib.hid hSb
        have hor : bits .or .u64 (u : Int) ((r : Int) * 2097152) = (S : Int) := by
          rw [u64_orv21 _ _ (by omega) (by omega) (by omega) (by omega) (by omega)]
          omega
        by_cases hm : 128 ≤ c
        · have HN : Hid (rd 4 S (bs.drop 4) = num bs) := Lib.hid (by
            have h := HR.out
            rw [HDr.out, rd_more (by omega) (by rw [HCx.out]; exact hm), HCx.out, HRc.out] at h
            rw [← HSm.out]
            exact h)
          have HPw : Hid (S < pw 4) := Lib.hid (by
            rw [show pw 4 = 268435456 by decide]
            exact HSb.out)
          have a1 : (128 : Int) ≤ (c : Int) := by omega
          clear hub hS hSb
          go_wp2
          go_round
          case rel => exact ⟨4, S, rfl, rfl, by omega, by omega, HPw, HN⟩
          case measure => simp [intOf]; omega
        have hrc : r = c := by
          have := HRc.out
          omega
        have a2 : ¬ (128 : Int) ≤ (c : Int) := by omega
        by_cases hc0 : c = 0
        · have HE : Hid (num bs = .inl 4) := Lib.hid (by
            rw [← HR.out, HDr.out, rd_zero (by rw [HCx.out]; exact hc0) (by omega)])
          have q0 : ((c : Int) == 0) = true := beq_iff_eq.2 (by omega)
          clear hub hS hSb hrc hc0
          go_wp2
          go_ret3
          exact ⟨by rw [HE.out]; rfl, rfl⟩
        have q0 : ((c : Int) == 0) = false := beq_eq_false_iff_ne.2 (by omega)
        have HE : Hid (num bs = .inr (S, 4)) := Lib.hid (by
          rw [← HR.out, HDr.out, rd_last (by rw [HCx.out]; omega) (by rw [HCx.out]; omega) (by rw [HCx.out]; omega), HCx.out, ← HSm.out, hrc])
        clear hub hS hSb hrc hc0
        go_wp2_with fail
        refine (pack_unfolded S (Nat.lt_of_lt_of_le HSb.out (by omega)) w).mono ?_
        rintro e w1 ⟨rfl, rfl⟩
        rename World => w
        go_wp2_with fail
        go_ret3
        exact ⟨by rw [HE.out]; rfl, rfl⟩
      · have hub : u < 268435456 := HU.out
        obtain ⟨S, hS⟩ : ∃ S, u + r * 268435456 = S := ⟨_, rfl⟩
        have HSm := Lib.hid hS
        have HUb := Lib.hid hub
        have hSb : S < 34359738368 := by omega
        have HSb := Lib.hid hSb
        have hor : bits .or .u64 (u : Int) ((r : Int) * 268435456) = (S : Int) := by
          rw [u64_orv28 _ _ (by omega) (by omega) (by omega) (by omega) (by omega)]
          omega
        by_cases hm : 128 ≤ c
        · have HN : Hid (rd 5 S (bs.drop 5) = num bs) := Lib.hid (by
            have h := HR.out
            rw [HDr.out, rd_more (by omega) (by rw [HCx.out]; exact hm), HCx.out, HRc.out] at h
            rw [← HSm.out]
            exact h)
          have HPw : Hid (S < pw 5) := Lib.hid (by
            rw [show pw 5 = 34359738368 by decide]
            exact HSb.out)
          have a1 : (128 : Int) ≤ (c : Int) := by omega
          clear hub hS hSb
          go_wp2
          go_round
          case rel => exact ⟨5, S, rfl, rfl, by omega, by omega, HPw, HN⟩
          case measure => simp [intOf]; omega
        have hrc : r = c := by
          have := HRc.out
          omega
        have a2 : ¬ (128 : Int) ≤ (c : Int) := by omega
        by_cases hc0 : c = 0
        · have HE : Hid (num bs = .inl 4) := Lib.hid (by
            rw [← HR.out, HDr.out, rd_zero (by rw [HCx.out]; exact hc0) (by omega)])
          have q0 : ((c : Int) == 0) = true := beq_iff_eq.2 (by omega)
          clear hub hS hSb hrc hc0
          go_wp2
          go_ret3
          exact ⟨by rw [HE.out]; rfl, rfl⟩
        have q0 : ((c : Int) == 0) = false := beq_eq_false_iff_ne.2 (by omega)
        have HE : Hid (num bs = .inr (S, 5)) := Lib.hid (by
          rw [← HR.out, HDr.out, rd_last (by rw [HCx.out]; omega) (by rw [HCx.out]; omega) (by rw [HCx.out]; omega), HCx.out, ← HSm.out, hrc])
        clear hub hS hSb hrc hc0
        go_wp2_with fail
        refine (pack_unfolded S (Nat.lt_of_lt_of_le HSb.out (by omega)) w).mono ?_
        rintro e w1 ⟨rfl, rfl⟩
        rename World => w
        go_wp2_with fail
        go_ret3
        exact ⟨by rw [HE.out]; rfl, rfl⟩
      · have hub : u < 34359738368 := HU.out
        obtain ⟨S, hS⟩ : ∃ S, u + r * 34359738368 = S := ⟨_, rfl⟩
        have HSm := Lib.hid hS
        have HUb := Lib.hid hub
        have hSb : S < 4398046511104 := by omega
        have HSb := Lib.hid hSb
        have hor : bits .or .u64 (u : Int) ((r : Int) * 34359738368) = (S : Int) := by
          rw [u64_orv35 _ _ (by omega) (by omega) (by omega) (by omega) (by omega)]
          omega
        by_cases hm : 128 ≤ c
        · have HN : Hid (rd 6 S (bs.drop 6) = num bs) := Lib.hid (by
            have h := HR.out
            rw [HDr.out, rd_more (by omega) (by rw [HCx.out]; exact hm), HCx.out, HRc.out] at h
            rw [← HSm.out]
            exact h)
          have HPw : Hid (S < pw 6) := Lib.hid (by
            rw [show pw 6 = 4398046511104 by decide]
            exact HSb.out)
          have a1 : (128 : Int) ≤ (c : Int) := by omega
          clear hub hS hSb
          go_wp2
          go_round
          case rel => exact ⟨6, S, rfl, rfl, by omega, by omega, HPw, HN⟩
          case measure => simp [intOf]; omega
        have hrc : r = c := by
          have := HRc.out
          omega
        have a2 : ¬ (128 : Int) ≤ (c : Int) := by omega
        by_cases hc0 : c = 0
        · have HE : Hid (num bs = .inl 4) := Lib.hid (by
            rw [← HR.out, HDr.out, rd_zero (by rw [HCx.out]; exact hc0) (by omega)])
          have q0 : ((c : Int) == 0) = true := beq_iff_eq.2 (by omega)
          clear hub hS hSb hrc hc0
          go_wp2
          go_ret3
          exact ⟨by rw [HE.out]; rfl, rfl⟩
        have q0 : ((c : Int) == 0) = false := beq_eq_false_iff_ne.2 (by omega)
        have HE : Hid (num bs = .inr (S, 6)) := Lib.hid (by
          rw [← HR.out, HDr.out, rd_last (by rw [HCx.out]; omega) (by rw [HCx.out]; omega) (by rw [HCx.out]; omega), HCx.out, ← HSm.out, hrc])
        clear hub hS hSb hrc hc0
        go_wp2_with fail
        refine (pack_unfolded S (Nat.lt_of_lt_of_le HSb.out (by omega)) w).mono ?_
        rintro e w1 ⟨rfl, rfl⟩
        rename World => w
        go_wp2_with fail
        go_ret3
        exact ⟨by rw [HE.out]; rfl, rfl⟩
      · have hub : u < 4398046511104 := HU.out
        obtain ⟨S, hS⟩ : ∃ S, u + r * 4398046511104 = S := ⟨_, rfl⟩
        have HSm := Lib.hid hS
        have HUb := Lib.hid hub
        have hSb : S < 562949953421312 := by omega
        have HSb := Lib.hid hSb
        have hor : bits .or .u64 (u : Int) ((r : Int) * 4398046511104) = (S : Int) := by
          rw [u64_orv42 _ _ (by omega) (by omega) (by omega) (by omega) (by omega)]
          omega
        by_cases hm : 128 ≤ c
        · have HN : Hid (rd 7 S (bs.drop 7) = num bs) := Lib.hid (by
            have h := HR.out
            rw [HDr.out, rd_more (by omega) (by rw [HCx.out]; exact hm), HCx.out, HRc.out] at h
            rw [← HSm.out]
            exact h)
          have HPw : Hid (S < pw 7) := Lib.hid (by
            rw [show pw 7 = 562949953421312 by decide]
            exact HSb.out)
          have a1 : (128 : Int) ≤ (c : Int) := by omega
          clear hub hS hSb
          go_wp2
          go_round
          case rel => exact ⟨7, S, rfl, rfl, by omega, by omega, HPw, HN⟩
          case measure => simp [intOf]; omega
        have hrc : r = c := by
          have := HRc.out
          omega
        have a2 : ¬ (128 : Int) ≤ (c : Int) := by omega
        by_cases hc0 : c = 0
        · have HE : Hid (num bs = .inl 4) := Lib.hid (by
            rw [← HR.out, HDr.out, rd_zero (by rw [HCx.out]; exact hc0) (by omega)])
          have q0 : ((c : Int) == 0) = true := beq_iff_eq.2 (by omega)
          clear hub hS hSb hrc hc0
          go_wp2
          go_ret3
          exact ⟨by rw [HE.out]; rfl, rfl⟩
        have q0 : ((c : Int) == 0) = false := beq_eq_false_iff_ne.2 (by omega)
        have HE : Hid (num bs = .inr (S, 7)) := Lib.hid (by
          rw [← HR.out, HDr.out, rd_last (by rw [HCx.out]; omega) (by rw [HCx.out]; omega) (by rw [HCx.out]; omega), HCx.out, ← HSm.out, hrc])
        clear hub hS hSb hrc hc0
        go_wp2_with fail
        refine (pack_unfolded S (Nat.lt_of_lt_of_le HSb.out (by omega)) w).mono ?_
        rintro e w1 ⟨rfl, rfl⟩
        rename World => w
        go_wp2_with fail
        go_ret3
        exact ⟨by rw [HE.out]; rfl, rfl⟩
      · have hub : u < 562949953421312 := HU.out
        obtain ⟨S, hS⟩ : ∃ S, u + r * 562949953421312 = S := ⟨_, rfl⟩
        have HSm := Lib.hid hS
        have HUb := Lib.hid hub
        have hSb : S < 72057594037927936 := by omega
        have HSb := Lib.hid hSb
        have hor : bits .or .u64 (u : Int) ((r : Int) * 562949953421312) = (S : Int) := by
          rw [u64_orv49 _ _ (by omega) (by omega) (by omega) (by omega) (by omega)]
          omega
        by_cases hm : 128 ≤ c
        · have HN : Hid (rd 8 S (bs.drop 8) = num bs) := Lib.hid (by
            have h := HR.out
            rw [HDr.out, rd_more (by omega) (by rw [HCx.out]; exact hm), HCx.out, HRc.out] at h
            rw [← HSm.out]
            exact h)
          have HPw : Hid (S < pw 8) := Lib.hid (by
            rw [show pw 8 = 72057594037927936 by decide]
            exact HSb.out)
          have a1 : (128 : Int) ≤ (c : Int) := by omega
          clear hub hS hSb
          go_wp2
          go_round
          case rel => exact ⟨8, S, rfl, rfl, by omega, by omega, HPw, HN⟩
          case measure => simp [intOf]; omega
        have hrc : r = c := by
          have := HRc.out
          omega
        have a2 : ¬ (128 : Int) ≤ (c : Int) := by omega
        by_cases hc0 : c = 0
        · have HE : Hid (num bs = .inl 4) := Lib.hid (by
            rw [← HR.out, HDr.out, rd_zero (by rw [HCx.out]; exact hc0) (by omega)])
          have q0 : ((c : Int) == 0) = true := beq_iff_eq.2 (by omega)
          clear hub hS hSb hrc hc0
          go_wp2
          go_ret3
          exact ⟨by rw [HE.out]; rfl, rfl⟩
        have q0 : ((c : Int) == 0) = false := beq_eq_false_iff_ne.2 (by omega)
        have HE : Hid (num bs = .inr (S, 8)) := Lib.hid (by
          rw [← HR.out, HDr.out, rd_last (by rw [HCx.out]; omega) (by rw [HCx.out]; omega) (by rw [HCx.out]; omega), HCx.out, ← HSm.out, hrc])
        clear hub hS hSb hrc hc0
        go_wp2_with fail
        refine (pack_unfolded S (Nat.lt_of_lt_of_le HSb.out (by omega)) w).mono ?_
        rintro e w1 ⟨rfl, rfl⟩
        rename World => w
        go_wp2_with fail
        go_ret3
        exact ⟨by rw [HE.out]; rfl, rfl⟩
      · have hub : u < 72057594037927936 := HU.out
        obtain ⟨S, hS⟩ : ∃ S, u + r * 72057594037927936 = S := ⟨_, rfl⟩
        have HSm := Lib.hid hS
        have HUb := Lib.hid hub
        have hSb : S < 9223372036854775808 := by omega
        have HSb := Lib.hid hSb
        have hor : bits .or .u64 (u : Int) ((r : Int) * 72057594037927936) = (S : Int) := by
          rw [u64_orv56 _ _ (by omega) (by omega) (by omega) (by omega) (by omega)]
          omega
        by_cases hm : 128 ≤ c
        · have HN : Hid (rd 9 S (bs.drop 9) = num bs) := Lib.hid (by
            have h := HR.out
            rw [HDr.out, rd_more (by omega) (by rw [HCx.out]; exact hm), HCx.out, HRc.out] at h
            rw [← HSm.out]
            exact h)
          have HPw : Hid (S < pw 9) := Lib.hid (by
            rw [show pw 9 = 9223372036854775808 by decide]
            exact HSb.out)
          have a1 : (128 : Int) ≤ (c : Int) := by omega
          clear hub hS hSb
          go_wp2
          go_round
          case rel => exact ⟨9, S, rfl, rfl, by omega, by omega, HPw, HN⟩
          case measure => simp [intOf]; omega
        have hrc : r = c := by
          have := HRc.out
          omega
        have a2 : ¬ (128 : Int) ≤ (c : Int) := by omega
        by_cases hc0 : c = 0
        · have HE : Hid (num bs = .inl 4) := Lib.hid (by
            rw [← HR.out, HDr.out, rd_zero (by rw [HCx.out]; exact hc0) (by omega)])
          have q0 : ((c : Int) == 0) = true := beq_iff_eq.2 (by omega)
          clear hub hS hSb hrc hc0
          go_wp2
          go_ret3
          exact ⟨by rw [HE.out]; rfl, rfl⟩
        have q0 : ((c : Int) == 0) = false := beq_eq_false_iff_ne.2 (by omega)
        have HE : Hid (num bs = .inr (S, 9)) := Lib.hid (by
          rw [← HR.out, HDr.out, rd_last (by rw [HCx.out]; omega) (by rw [HCx.out]; omega) (by rw [HCx.out]; omega), HCx.out, ← HSm.out, hrc])
        clear hub hS hSb hrc hc0
        go_wp2_with fail
        refine (pack_unfolded S (Nat.lt_of_lt_of_le HSb.out (by omega)) w).mono ?_
        rintro e w1 ⟨rfl, rfl⟩
        rename World => w
        go_wp2_with fail
        go_ret3
        exact ⟨by rw [HE.out]; rfl, rfl⟩
      · have hub : u < 9223372036854775808 := HU.out
        obtain ⟨S, hS⟩ : ∃ S, u + r * 9223372036854775808 = S := ⟨_, rfl⟩
        have HSm := Lib.hid hS
        have HUb := Lib.hid hub
        by_cases ht : 1 < c
        · have HE : Hid (num bs = .inl 4) := Lib.hid (by
            rw [← HR.out, HDr.out, rd_ten rfl (by rw [HCx.out]; exact ht)])
          have a1 : (1 : Int) < (c : Int) := by omega
          clear hub hS
          go_wp2
          go_ret3
          exact ⟨by rw [HE.out]; rfl, rfl⟩
        have hrc : r = c := by
          have := HRc.out
          omega
        have hSb : S < 18446744073709551616 := by omega
        have hor : bits .or .u64 (u : Int) ((r : Int) * 9223372036854775808) = (S : Int) := by
          rw [u64_orv63 _ _ (by omega) (by omega) (by omega) (by omega) (by omega)]
          omega
        have HSb := Lib.hid hSb
        have hr1 : r ≤ 1 := by omega
        have a0 : ¬ (1 : Int) < (c : Int) := by omega
        have a2 : ¬ (128 : Int) ≤ (c : Int) := by omega
        by_cases hc0 : c = 0
        · have HE : Hid (num bs = .inl 4) := Lib.hid (by
            rw [← HR.out, HDr.out, rd_zero (by rw [HCx.out]; exact hc0) (by omega)])
          have q0 : ((c : Int) == 0) = true := beq_iff_eq.2 (by omega)
          clear hub hS hSb hrc hc0
          go_wp2
          go_ret3
          exact ⟨by rw [HE.out]; rfl, rfl⟩
        have q0 : ((c : Int) == 0) = false := beq_eq_false_iff_ne.2 (by omega)
        have HE : Hid (num bs = .inr (S, 10)) := Lib.hid (by
          rw [← HR.out, HDr.out, rd_last (by rw [HCx.out]; omega) (by rw [HCx.out]; omega) (by rw [HCx.out]; omega), HCx.out, ← HSm.out, hrc])
        clear hub hS hSb hrc hc0
        go_wp2_with fail
        refine (pack_unfolded S HSb.out w).mono ?_
        rintro e w1 ⟨rfl, rfl⟩
        rename World => w
        go_wp2_with fail
        go_ret3
        exact ⟨by rw [HE.out]; rfl, rfl⟩
    · obtain rfl : k = n := by omega
      have HE : Hid (num bs = .inl 3) := Lib.hid (by
        rw [← HR.out, List.drop_eq_nil_of_le (by rw [← HLen.out]; exact Nat.le_refl _), rd_nil])
      go_wp2
      go_ret3
      exact ⟨by rw [HE.out]; rfl, rfl⟩
end Go.Proofs.Ytndfhnaafaijcaa

/- CONTRACTS OF PACKAGE pack: a Reader: Num, refuse, Within. -/
namespace Go.Proofs.Ytndfhnaafaijcaa
open Go.RowKit
open Go.Sort (grow)
open Mem Pk

/-- of what was there nothing has turned but one block -/
structure Upd (w : World) (p : Nat) (w' : World) : Prop where
  size : w.heap.size ≤ w'.heap.size
  cell : ∀ b o, b < w.heap.size → b ≠ p → w'.cell? ⟨b, o, none⟩ = w.cell? ⟨b, o, none⟩
  frozen : ∀ b o, b < w.heap.size → w'.frozen? ⟨b, o, none⟩ = w.frozen? ⟨b, o, none⟩
  below : ∀ w0, Below w0.heap.size w0 w → w0.heap.size ≤ p → Below w0.heap.size w0 w'
  block : ∀ b, b < w.heap.size → b ≠ p → w'.heap[b]? = w.heap[b]?
theorem Upd.of {w w' : World} (p : Nat) (h : Below w.heap.size w w') : Upd w p w' :=
  ⟨h.size, fun b o hb _ => (bcell h).1 b o hb, fun b o hb => (bcell h).2 b o hb, fun _ k _ => bchain k h, fun b hb _ => h.block b hb⟩
theorem Upd.refl (w : World) (p : Nat) : Upd w p w := Upd.of p (Below.refl _ _)
theorem Upd.trans {w u v : World} {p : Nat} (h : Upd w p u) (k : Upd u p v) : Upd w p v :=
  ⟨Nat.le_trans h.size k.size, fun b o hb hp => by rw [k.cell b o (Nat.lt_of_lt_of_le hb h.size) hp, h.cell b o hb hp], fun b o hb => by rw [k.frozen b o (Nat.lt_of_lt_of_le hb h.size), h.frozen b o hb], fun w0 a c => k.below w0 (h.below w0 a c) c, fun b hb hp => by rw [k.block b (Nat.lt_of_lt_of_le hb h.size) hp, h.block b hb hp]⟩
theorem Upd.set {w : World} {p o : Nat} (x : Value) : Upd w p (w.setCell ⟨p, o, none⟩ x) := by
  refine ⟨by simp, fun b q _ _ => by simp [go_sem], fun b q _ => by simp [go_sem], fun w0 h hp => h.setCell (p := ⟨p, o, none⟩) hp x, fun b _ hp => Below.heap_setCell w ⟨p, o, none⟩ x b hp⟩
/-- .. and what is new may turn -/
theorem Upd.fresh {w u : World} {p q o : Nat} (h : Upd w p u) (hq : w.heap.size ≤ q) (x : Value) : Upd w p (u.setCell ⟨q, o, none⟩ x) := by
  refine ⟨by simpa using h.size, fun b r hb hp => ?_, fun b r hb => ?_, fun w0 a c => (h.below w0 a c).setCell (p := ⟨q, o, none⟩) (Nat.le_trans a.size hq) x, fun b hb hp => ?_⟩
  · rw [← h.cell b r hb hp]
    simp [go_sem]
  · rw [← h.frozen b r hb]
    simp [go_sem]
  · rw [Below.heap_setCell u ⟨q, o, none⟩ x b (by show b ≠ q; omega), h.block b hb hp]
theorem By.Ls.upd {w w' : World} {p : Nat} {ao : Option Addr} {n cap : Nat} {bs : List UInt8} (h : By.Ls w ao n cap bs) (k : Upd w p w') (hp : ∀ b off, ao = some ⟨b, off, none⟩ → b ≠ p) : By.Ls w' ao n cap bs := by
  refine ⟨h.len, h.fits, h.reach, h.nil, ?_⟩
  rcases h.seg with e | ⟨b, off, e, hc⟩
  · exact .inl e
  · exact .inr ⟨b, off, e, fun i hi => by rw [k.cell _ _ (cell_lt (hc i hi)) (hp b off e)]; exact hc i hi⟩
/-- where a reader stands, and what is wrong -/
structure St where
  at' : Nat
  err : Int
/-- a reader's block and its bytes -/
structure Rd (w : World) (p : Nat) (ao : Option Addr) (n cap : Nat) (bs : List UInt8) (s : St) : Prop where
  c0 : w.cell? ⟨p, 0, none⟩ = some (.slice ao n cap)
  c1 : w.cell? ⟨p, 1, none⟩ = some (.int .i64 (s.at' : Int))
  c2 : w.cell? ⟨p, 2, none⟩ = some (.int .i64 s.err)
  fz : ∀ o, w.frozen? ⟨p, o, none⟩ = false
  ls : By.Ls w ao n cap bs
  apart : ∀ b off, ao = some ⟨b, off, none⟩ → b ≠ p
  place : s.at' ≤ n
theorem Rd.below {w w' : World} {p : Nat} {ao : Option Addr} {n cap : Nat} {bs : List UInt8} {s : St} (h : Rd w p ao n cap bs s) (k : Below w.heap.size w w') : Rd w' p ao n cap bs s := by
  have hl := cell_lt h.c0
  exact ⟨by rw [(bcell k).1 _ _ hl]; exact h.c0, by rw [(bcell k).1 _ _ hl]; exact h.c1, by rw [(bcell k).1 _ _ hl]; exact h.c2, fun o => by rw [(bcell k).2 _ _ hl]; exact h.fz o, h.ls.below k, h.apart, h.place⟩
theorem Rd.at {w : World} {p : Nat} {ao : Option Addr} {n cap : Nat} {bs : List UInt8} {s : St} (h : Rd w p ao n cap bs s) (a : Nat) (ha : a ≤ n) : Rd (w.setCell ⟨p, 1, none⟩ (.int .i64 (a : Int))) p ao n cap bs ⟨a, s.err⟩ :=
  ⟨by simp [go_sem, h.c0], by simp [go_sem, h.c1], by simp [go_sem, h.c2], fun o => by simp [go_sem, h.fz], h.ls.upd (Upd.set _) h.apart, h.apart, ha⟩
theorem Rd.wrong {w : World} {p : Nat} {ao : Option Addr} {n cap : Nat} {bs : List UInt8} {s : St} (h : Rd w p ao n cap bs s) (e : Int) : Rd (w.setCell ⟨p, 2, none⟩ (.int .i64 e)) p ao n cap bs ⟨s.at', e⟩ :=
  ⟨by simp [go_sem, h.c0], by simp [go_sem, h.c1], by simp [go_sem, h.c2], fun o => by simp [go_sem, h.fz], h.ls.upd (Upd.set _) h.apart, h.apart, h.place⟩
/-- reading a number -/
def rNum (bs : List UInt8) (s : St) : Int × St := if s.err ≠ 0 then (0, s) else match num (bs.drop s.at') with
  | .inl e => (0, ⟨s.at', e⟩)
  | .inr q => (uz q.1, ⟨s.at' + q.2, 0⟩)
theorem rNum_wrong {bs : List UInt8} {s : St} (h : s.err ≠ 0) : rNum bs s = (0, s) := by unfold rNum; rw [if_pos h]
theorem rNum_bad {bs : List UInt8} {s : St} {e : Int} (h : s.err = 0) (k : num (bs.drop s.at') = .inl e) : rNum bs s = (0, ⟨s.at', e⟩) := by unfold rNum; rw [if_neg (by simp [h]), k]
theorem rNum_ok {bs : List UInt8} {s : St} {u z : Nat} (h : s.err = 0) (k : num (bs.drop s.at') = .inr (u, z)) : rNum bs s = (uz u, ⟨s.at' + z, 0⟩) := by unfold rNum; rw [if_neg (by simp [h]), k]
def Ans (f : FuncId) (args : Array Value) (u : World) (i : Nat) (os : Array Obj) (v : Value) : Prop :=
  Calls Try.prog f args (grow (redrawn u i) os) fun e w'' => e = .returned v ∧ ∃ p : Regrown, w'' = grow (redrawn u p.d) p.os
/-- what number answers, as a value -/
def numV : Int ⊕ (Nat × Nat) → Value
  | .inl e => .tuple #[.int .i64 0, .int .i64 0, .int .i64 e]
  | .inr p => .tuple #[.int .i64 (uz p.1), .int .i64 (p.2 : Int), .int .i64 0]
theorem number_agg {w : World} {ao : Option Addr} {n cap : Nat} {bs : List UInt8} (h : By.Ls w ao n cap bs) (i : Nat) (os : Array Obj) : Ans 53 #[.slice ao n cap] w i os (numV (num bs)) :=
  Calls.regrown_of ((pack_number bs ao n cap _ (h.below (below_regrown w i os))).mono fun e w' ⟨he, hw⟩ => ⟨by rw [he]; cases num bs <;> rfl, by rw [hw]; exact Below.refl _ _⟩)
/-- a number takes no more bytes than there are -/
theorem num_fit {l : List UInt8} {u z : Nat} (h : num l = .inr (u, z)) : z ≤ l.length := by
  obtain ⟨e, h2, _, _⟩ := num_is h
  have := congrArg List.length e
  rw [List.length_append, List.length_drop] at this
  unfold wd at h2
  omega
set_option maxHeartbeats 2000000 in
theorem rd_num (p : Nat) (ao : Option Addr) (n cap : Nat) (bs : List UInt8) (s : St) (w : World) (hR : Rd w p ao n cap bs s) :
    Calls Try.prog 34 #[.pointer (some ⟨p, 0, none⟩)] w fun e w' => e = .returned (.int .i64 (rNum bs s).1) ∧ Rd w' p ao n cap bs (rNum bs s).2 ∧ Upd w p w' := by
  have HR := Lib.hid hR
  obtain ⟨a, er⟩ := s
  obtain ⟨c0, c1, c2, fz, hls, hap, hpl⟩ := hR
  dsimp only at c1 c2 hpl
  have hcap := hls.reach
  have hfit := hls.fits
  have hlen := hls.len
  by_cases he : er = 0
  · subst he
    obtain ⟨ao2, cap2, hsl, hL2, _⟩ := hls.from a hpl
    have k0 := cell_regrown c0
    have k1 := cell_regrown c1
    have kn := number_agg hL2
    cases hn : num (bs.drop a) with
    | inl e =>
      rw [hn] at kn
      unfold numV at kn
      have HN := Lib.hid (rNum_bad (bs := bs) (s := ⟨a, 0⟩) rfl hn)
      clear hn hls hap fz hL2 hlen
      go_enter Try.func34, Try.ntmps34
      go_wp2
      refine wp_region_quiet_below (by kernel_rfl) (by kernel_rfl) ?_
      repeat (first | go_big_quiet_step (first | (go_at_call 53; exact kn _ _)) | quiet_step (first | (go_at_call 53; exact kn _ _)))
      refine wpQuiet_nil ?_
      intro _ hw'
      obtain ⟨⟨dq, osq⟩, hw''⟩ := hw'
      subst hw''
      have bq := below_regrown w dq osq
      have HRq := Lib.hid (HR.out.below bq)
      have HUq := Lib.hid (Upd.of p bq)
      clear k0 k1 kn c0 c1 c2 bq hsl
      generalize grow (redrawn w dq) osq = x at *
      have d1 := HRq.out.c1
      have d2 := HRq.out.c2
      have df := HRq.out.fz
      dsimp only at d1 d2
      go_wp2
      go_ret
      refine ⟨by rw [HN.out]; rfl, ?_, ?_⟩
      · rw [HN.out]
        exact (HRq.out.at a hpl).wrong e
      · exact (HUq.out.trans (Upd.set _)).trans (Upd.set _)
    | inr q =>
      obtain ⟨u, z⟩ := q
      rw [hn] at kn
      unfold numV at kn
      have hz : a + z ≤ n := by
        have := num_fit hn
        rw [List.length_drop] at this
        omega
      have HN := Lib.hid (rNum_ok (bs := bs) (s := ⟨a, 0⟩) rfl hn)
      clear hn hls hap fz hL2 hlen
      go_enter Try.func34, Try.ntmps34
      go_wp2
      refine wp_region_quiet_below (by kernel_rfl) (by kernel_rfl) ?_
      repeat (first | go_big_quiet_step (first | (go_at_call 53; exact kn _ _)) | quiet_step (first | (go_at_call 53; exact kn _ _)))
      refine wpQuiet_nil ?_
      intro _ hw'
      obtain ⟨⟨dq, osq⟩, hw''⟩ := hw'
      subst hw''
      have bq := below_regrown w dq osq
      have HRq := Lib.hid (HR.out.below bq)
      have HUq := Lib.hid (Upd.of p bq)
      clear k0 k1 kn c0 c1 c2 bq hsl
      generalize grow (redrawn w dq) osq = x at *
      have d1 := HRq.out.c1
      have d2 := HRq.out.c2
      have df := HRq.out.fz
      dsimp only at d1 d2
      go_wp2
      go_ret
      refine ⟨by rw [HN.out]; rfl, ?_, ?_⟩
      · rw [HN.out]
        have := (HRq.out.at (a + z) hz).wrong 0
        simpa using this
      · exact (HUq.out.trans (Upd.set _)).trans (Upd.set _)
  · have HN := Lib.hid (rNum_wrong (bs := bs) (s := ⟨a, er⟩) he)
    have hne : (er != 0) = true := bne_iff_ne.2 he
    clear hls hap fz
    go_enter Try.func34, Try.ntmps34
    go_wp2
    go_ret
    exact ⟨by rw [HN.out]; rfl, by rw [HN.out]; exact HR.out, Upd.refl _ _⟩
end Go.Proofs.Ytndfhnaafaijcaa

/- CONTRACTS OF PACKAGE pack: a Reader: refuse, Within, Count, Text, Err, End, Read. -/
namespace Go.Proofs.Ytndfhnaafaijcaa
open Go.RowKit
open Go.Sort (grow)
open Mem Pk

theorem rd_refuse (p : Nat) (ao : Option Addr) (n cap : Nat) (bs : List UInt8) (s : St) (a : Nat) (e : Int) (w : World) (hR : Rd w p ao n cap bs s) (ha : a ≤ n) :
    Calls Try.prog 65 #[.pointer (some ⟨p, 0, none⟩), .int .i64 (a : Int), .int .i64 e] w fun r w' => r = .returned (.tuple #[]) ∧ Rd w' p ao n cap bs ⟨a, e⟩ ∧ Upd w p w' := by
  have HR := Lib.hid hR
  obtain ⟨c0, c1, c2, fz, _, _, _⟩ := hR
  go_enter Try.func65, Try.ntmps65
  go_wp2
  go_end0
  exact ⟨rfl, (HR.out.at a ha).wrong e, (Upd.set _).trans (Upd.set _)⟩
/-- reading a number in bounds -/
def rWithin (bs : List UInt8) (lo hi : Int) (s : St) : Int × St := if (rNum bs s).2.err ≠ 0 then (0, (rNum bs s).2) else if (rNum bs s).1 < lo ∨ hi < (rNum bs s).1 then (0, ⟨s.at', 2⟩) else rNum bs s
theorem rWithin_wrong {bs : List UInt8} {lo hi : Int} {s : St} (h : (rNum bs s).2.err ≠ 0) : rWithin bs lo hi s = (0, (rNum bs s).2) := by unfold rWithin; rw [if_pos h]
theorem rWithin_long {bs : List UInt8} {lo hi : Int} {s : St} (h : (rNum bs s).2.err = 0) (k : (rNum bs s).1 < lo ∨ hi < (rNum bs s).1) : rWithin bs lo hi s = (0, ⟨s.at', 2⟩) := by unfold rWithin; rw [if_neg (by simp [h]), if_pos k]
theorem rWithin_ok {bs : List UInt8} {lo hi : Int} {s : St} (h : (rNum bs s).2.err = 0) (k : ¬ ((rNum bs s).1 < lo ∨ hi < (rNum bs s).1)) : rWithin bs lo hi s = rNum bs s := by unfold rWithin; rw [if_neg (by simp [h]), if_neg k]
set_option maxHeartbeats 2000000 in
theorem rd_within (p : Nat) (ao : Option Addr) (n cap : Nat) (bs : List UInt8) (lo hi : Int) (s : St) (w : World) (hR : Rd w p ao n cap bs s) :
    Calls Try.prog 64 #[.pointer (some ⟨p, 0, none⟩), .int .i64 lo, .int .i64 hi] w fun e w' => e = .returned (.int .i64 (rWithin bs lo hi s).1) ∧ Rd w' p ao n cap bs (rWithin bs lo hi s).2 ∧ Upd w p w' := by
  have HR := Lib.hid hR
  have hpl := hR.place
  have c1 := hR.c1
  clear hR
  go_enter Try.func64, Try.ntmps64
  go_wp2_with fail
  refine (rd_num p ao n cap bs s w HR.out).mono ?_
  rintro e w1 ⟨rfl, hR1, hU1⟩
  have HR1 := Lib.hid hR1
  have HU1 := Lib.hid hU1
  have d2 := hR1.c2
  clear hR1 hU1 c1
  obtain ⟨v, s1, hv⟩ : ∃ v s1, rNum bs s = (v, s1) := ⟨_, _, rfl⟩
  have HV := Lib.hid hv
  rw [hv] at HR1 d2
  rw [hv]
  dsimp only at d2 HR1 ⊢
  clear hv
  by_cases he : s1.err = 0
  · rw [he] at d2
    by_cases hb : v < lo ∨ hi < v
    · have HN : Hid (rWithin bs lo hi s = (0, ⟨s.at', 2⟩)) := Lib.hid (rWithin_long (by rw [HV.out]; exact he) (by rw [HV.out]; exact hb))
      rcases hb with hb | hb
      · go_wp2_with fail
        refine (rd_refuse p ao n cap bs s1 s.at' 2 w1 HR1.out hpl).mono ?_
        rintro e w2 ⟨rfl, hR2, hU2⟩
        have HR2 := Lib.hid hR2
        have HU2 := Lib.hid (HU1.out.trans hU2)
        clear hR2 hU2
        go_wp2_with fail
        go_ret
        exact ⟨by rw [HN.out]; rfl, by rw [HN.out]; exact HR2.out, HU2.out⟩
      · by_cases hlo : v < lo
        · go_wp2_with fail
          refine (rd_refuse p ao n cap bs s1 s.at' 2 w1 HR1.out hpl).mono ?_
          rintro e w2 ⟨rfl, hR2, hU2⟩
          have HR2 := Lib.hid hR2
          have HU2 := Lib.hid (HU1.out.trans hU2)
          clear hR2 hU2
          go_wp2_with fail
          go_ret
          exact ⟨by rw [HN.out]; rfl, by rw [HN.out]; exact HR2.out, HU2.out⟩
        · go_wp2_with fail
          refine (rd_refuse p ao n cap bs s1 s.at' 2 w1 HR1.out hpl).mono ?_
          rintro e w2 ⟨rfl, hR2, hU2⟩
          have HR2 := Lib.hid hR2
          have HU2 := Lib.hid (HU1.out.trans hU2)
          clear hR2 hU2
          go_wp2_with fail
          go_ret
          exact ⟨by rw [HN.out]; rfl, by rw [HN.out]; exact HR2.out, HU2.out⟩
    · have HN : Hid (rWithin bs lo hi s = (v, s1)) := Lib.hid (by rw [rWithin_ok (by rw [HV.out]; exact he) (by rw [HV.out]; exact hb), HV.out])
      have hb1 : ¬ v < lo := fun h => hb (.inl h)
      have hb2 : ¬ hi < v := fun h => hb (.inr h)
      clear hb
      go_wp2_with fail
      go_ret
      exact ⟨by rw [HN.out]; rfl, by rw [HN.out]; exact HR1.out, HU1.out⟩
  · have HN : Hid (rWithin bs lo hi s = (0, s1)) := Lib.hid (by rw [rWithin_wrong (by rw [HV.out]; exact he), HV.out])
    have hne : (s1.err != 0) = true := bne_iff_ne.2 he
    go_wp2_with fail
    go_ret
    exact ⟨by rw [HN.out]; rfl, by rw [HN.out]; exact HR1.out, HU1.out⟩
end Go.Proofs.Ytndfhnaafaijcaa

/- CONTRACTS OF PACKAGE pack: a Reader: Count, Text, Err, End, Read. -/
namespace Go.Proofs.Ytndfhnaafaijcaa
open Go.RowKit
open Go.Sort (grow)
open Mem Pk

/-- reading how many things are to come -/
def rCount (bs : List UInt8) (most : Int) (s : St) : Int × St := if (bs.length : Int) - ((rWithin bs 0 most s).2.at' : Int) < (rWithin bs 0 most s).1 then (0, ⟨s.at', 3⟩) else rWithin bs 0 most s
theorem rCount_short {bs : List UInt8} {most : Int} {s : St} (h : (bs.length : Int) - ((rWithin bs 0 most s).2.at' : Int) < (rWithin bs 0 most s).1) : rCount bs most s = (0, ⟨s.at', 3⟩) := by unfold rCount; rw [if_pos h]
theorem rCount_ok {bs : List UInt8} {most : Int} {s : St} (h : ¬ (bs.length : Int) - ((rWithin bs 0 most s).2.at' : Int) < (rWithin bs 0 most s).1) : rCount bs most s = rWithin bs 0 most s := by unfold rCount; rw [if_neg h]
theorem rNum_fit (bs : List UInt8) (s : St) : Fit (rNum bs s).1 := by
  have f0 : Fit 0 := ⟨by omega, by omega⟩
  unfold rNum
  split
  · exact f0
  · cases h : num (bs.drop s.at') with
    | inl e => exact f0
    | inr q =>
      obtain ⟨u, z⟩ := q
      exact uz_fit (num_is h).2.2.1
theorem rWithin_fit (bs : List UInt8) (lo hi : Int) (s : St) : Fit (rWithin bs lo hi s).1 := by
  have f0 : Fit 0 := ⟨by omega, by omega⟩
  unfold rWithin
  split
  · exact f0
  · split
    · exact f0
    · exact rNum_fit bs s
theorem rWithin_pos (bs : List UInt8) (hi : Int) (s : St) : 0 ≤ (rWithin bs 0 hi s).1 := by
  unfold rWithin
  split
  · exact Int.le_refl _
  · split
    · exact Int.le_refl _
    · omega
set_option maxHeartbeats 2000000 in
theorem rd_count (p : Nat) (ao : Option Addr) (n cap : Nat) (bs : List UInt8) (most : Int) (s : St) (w : World) (hR : Rd w p ao n cap bs s) :
    Calls Try.prog 63 #[.pointer (some ⟨p, 0, none⟩), .int .i64 most] w fun e w' => e = .returned (.int .i64 (rCount bs most s).1) ∧ Rd w' p ao n cap bs (rCount bs most s).2 ∧ Upd w p w' := by
  have HR := Lib.hid hR
  have hpl := hR.place
  have c1 := hR.c1
  have hcap := hR.ls.reach
  have hfit := hR.ls.fits
  have HLen := Lib.hid hR.ls.len
  clear hR
  go_enter Try.func63, Try.ntmps63
  go_wp2_with fail
  refine (rd_within p ao n cap bs 0 most s w HR.out).mono ?_
  rintro e w1 ⟨rfl, hR1, hU1⟩
  have hvf := rWithin_fit bs 0 most s
  obtain ⟨v, s1, hv⟩ : ∃ v s1, rWithin bs 0 most s = (v, s1) := ⟨_, _, rfl⟩
  have HV := Lib.hid hv
  rw [hv] at hR1 hvf
  rw [hv]
  dsimp only at hvf hR1 ⊢
  unfold Fit at hvf
  have hpl1 := hR1.place
  have k0 := cell_regrown hR1.c0
  have k1 := cell_regrown hR1.c1
  have HR1 := Lib.hid hR1
  have HU1 := Lib.hid hU1
  clear hR1 hU1 c1 hv
  obtain ⟨a1, e1⟩ := s1
  dsimp only at k1 hpl1
  by_cases hb : (n : Int) - (a1 : Int) < v
  · have HN : Hid (rCount bs most s = (0, ⟨s.at', 3⟩)) := Lib.hid (rCount_short (by rw [HV.out, ← HLen.out]; exact hb))
    go_wp2
    refine wp_region_quiet_below (by kernel_rfl) (by kernel_rfl) ?_
    repeat (first | go_big_quiet_step (fail) | quiet_step (fail))
    refine wpQuiet_nil ?_
    intro _ hw'
    obtain ⟨⟨dq, osq⟩, hw''⟩ := hw'
    subst hw''
    have bq := below_regrown w1 dq osq
    have HRq := Lib.hid (HR1.out.below bq)
    have HUq := Lib.hid (HU1.out.trans (Upd.of p bq))
    clear k0 k1 bq
    generalize grow (redrawn w1 dq) osq = x at *
    go_wp2_with fail
    refine (rd_refuse p ao n cap bs ⟨a1, e1⟩ s.at' 3 x HRq.out hpl).mono ?_
    rintro e w2 ⟨rfl, hR2, hU2⟩
    have HR2 := Lib.hid hR2
    have HU2 := Lib.hid (HUq.out.trans hU2)
    clear hR2 hU2
    go_wp2_with fail
    go_ret
    exact ⟨by rw [HN.out]; rfl, by rw [HN.out]; exact HR2.out, HU2.out⟩
  · have HN : Hid (rCount bs most s = (v, ⟨a1, e1⟩)) := Lib.hid (by rw [rCount_ok (by rw [HV.out, ← HLen.out]; exact hb), HV.out])
    go_wp2
    refine wp_region_quiet_below (by kernel_rfl) (by kernel_rfl) ?_
    repeat (first | go_big_quiet_step (fail) | quiet_step (fail))
    refine wpQuiet_nil ?_
    intro _ hw'
    obtain ⟨⟨dq, osq⟩, hw''⟩ := hw'
    subst hw''
    have bq := below_regrown w1 dq osq
    have HRq := Lib.hid (HR1.out.below bq)
    have HUq := Lib.hid (HU1.out.trans (Upd.of p bq))
    clear k0 k1 bq
    generalize grow (redrawn w1 dq) osq = x at *
    go_wp2_with fail
    go_ret
    exact ⟨by rw [HN.out]; rfl, by rw [HN.out]; exact HRq.out, HUq.out⟩
theorem rd_err (p : Nat) (ao : Option Addr) (n cap : Nat) (bs : List UInt8) (s : St) (w : World) (hR : Rd w p ao n cap bs s) :
    Calls Try.prog 35 #[.pointer (some ⟨p, 0, none⟩)] w fun e w' => e = .returned (.int .i64 s.err) ∧ w' = w := by
  have c2 := hR.c2
  clear hR
  go_enter Try.func35, Try.ntmps35
  go_wp2
  go_ret
  exact ⟨rfl, rfl⟩
end Go.Proofs.Ytndfhnaafaijcaa

/- CONTRACTS OF PACKAGE pack: a Reader: Text, End, Read. -/
namespace Go.Proofs.Ytndfhnaafaijcaa
open Go.RowKit
open Go.Sort (grow)
open Mem Pk

/-- bytes as a text -/
def str (bs : List UInt8) : ByteArray := ⟨bs.toArray⟩
theorem strOf (bs : List UInt8) : strOfNums (bs.map fun b => (b.toNat : Int)) = str bs := by
  unfold strOfNums str
  rw [List.map_map]
  have h : bs.map ((fun n : Int => UInt8.ofNat n.toNat) ∘ fun b => (b.toNat : Int)) = bs := by
    conv => rhs; rw [← List.map_id bs]
    apply List.map_congr_left
    intro b _
    simp
  rw [h]
theorem By.Ls.str {w : World} {ao : Option Addr} {n cap : Nat} {bs : List UInt8} (h : By.Ls w ao n cap bs) : (convert 38 9 (.slice ao n cap)).run Try.prog w = .ok (.string (str bs)) w := by
  have hn := h.len
  have empty : bs = [] → n = 0 := fun e => by rw [hn, e]; rfl
  rcases h.seg with e | ⟨b, off, rfl, hc⟩
  · subst e
    obtain rfl := empty rfl
    cases ao with
    | none =>
      rw [run_convert_bytes_nil w 38 5 Try.underlying38 Try.underlying5 0 cap 9 Try.underlying9]
      rfl
    | some a =>
      obtain ⟨b, off, sp⟩ := a
      have hl : (loadCells ⟨b, off, sp⟩ 0).run Try.prog w = .ok #[] w := by simpa using run_loadCells_list (P := Try.prog) w ⟨b, off, sp⟩ [] (by simp)
      rw [run_convert_bytes_string w 38 9 5 _ 0 cap Try.underlying38 Try.underlying5 Try.underlying9, run_bytesToString w _ 0 cap [] (by simpa using hl)]
      rfl
  · have hr := run_convert_bytes_arg (P := Try.prog) w 38 5 Try.underlying38 Try.underlying5 b off n cap (bs.map fun b => (b.toNat : Int)) (by simpa using hn.symm) (fun i hi => by
      rw [hc i (by omega)]
      unfold By.bv
      simp [List.getD, List.getElem?_eq_getElem (show i < bs.length by omega)]) 9 Try.underlying9
    rw [hr, strOf]
/-- reading a text -/
def rText (bs : List UInt8) (most : Int) (s : St) : ByteArray × St := (str ((bs.take ((rCount bs most s).2.at' + (rCount bs most s).1.toNat)).drop (rCount bs most s).2.at'), ⟨(rCount bs most s).2.at' + (rCount bs most s).1.toNat, (rCount bs most s).2.err⟩)
theorem rCount_pos (bs : List UInt8) (hi : Int) (s : St) : 0 ≤ (rCount bs hi s).1 := by
  unfold rCount
  split
  · exact Int.le_refl _
  · exact rWithin_pos bs hi s
theorem rCount_in {bs : List UInt8} {most : Int} {s : St} (h : s.at' ≤ bs.length) : (rCount bs most s).2.at' + (rCount bs most s).1.toNat ≤ bs.length := by
  have hp := rWithin_pos bs most s
  unfold rCount
  split
  · show s.at' + 0 ≤ bs.length
    omega
  · omega
set_option maxHeartbeats 2000000 in
theorem rd_text (p : Nat) (ao : Option Addr) (n cap : Nat) (bs : List UInt8) (most : Int) (s : St) (w : World) (hR : Rd w p ao n cap bs s) :
    Calls Try.prog 62 #[.pointer (some ⟨p, 0, none⟩), .int .i64 most] w fun e w' => e = .returned (.string (rText bs most s).1) ∧ Rd w' p ao n cap bs (rText bs most s).2 ∧ Upd w p w' := by
  have HR := Lib.hid hR
  have hcap := hR.ls.reach
  have hfit := hR.ls.fits
  have HLen := Lib.hid hR.ls.len
  have hin := rCount_in (bs := bs) (most := most) (s := s) (by rw [← hR.ls.len]; exact hR.place)
  have hpos := rCount_pos bs most s
  clear hR
  go_enter Try.func62, Try.ntmps62
  go_wp2_with fail
  refine (rd_count p ao n cap bs most s w HR.out).mono ?_
  rintro e w1 ⟨rfl, hR1, hU1⟩
  obtain ⟨v, s1, hv⟩ : ∃ v s1, rCount bs most s = (v, s1) := ⟨_, _, rfl⟩
  have HT : Hid (rText bs most s = (str ((bs.take (s1.at' + v.toNat)).drop s1.at'), ⟨s1.at' + v.toNat, s1.err⟩)) := Lib.hid (by unfold rText; rw [hv])
  rw [hv] at hR1 hin hpos
  rw [hv]
  dsimp only at hR1 hin hpos ⊢
  obtain ⟨q, rfl⟩ : ∃ q : Nat, v = q := ⟨v.toNat, by omega⟩
  rw [Int.toNat_natCast] at HT hin
  obtain ⟨a1, e1⟩ := s1
  dsimp only at hin HT
  rw [← HLen.out] at hin
  obtain ⟨ao2, cap2, hsl, hL2⟩ := hR1.ls.mid a1 (a1 + q) (by omega) hin
  rw [show ((a1 + q : Nat) : Int) = (a1 : Int) + (q : Int) from by omega, show a1 + q - a1 = q by omega] at hsl
  rw [show a1 + q - a1 = q by omega] at hL2
  have hstr : ∀ (d : Nat) (os : Array Obj), (convert 38 9 (.slice ao2 q cap2)).run Try.prog (grow (redrawn w1 d) os) = .ok (.string (str ((bs.take (a1 + q)).drop a1))) (grow (redrawn w1 d) os) := fun d os => (hL2.below (below_regrown w1 d os)).str
  have k0 := cell_regrown hR1.c0
  have k1 := cell_regrown hR1.c1
  dsimp only at k1
  have HR1 := Lib.hid hR1
  have HU1 := Lib.hid hU1
  obtain ⟨S, hS⟩ : ∃ S, str ((bs.take (a1 + q)).drop a1) = S := ⟨_, rfl⟩
  rw [hS] at hstr HT
  clear hR1 hU1 hv hL2 hpos hS
  go_wp2
  refine wp_region_quiet_below (by kernel_rfl) (by kernel_rfl) ?_
  repeat (first | go_big_quiet_step (fail) | quiet_step (fail))
  refine wpQuiet_nil ?_
  intro _ hw'
  obtain ⟨⟨dq, osq⟩, hw''⟩ := hw'
  subst hw''
  have bq := below_regrown w1 dq osq
  have HRq := Lib.hid (HR1.out.below bq)
  have HUq := Lib.hid (HU1.out.trans (Upd.of p bq))
  clear k0 k1 bq hstr hsl
  generalize grow (redrawn w1 dq) osq = x at *
  have d1 := HRq.out.c1
  have df := HRq.out.fz
  dsimp only at d1
  go_wp2
  go_ret
  refine ⟨by rw [HT.out]; rfl, ?_, HUq.out.trans (Upd.set _)⟩
  rw [HT.out]
  have := HRq.out.at (a1 + q) hin
  simpa using this
/-- the end -/
def rEnd (bs : List UInt8) (s : St) : Int × St := if s.err = 0 ∧ s.at' < bs.length then (5, ⟨s.at', 5⟩) else (s.err, s)
theorem rEnd_tail {bs : List UInt8} {s : St} (h : s.err = 0 ∧ s.at' < bs.length) : rEnd bs s = (5, ⟨s.at', 5⟩) := by unfold rEnd; rw [if_pos h]
theorem rEnd_else {bs : List UInt8} {s : St} (h : ¬ (s.err = 0 ∧ s.at' < bs.length)) : rEnd bs s = (s.err, s) := by unfold rEnd; rw [if_neg h]
set_option maxHeartbeats 2000000 in
theorem rd_end (p : Nat) (ao : Option Addr) (n cap : Nat) (bs : List UInt8) (s : St) (w : World) (hR : Rd w p ao n cap bs s) :
    Calls Try.prog 37 #[.pointer (some ⟨p, 0, none⟩)] w fun e w' => e = .returned (.int .i64 (rEnd bs s).1) ∧ Rd w' p ao n cap bs (rEnd bs s).2 ∧ Upd w p w' := by
  have HR := Lib.hid hR
  have hcap := hR.ls.reach
  have hfit := hR.ls.fits
  have HLen := Lib.hid hR.ls.len
  have hpl := hR.place
  have k0 := cell_regrown hR.c0
  have k1 := cell_regrown hR.c1
  have k2 := cell_regrown hR.c2
  obtain ⟨a, er⟩ := s
  dsimp only at k1 k2 hpl
  clear hR
  by_cases he : er = 0
  · subst he
    by_cases hlt : a < n
    · have HN : Hid (rEnd bs ⟨a, 0⟩ = (5, ⟨a, 5⟩)) := Lib.hid (rEnd_tail ⟨rfl, by rw [← HLen.out]; exact hlt⟩)
      go_enter Try.func37, Try.ntmps37
      go_wp2
      refine wp_region_quiet_below (by kernel_rfl) (by kernel_rfl) ?_
      repeat (first | go_big_quiet_step (fail) | quiet_step (fail))
      refine wpQuiet_nil ?_
      intro _ hw'
      obtain ⟨⟨dq, osq⟩, hw''⟩ := hw'
      subst hw''
      have bq := below_regrown w dq osq
      have HRq := Lib.hid (HR.out.below bq)
      have HUq := Lib.hid (Upd.of p bq)
      clear k0 k1 k2 bq
      generalize grow (redrawn w dq) osq = x at *
      have d2 := HRq.out.c2
      have df := HRq.out.fz
      dsimp only at d2
      go_wp2
      go_ret
      refine ⟨by rw [HN.out]; rfl, ?_, HUq.out.trans (Upd.set _)⟩
      rw [HN.out]
      exact HRq.out.wrong 5
    · have HN : Hid (rEnd bs ⟨a, 0⟩ = (0, ⟨a, 0⟩)) := Lib.hid (rEnd_else (fun h => hlt (by rw [HLen.out]; exact h.2)))
      go_enter Try.func37, Try.ntmps37
      go_wp2
      refine wp_region_quiet_below (by kernel_rfl) (by kernel_rfl) ?_
      repeat (first | go_big_quiet_step (fail) | quiet_step (fail))
      refine wpQuiet_nil ?_
      intro _ hw'
      obtain ⟨⟨dq, osq⟩, hw''⟩ := hw'
      subst hw''
      have bq := below_regrown w dq osq
      have HRq := Lib.hid (HR.out.below bq)
      have HUq := Lib.hid (Upd.of p bq)
      clear k0 k1 k2 bq
      generalize grow (redrawn w dq) osq = x at *
      have d2 := HRq.out.c2
      dsimp only at d2
      go_wp2
      go_ret
      exact ⟨by rw [HN.out]; rfl, by rw [HN.out]; exact HRq.out, HUq.out⟩
  · have HN : Hid (rEnd bs ⟨a, er⟩ = (er, ⟨a, er⟩)) := Lib.hid (rEnd_else (fun h => he h.1))
    have q0 : (er == 0) = false := beq_eq_false_iff_ne.2 he
    go_enter Try.func37, Try.ntmps37
    go_wp2
    refine wp_region_quiet_below (by kernel_rfl) (by kernel_rfl) ?_
    repeat (first | go_big_quiet_step (fail) | quiet_step (fail))
    refine wpQuiet_nil ?_
    intro _ hw'
    obtain ⟨⟨dq, osq⟩, hw''⟩ := hw'
    subst hw''
    have bq := below_regrown w dq osq
    have HRq := Lib.hid (HR.out.below bq)
    have HUq := Lib.hid (Upd.of p bq)
    clear k0 k1 k2 bq
    generalize grow (redrawn w dq) osq = x at *
    have d2 := HRq.out.c2
    dsimp only at d2
    go_wp2
    go_ret
    exact ⟨by rw [HN.out]; rfl, by rw [HN.out]; exact HRq.out, HUq.out⟩
set_option maxHeartbeats 2000000 in
theorem pack_read (bs : List UInt8) (ao : Option Addr) (m cap : Nat) (w : World) (hL : By.Ls w ao m cap bs) (hm : m ≤ 1000000000000) :
    Calls Try.prog 33 #[.slice ao m cap] w fun e w' => (∃ p bo, e = .returned (.pointer (some ⟨p, 0, none⟩)) ∧ w.heap.size ≤ p ∧ Rd w' p bo m m bs ⟨0, 0⟩) ∧ Below w.heap.size w w' := by
  have hmk := By.make m (by omega)
  have hb0 := By.block_made w m
  have hB1 := (Below.refl w.heap.size w).alloc (Nat.le_refl _) (.cells (By.zeros m) 5)
  obtain ⟨W1, hcp, hblk, hbel, hsz⟩ := By.copy (w.alloc (.cells (By.zeros m) 5)) w.heap.size 0 [] [] m ao m cap bs (by simpa using hb0) rfl hL.len (hL.below hB1).seg (some ⟨w.heap.size, 0, none⟩) (fun _ => rfl)
  rw [List.length_nil, Nat.add_zero] at hcp
  rw [List.nil_append, List.append_nil] at hblk
  have HB1 := Lib.hid (hbel _ _ hB1 (Nat.le_refl _))
  have HBk := Lib.hid hblk
  have HLen := Lib.hid hL.len
  have hcap := hL.reach
  have hs1 : W1.heap.size = w.heap.size + 1 := by rw [hsz]; simp
  clear hL hb0 hblk hbel hB1 hsz
  go_enter Try.func33, Try.ntmps33
  go_wp2
  go_ret
  have bx : Below W1.heap.size W1 (W1.alloc (.cells #[.slice (some ⟨w.heap.size, 0, none⟩) m m, .int .i64 0, .int .i64 0] 110)) := (Below.refl _ _).alloc (Nat.le_refl _) _
  have hls := (HBk.out.ls (by rw [← HLen.out]; omega)).below bx
  rw [← HLen.out] at hls
  refine ⟨⟨w.heap.size + 1, some ⟨w.heap.size, 0, none⟩, rfl, by omega, ?_⟩, bchain HB1.out bx⟩
  rw [← hs1]
  exact ⟨by simp [go_sem], by simp [go_sem], by simp [go_sem], fun o => by simp [go_sem], hls, fun b off e => by cases e; omega, by show 0 ≤ m; omega⟩
end Go.Proofs.Ytndfhnaafaijcaa
