/- CONTRACTS OF PACKAGE pack: unfolded, number. (By genpkr.py.) -/
import Derived.Test.YtagjbjppddbalaaPkX
namespace Go.Proofs.Ytagjbjppddbalaa
open Go.RowKit
open Mem Pk

theorem pack_unfolded (u : Nat) (hu : u < 18446744073709551616) (w : World) : Calls Try.prog 61 #[.int .u64 (u : Int)] w fun e w' => e = .returned (.int .i64 (uz u)) ∧ w' = w := by
  obtain ⟨q, hq⟩ : ∃ q, u / 2 = q := ⟨_, rfl⟩
  have hqb : q ≤ 9223372036854775807 := by omega
  have hdiv : (u : Int) / 2 = (q : Int) := by omega
  have hand := Lib.u64_and1 (u : Int) (by omega) (by omega)
  by_cases h1 : u % 2 = 1
  · have hm : (u : Int) % 2 = 1 := by omega
    rw [hm] at hand
    have hz : uz u = -(q : Int) - 1 := by
      unfold uz
      rw [if_pos h1, hq]
    have hnot := Lib.i64_not q (by omega)
    rw [hz]
    clear hq hu h1 hm hz
    go_enter Try.func61, Try.ntmps61
    go_wp2
    go_ret
    exact ⟨rfl, rfl⟩
  · have hm : (u : Int) % 2 = 0 := by omega
    rw [hm] at hand
    have hz : uz u = (q : Int) := by
      unfold uz
      rw [if_neg h1, hq]
    rw [hz]
    clear hq hu h1 hm hz
    go_enter Try.func61, Try.ntmps61
    go_wp2
    go_ret
    exact ⟨rfl, rfl⟩
/-- what number answers -/
def numE : Int ⊕ (Nat × Nat) → Ending
  | .inl e => .returned (.tuple #[.int .i64 0, .int .i64 0, .int .i64 e])
  | .inr p => .returned (.tuple #[.int .i64 (uz p.1), .int .i64 (p.2 : Int), .int .i64 0])
def pw (k : Nat) : Nat := 128 ^ k

set_option maxHeartbeats 4000000 in
theorem pack_number (bs : List UInt8) (ao : Option Addr) (n cap : Nat) (w : World) (hL : By.Ls w ao n cap bs) :
    Calls Try.prog 56 #[.slice ao n cap] w fun e w' => e = numE (num bs) ∧ w' = w := by
  have HL := Lib.hid hL
  have HLen := Lib.hid hL.len
  have hfit := hL.fits
  have hcap := hL.reach
  clear hL
  go_enter Try.func56, Try.ntmps56
  go_wp2
  go_loop [5, 6, 7, 10] (fun x _ _ i => ∃ (k u : Nat), x = .int .u64 (u : Int) ∧ i = .int .i64 (k : Int) ∧ k ≤ 9 ∧ k ≤ n ∧ Hid (u < pw k) ∧ Hid (rd k u (bs.drop k) = num bs)) (fun _ _ _ i => n - (intOf i).toNat)
  case atStart => exact ⟨0, 0, rfl, rfl, by omega, by omega, Lib.hid (by decide), Lib.hid rfl⟩
  case round =>
    obtain ⟨k, u, rfl, rfl, hk9, hkn, HU, HR⟩ := hrel
    by_cases hlt : k < n
    · have hkl : k < bs.length := HLen.out ▸ hlt
      obtain ⟨b, off, rfl⟩ := HL.out.at (by omega)
      have hc := HL.out.row k hkl
      obtain ⟨x, hx⟩ : ∃ x, bs[k] = x := ⟨_, rfl⟩
      have HDr : Hid (bs.drop k = x :: bs.drop (k + 1)) := Lib.hid (by rw [List.drop_eq_getElem_cons hkl, hx])
      rw [hx] at hc
      have hx256 : x.toNat ≤ 255 := by
        have := UInt8.toNat_lt x
        omega
      obtain ⟨c, hcx⟩ : ∃ c, x.toNat = c := ⟨_, rfl⟩
      unfold By.bv at hc
      rw [hcx] at hc hx256
      have HCx := Lib.hid hcx
      have hand := u8_and127 (c : Int) (by omega) (by omega)
      obtain ⟨r, hr⟩ : ∃ r, c % 128 = r := ⟨_, rfl⟩
      have hr128 : r ≤ 127 := by omega
      rw [show (c : Int) % 128 = (r : Int) by omega] at hand
      have HRc := Lib.hid hr
      clear hx hkl hcx hr
      rcases (by omega : k = 0 ∨ k = 1 ∨ k = 2 ∨ k = 3 ∨ k = 4 ∨ k = 5 ∨ k = 6 ∨ k = 7 ∨ k = 8 ∨ k = 9) with rfl | rfl | rfl | rfl | rfl | rfl | rfl | rfl | rfl | rfl
      · have hub : u < 1 := HU.out
        obtain ⟨S, hS⟩ : ∃ S, u + r * 1 = S := ⟨_, rfl⟩
        have HSm := Lib.hid hS
        have HUb := Lib.hid hub
        rw [Nat.add_zero] at hc
        have hSb : S < 128 := by omega
        have HSb := Lib.hid hSb
        have hor : bits .or .u64 (u : Int) ((r : Int)) = (S : Int) := by
          rw [u64_orv0 _ _ (by omega) (by omega) (by omega) (by omega) (by omega)]
          omega
        by_cases hm : 128 ≤ c
        · have HN : Hid (rd 1 S (bs.drop 1) = num bs) := Lib.hid (by
            have h := HR.out
            rw [HDr.out, rd_more (by omega) (by rw [HCx.out]; exact hm), HCx.out, HRc.out] at h
            rw [← HSm.out]
            exact h)
          have HPw : Hid (S < pw 1) := Lib.hid (by
            rw [show pw 1 = 128 by decide]
            exact HSb.out)
          have a1 : (128 : Int) ≤ (c : Int) := by omega
          clear hub hS hSb
          go_wp2
          go_round
          case rel => exact ⟨1, S, rfl, rfl, by omega, by omega, HPw, HN⟩
          case measure => simp [intOf]; omega
        have hrc : r = c := by
          have := HRc.out
          omega
        have a2 : ¬ (128 : Int) ≤ (c : Int) := by omega
        by_cases hc0 : c = 0
        · have q0 : ((c : Int) == 0) = true := beq_iff_eq.2 (by omega)
          have HE : Hid (num bs = .inr (S, 1)) := Lib.hid (by
            rw [← HR.out, HDr.out, rd_last (by rw [HCx.out]; omega) (by rw [HCx.out]; omega) (by rw [HCx.out]; omega), HCx.out, ← HSm.out, hrc])
          clear hub hS hSb hrc hc0
          go_wp2_with fail
          refine (pack_unfolded S (Nat.lt_of_lt_of_le HSb.out (by omega)) w).mono ?_
          rintro e w1 ⟨rfl, rfl⟩
          rename World => w
          go_wp2_with fail
          go_ret3
          exact ⟨by rw [HE.out]; rfl, rfl⟩
        have q0 : ((c : Int) == 0) = false := beq_eq_false_iff_ne.2 (by omega)
        have HE : Hid (num bs = .inr (S, 1)) := Lib.hid (by
          rw [← HR.out, HDr.out, rd_last (by rw [HCx.out]; omega) (by rw [HCx.out]; omega) (by rw [HCx.out]; omega), HCx.out, ← HSm.out, hrc])
        clear hub hS hSb hrc hc0
        go_wp2_with fail
        refine (pack_unfolded S (Nat.lt_of_lt_of_le HSb.out (by omega)) w).mono ?_
        rintro e w1 ⟨rfl, rfl⟩
        rename World => w
        go_wp2_with fail
        go_ret3
        exact ⟨by rw [HE.out]; rfl, rfl⟩
      · have hub : u < 128 := HU.out
        obtain ⟨S, hS⟩ : ∃ S, u + r * 128 = S := ⟨_, rfl⟩
        have HSm := Lib.hid hS
        have HUb := Lib.hid hub
        have hSb : S < 16384 := by omega
        have HSb := Lib.hid hSb
        have hor : bits .or .u64 (u : Int) ((r : Int) * 128) = (S : Int) := by
          rw [u64_orv7 _ _ (by omega) (by omega) (by omega) (by omega) (by omega)]
          omega
        by_cases hm : 128 ≤ c
        · have HN : Hid (rd 2 S (bs.drop 2) = num bs) := Lib.hid (by
            have h := HR.out
            rw [HDr.out, rd_more (by omega) (by rw [HCx.out]; exact hm), HCx.out, HRc.out] at h
            rw [← HSm.out]
            exact h)
          have HPw : Hid (S < pw 2) := Lib.hid (by
            rw [show pw 2 = 16384 by decide]
            exact HSb.out)
          have a1 : (128 : Int) ≤ (c : Int) := by omega
          clear hub hS hSb
          go_wp2
          go_round
          case rel => exact ⟨2, S, rfl, rfl, by omega, by omega, HPw, HN⟩
          case measure => simp [intOf]; omega
        have hrc : r = c := by
          have := HRc.out
          omega
        have a2 : ¬ (128 : Int) ≤ (c : Int) := by omega
        by_cases hc0 : c = 0
        · have HE : Hid (num bs = .inl 4) := Lib.hid (by
            rw [← HR.out, HDr.out, rd_zero (by rw [HCx.out]; exact hc0) (by omega)])
          have q0 : ((c : Int) == 0) = true := beq_iff_eq.2 (by omega)
          clear hub hS hSb hrc hc0
          go_wp2
          go_ret3
          exact ⟨by rw [HE.out]; rfl, rfl⟩
        have q0 : ((c : Int) == 0) = false := beq_eq_false_iff_ne.2 (by omega)
        have HE : Hid (num bs = .inr (S, 2)) := Lib.hid (by
          rw [← HR.out, HDr.out, rd_last (by rw [HCx.out]; omega) (by rw [HCx.out]; omega) (by rw [HCx.out]; omega), HCx.out, ← HSm.out, hrc])
        clear hub hS hSb hrc hc0
        go_wp2_with fail
        refine (pack_unfolded S (Nat.lt_of_lt_of_le HSb.out (by omega)) w).mono ?_
        rintro e w1 ⟨rfl, rfl⟩
        rename World => w
        go_wp2_with fail
        go_ret3
        exact ⟨by rw [HE.out]; rfl, rfl⟩
      · have hub : u < 16384 := HU.out
        obtain ⟨S, hS⟩ : ∃ S, u + r * 16384 = S := ⟨_, rfl⟩
        have HSm := Lib.hid hS
        have HUb := Lib.hid hub
        have hSb : S < 2097152 := by omega
        have HSb := Lib.hid hSb
        have hor : bits .or .u64 (u : Int) ((r : Int) * 16384) = (S : Int) := by
          rw [u64_orv14 _ _ (by omega) (by omega) (by omega) (by omega) (by omega)]
          omega
        by_cases hm : 128 ≤ c
        · have HN : Hid (rd 3 S (bs.drop 3) = num bs) := Lib.hid (by
            have h := HR.out
            rw [HDr.out, rd_more (by omega) (by rw [HCx.out]; exact hm), HCx.out, HRc.out] at h
            rw [← HSm.out]
            exact h)
          have HPw : Hid (S < pw 3) := Lib.hid (by
            rw [show pw 3 = 2097152 by decide]
            exact HSb.out)
          have a1 : (128 : Int) ≤ (c : Int) := by omega
          clear hub hS hSb
          go_wp2
          go_round
          case rel => exact ⟨3, S, rfl, rfl, by omega, by omega, HPw, HN⟩
          case measure => simp [intOf]; omega
        have hrc : r = c := by
          have := HRc.out
          omega
        have a2 : ¬ (128 : Int) ≤ (c : Int) := by omega
        by_cases hc0 : c = 0
        · have HE : Hid (num bs = .inl 4) := Lib.hid (by
            rw [← HR.out, HDr.out, rd_zero (by rw [HCx.out]; exact hc0) (by omega)])
          have q0 : ((c : Int) == 0) = true := beq_iff_eq.2 (by omega)
          clear hub hS hSb hrc hc0
          go_wp2
          go_ret3
          exact ⟨by rw [HE.out]; rfl, rfl⟩
        have q0 : ((c : Int) == 0) = false := beq_eq_false_iff_ne.2 (by omega)
        have HE : Hid (num bs = .inr (S, 3)) := Lib.hid (by
          rw [← HR.out, HDr.out, rd_last (by rw [HCx.out]; omega) (by rw [HCx.out]; omega) (by rw [HCx.out]; omega), HCx.out, ← HSm.out, hrc])
        clear hub hS hSb hrc hc0
        go_wp2_with fail
        refine (pack_unfolded S (Nat.lt_of_lt_of_le HSb.out (by omega)) w).mono ?_
        rintro e w1 ⟨rfl, rfl⟩
        rename World => w
        go_wp2_with fail
        go_ret3
        exact ⟨by rw [HE.out]; rfl, rfl⟩
      · have hub : u < 2097152 := HU.out
        obtain ⟨S, hS⟩ : ∃ S, u + r * 2097152 = S := ⟨_, rfl⟩
        have HSm := Lib.hid hS
        have HUb := Lib.hid hub
        have hSb : S < 268435456 := by omega
        have HSb := Lib.hid hSb
        have hor : bits .or .u64 (u : Int) ((r : Int) * 2097152) = (S : Int) := by
          rw [u64_orv21 _ _ (by omega) (by omega) (by omega) (by omega) (by omega)]
          omega
        by_cases hm : 128 ≤ c
        · have HN : Hid (rd 4 S (bs.drop 4) = num bs) := Lib.hid (by
            have h := HR.out
            rw [HDr.out, rd_more (by omega) (by rw [HCx.out]; exact hm), HCx.out, HRc.out] at h
            rw [← HSm.out]
            exact h)
          have HPw : Hid (S < pw 4) := Lib.hid (by
            rw [show pw 4 = 268435456 by decide]
            exact HSb.out)
          have a1 : (128 : Int) ≤ (c : Int) := by omega
          clear hub hS hSb
          go_wp2
          go_round
          case rel => exact ⟨4, S, rfl, rfl, by omega, by omega, HPw, HN⟩
          case measure => simp [intOf]; omega
        have hrc : r = c := by
          have := HRc.out
          omega
        have a2 : ¬ (128 : Int) ≤ (c : Int) := by omega
        by_cases hc0 : c = 0
        · have HE : Hid (num bs = .inl 4) := Lib.hid (by
            rw [← HR.out, HDr.out, rd_zero (by rw [HCx.out]; exact hc0) (by omega)])
          have q0 : ((c : Int) == 0) = true := beq_iff_eq.2 (by omega)
          clear hub hS hSb hrc hc0
          go_wp2
          go_ret3
          exact ⟨by rw [HE.out]; rfl, rfl⟩
        have q0 : ((c : Int) == 0) = false := beq_eq_false_iff_ne.2 (by omega)
        have HE : Hid (num bs = .inr (S, 4)) := Lib.hid (by
          rw [← HR.out, HDr.out, rd_last (by rw [HCx.out]; omega) (by rw [HCx.out]; omega) (by rw [HCx.out]; omega), HCx.out, ← HSm.out, hrc])
        clear hub hS hSb hrc hc0
        go_wp2_with fail
        refine (pack_unfolded S (Nat.lt_of_lt_of_le HSb.out (by omega)) w).mono ?_
        rintro e w1 ⟨rfl, rfl⟩
        rename World => w
        go_wp2_with fail
        go_ret3
        exact ⟨by rw [HE.out]; rfl, rfl⟩
      · have hub : u < 268435456 := HU.out
        obtain ⟨S, hS⟩ : ∃ S, u + r * 268435456 = S := ⟨_, rfl⟩
        have HSm := Lib.hid hS
        have HUb := Lib.hid hub
        have hSb : S < 34359738368 := by omega
        have HSb := Lib.hid hSb
        have hor : bits .or .u64 (u : Int) ((r : Int) * 268435456) = (S : Int) := by
          rw [u64_orv28 _ _ (by omega) (by omega) (by omega) (by omega) (by omega)]
          omega
        by_cases hm : 128 ≤ c
        · have HN : Hid (rd 5 S (bs.drop 5) = num bs) := Lib.hid (by
            have h := HR.out
            rw [HDr.out, rd_more (by omega) (by rw [HCx.out]; exact hm), HCx.out, HRc.out] at h
            rw [← HSm.out]
            exact h)
          have HPw : Hid (S < pw 5) := Lib.hid (by
            rw [show pw 5 = 34359738368 by decide]
            exact HSb.out)
          have a1 : (128 : Int) ≤ (c : Int) := by omega
          clear hub hS hSb
          go_wp2
          go_round
          case rel => exact ⟨5, S, rfl, rfl, by omega, by omega, HPw, HN⟩
          case measure => simp [intOf]; omega
        have hrc : r = c := by
          have := HRc.out
          omega
        have a2 : ¬ (128 : Int) ≤ (c : Int) := by omega
        by_cases hc0 : c = 0
        · have HE : Hid (num bs = .inl 4) := Lib.hid (by
            rw [← HR.out, HDr.out, rd_zero (by rw [HCx.out]; exact hc0) (by omega)])
          have q0 : ((c : Int) == 0) = true := beq_iff_eq.2 (by omega)
          clear hub hS hSb hrc hc0
          go_wp2
          go_ret3
          exact ⟨by rw [HE.out]; rfl, rfl⟩
        have q0 : ((c : Int) == 0) = false := beq_eq_false_iff_ne.2 (by omega)
        have HE : Hid (num bs = .inr (S, 5)) := Lib.hid (by
          rw [← HR.out, HDr.out, rd_last (by rw [HCx.out]; omega) (by rw [HCx.out]; omega) (by rw [HCx.out]; omega), HCx.out, ← HSm.out, hrc])
        clear hub hS hSb hrc hc0
        go_wp2_with fail
        refine (pack_unfolded S (Nat.lt_of_lt_of_le HSb.out (by omega)) w).mono ?_
        rintro e w1 ⟨rfl, rfl⟩
        rename World => w
        go_wp2_with fail
        go_ret3
        exact ⟨by rw [HE.out]; rfl, rfl⟩
      · have hub : u < 34359738368 := HU.out
        obtain ⟨S, hS⟩ : ∃ S, u + r * 34359738368 = S := ⟨_, rfl⟩
        have HSm := Lib.hid hS
        have HUb := Lib.hid hub
        have hSb : S < 4398046511104 := by omega
        have HSb := Lib.hid hSb
        have hor : bits .or .u64 (u : Int) ((r : Int) * 34359738368) = (S : Int) := by
          rw [u64_orv35 _ _ (by omega) (by omega) (by omega) (by omega) (by omega)]
          omega
        by_cases hm : 128 ≤ c
        · have HN : Hid (rd 6 S (bs.drop 6) = num bs) := Lib.hid (by
            have h := HR.out
            rw [HDr.out, rd_more (by omega) (by rw [HCx.out]; exact hm), HCx.out, HRc.out] at h
            rw [← HSm.out]
            exact h)
          have HPw : Hid (S < pw 6) := Lib.hid (by
            rw [show pw 6 = 4398046511104 by decide]
            exact HSb.out)
          have a1 : (128 : Int) ≤ (c : Int) := by omega
          clear hub hS hSb
          go_wp2
          go_round
          case rel => exact ⟨6, S, rfl, rfl, by omega, by omega, HPw, HN⟩
          case measure => simp [intOf]; omega
        have hrc : r = c := by
          have := HRc.out
          omega
        have a2 : ¬ (128 : Int) ≤ (c : Int) := by omega
        by_cases hc0 : c = 0
        · have HE : Hid (num bs = .inl 4) := Lib.hid (by
            rw [← HR.out, HDr.out, rd_zero (by rw [HCx.out]; exact hc0) (by omega)])
          have q0 : ((c : Int) == 0) = true := beq_iff_eq.2 (by omega)
          clear hub hS hSb hrc hc0
          go_wp2
          go_ret3
          exact ⟨by rw [HE.out]; rfl, rfl⟩
        have q0 : ((c : Int) == 0) = false := beq_eq_false_iff_ne.2 (by omega)
        have HE : Hid (num bs = .inr (S, 6)) := Lib.hid (by
          rw [← HR.out, HDr.out, rd_last (by rw [HCx.out]; omega) (by rw [HCx.out]; omega) (by rw [HCx.out]; omega), HCx.out, ← HSm.out, hrc])
        clear hub hS hSb hrc hc0
        go_wp2_with fail
        refine (pack_unfolded S (Nat.lt_of_lt_of_le HSb.out (by omega)) w).mono ?_
        rintro e w1 ⟨rfl, rfl⟩
        rename World => w
        go_wp2_with fail
        go_ret3
        exact ⟨by rw [HE.out]; rfl, rfl⟩
      · have hub : u < 4398046511104 := HU.out
        obtain ⟨S, hS⟩ : ∃ S, u + r * 4398046511104 = S := ⟨_, rfl⟩
        have HSm := Lib.hid hS
        have HUb := Lib.hid hub
        have hSb : S < 562949953421312 := by omega
        have HSb := Lib.hid hSb
        have hor : bits .or .u64 (u : Int) ((r : Int) * 4398046511104) = (S : Int) := by
          rw [u64_orv42 _ _ (by omega) (by omega) (by omega) (by omega) (by omega)]
          omega
        by_cases hm : 128 ≤ c
        · have HN : Hid (rd 7 S (bs.drop 7) = num bs) := Lib.hid (by
            have h := HR.out
            rw [HDr.out, rd_more (by omega) (by rw [HCx.out]; exact hm), HCx.out, HRc.out] at h
            rw [← HSm.out]
            exact h)
          have HPw : Hid (S < pw 7) := Lib.hid (by
            rw [show pw 7 = 562949953421312 by decide]
            exact HSb.out)
          have a1 : (128 : Int) ≤ (c : Int) := by omega
          clear hub hS hSb
          go_wp2
          go_round
          case rel => exact ⟨7, S, rfl, rfl, by omega, by omega, HPw, HN⟩
          case measure => simp [intOf]; omega
        have hrc : r = c := by
          have := HRc.out
          omega
        have a2 : ¬ (128 : Int) ≤ (c : Int) := by omega
        by_cases hc0 : c = 0
        · have HE : Hid (num bs = .inl 4) := Lib.hid (by
            rw [← HR.out, HDr.out, rd_zero (by rw [HCx.out]; exact hc0) (by omega)])
          have q0 : ((c : Int) == 0) = true := beq_iff_eq.2 (by omega)
          clear hub hS hSb hrc hc0
          go_wp2
          go_ret3
          exact ⟨by rw [HE.out]; rfl, rfl⟩
        have q0 : ((c : Int) == 0) = false := beq_eq_false_iff_ne.2 (by omega)
        have HE : Hid (num bs = .inr (S, 7)) := Lib.hid (by
          rw [← HR.out, HDr.out, rd_last (by rw [HCx.out]; omega) (by rw [HCx.out]; omega) (by rw [HCx.out]; omega), HCx.out, ← HSm.out, hrc])
        clear hub hS hSb hrc hc0
        go_wp2_with fail
        refine (pack_unfolded S (Nat.lt_of_lt_of_le HSb.out (by omega)) w).mono ?_
        rintro e w1 ⟨rfl, rfl⟩
        rename World => w
        go_wp2_with fail
        go_ret3
        exact ⟨by rw [HE.out]; rfl, rfl⟩
      · have hub : u < 562949953421312 := HU.out
        obtain ⟨S, hS⟩ : ∃ S, u + r * 562949953421312 = S := ⟨_, rfl⟩
        have HSm := Lib.hid hS
        have HUb := Lib.hid hub
        have hSb : S < 72057594037927936 := by omega
        have HSb := Lib.hid hSb
        have hor : bits .or .u64 (u : Int) ((r : Int) * 562949953421312) = (S : Int) := by
          rw [u64_orv49 _ _ (by omega) (by omega) (by omega) (by omega) (by omega)]
          omega
        by_cases hm : 128 ≤ c
        · have HN : Hid (rd 8 S (bs.drop 8) = num bs) := Lib.hid (by
            have h := HR.out
            rw [HDr.out, rd_more (by omega) (by rw [HCx.out]; exact hm), HCx.out, HRc.out] at h
            rw [← HSm.out]
            exact h)
          have HPw : Hid (S < pw 8) := Lib.hid (by
            rw [show pw 8 = 72057594037927936 by decide]
            exact HSb.out)
          have a1 : (128 : Int) ≤ (c : Int) := by omega
          clear hub hS hSb
          go_wp2
          go_round
          case rel => exact ⟨8, S, rfl, rfl, by omega, by omega, HPw, HN⟩
          case measure => simp [intOf]; omega
        have hrc : r = c := by
          have := HRc.out
          omega
        have a2 : ¬ (128 : Int) ≤ (c : Int) := by omega
        by_cases hc0 : c = 0
        · have HE : Hid (num bs = .inl 4) := Lib.hid (by
            rw [← HR.out, HDr.out, rd_zero (by rw [HCx.out]; exact hc0) (by omega)])
          have q0 : ((c : Int) == 0) = true := beq_iff_eq.2 (by omega)
          clear hub hS hSb hrc hc0
          go_wp2
          go_ret3
          exact ⟨by rw [HE.out]; rfl, rfl⟩
        have q0 : ((c : Int) == 0) = false := beq_eq_false_iff_ne.2 (by omega)
        have HE : Hid (num bs = .inr (S, 8)) := Lib.hid (by
          rw [← HR.out, HDr.out, rd_last (by rw [HCx.out]; omega) (by rw [HCx.out]; omega) (by rw [HCx.out]; omega), HCx.out, ← HSm.out, hrc])
        clear hub hS hSb hrc hc0
        go_wp2_with fail
        refine (pack_unfolded S (Nat.lt_of_lt_of_le HSb.out (by omega)) w).mono ?_
        rintro e w1 ⟨rfl, rfl⟩
        rename World => w
        go_wp2_with fail
        go_ret3
        exact ⟨by rw [HE.out]; rfl, rfl⟩
      · have hub : u < 72057594037927936 := HU.out
        obtain ⟨S, hS⟩ : ∃ S, u + r * 72057594037927936 = S := ⟨_, rfl⟩
        have HSm := Lib.hid hS
        have HUb := Lib.hid hub
        have hSb : S < 9223372036854775808 := by omega
        have HSb := Lib.hid hSb
        have hor : bits .or .u64 (u : Int) ((r : Int) * 72057594037927936) = (S : Int) := by
          rw [u64_orv56 _ _ (by omega) (by omega) (by omega) (by omega) (by omega)]
          omega
        by_cases hm : 128 ≤ c
        · have HN : Hid (rd 9 S (bs.drop 9) = num bs) := Lib.hid (by
            have h := HR.out
            rw [HDr.out, rd_more (by omega) (by rw [HCx.out]; exact hm), HCx.out, HRc.out] at h
            rw [← HSm.out]
            exact h)
          have HPw : Hid (S < pw 9) := Lib.hid (by
            rw [show pw 9 = 9223372036854775808 by decide]
            exact HSb.out)
          have a1 : (128 : Int) ≤ (c : Int) := by omega
          clear hub hS hSb
          go_wp2
          go_round
          case rel => exact ⟨9, S, rfl, rfl, by omega, by omega, HPw, HN⟩
          case measure => simp [intOf]; omega
        have hrc : r = c := by
          have := HRc.out
          omega
        have a2 : ¬ (128 : Int) ≤ (c : Int) := by omega
        by_cases hc0 : c = 0
        · have HE : Hid (num bs = .inl 4) := Lib.hid (by
            rw [← HR.out, HDr.out, rd_zero (by rw [HCx.out]; exact hc0) (by omega)])
          have q0 : ((c : Int) == 0) = true := beq_iff_eq.2 (by omega)
          clear hub hS hSb hrc hc0
          go_wp2
          go_ret3
          exact ⟨by rw [HE.out]; rfl, rfl⟩
        have q0 : ((c : Int) == 0) = false := beq_eq_false_iff_ne.2 (by omega)
        have HE : Hid (num bs = .inr (S, 9)) := Lib.hid (by
          rw [← HR.out, HDr.out, rd_last (by rw [HCx.out]; omega) (by rw [HCx.out]; omega) (by rw [HCx.out]; omega), HCx.out, ← HSm.out, hrc])
        clear hub hS hSb hrc hc0
        go_wp2_with fail
        refine (pack_unfolded S (Nat.lt_of_lt_of_le HSb.out (by omega)) w).mono ?_
        rintro e w1 ⟨rfl, rfl⟩
        rename World => w
        go_wp2_with fail
        go_ret3
        exact ⟨by rw [HE.out]; rfl, rfl⟩
      · have hub : u < 9223372036854775808 := HU.out
        obtain ⟨S, hS⟩ : ∃ S, u + r * 9223372036854775808 = S := ⟨_, rfl⟩
        have HSm := Lib.hid hS
        have HUb := Lib.hid hub
        by_cases ht : 1 < c
        · have HE : Hid (num bs = .inl 4) := Lib.hid (by
            rw [← HR.out, HDr.out, rd_ten rfl (by rw [HCx.out]; exact ht)])
          have a1 : (1 : Int) < (c : Int) := by omega
          clear hub hS
          go_wp2
          go_ret3
          exact ⟨by rw [HE.out]; rfl, rfl⟩
        have hrc : r = c := by
          have := HRc.out
          omega
        have hSb : S < 18446744073709551616 := by omega
        have hor : bits .or .u64 (u : Int) ((r : Int) * 9223372036854775808) = (S : Int) := by
          rw [u64_orv63 _ _ (by omega) (by omega) (by omega) (by omega) (by omega)]
          omega
        have HSb := Lib.hid hSb
        have hr1 : r ≤ 1 := by omega
        have a0 : ¬ (1 : Int) < (c : Int) := by omega
        have a2 : ¬ (128 : Int) ≤ (c : Int) := by omega
        by_cases hc0 : c = 0
        · have HE : Hid (num bs = .inl 4) := Lib.hid (by
            rw [← HR.out, HDr.out, rd_zero (by rw [HCx.out]; exact hc0) (by omega)])
          have q0 : ((c : Int) == 0) = true := beq_iff_eq.2 (by omega)
          clear hub hS hSb hrc hc0
          go_wp2
          go_ret3
          exact ⟨by rw [HE.out]; rfl, rfl⟩
        have q0 : ((c : Int) == 0) = false := beq_eq_false_iff_ne.2 (by omega)
        have HE : Hid (num bs = .inr (S, 10)) := Lib.hid (by
          rw [← HR.out, HDr.out, rd_last (by rw [HCx.out]; omega) (by rw [HCx.out]; omega) (by rw [HCx.out]; omega), HCx.out, ← HSm.out, hrc])
        clear hub hS hSb hrc hc0
        go_wp2_with fail
        refine (pack_unfolded S HSb.out w).mono ?_
        rintro e w1 ⟨rfl, rfl⟩
        rename World => w
        go_wp2_with fail
        go_ret3
        exact ⟨by rw [HE.out]; rfl, rfl⟩
    · obtain rfl : k = n := by omega
      have HE : Hid (num bs = .inl 3) := Lib.hid (by
        rw [← HR.out, List.drop_eq_nil_of_le (by rw [← HLen.out]; exact Nat.le_refl _), rd_nil])
      go_wp2
      go_ret3
      exact ⟨by rw [HE.out]; rfl, rfl⟩
end Go.Proofs.Ytagjbjppddbalaa
