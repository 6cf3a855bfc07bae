/- THE DOCUMENT's OWN ANSWER: impostref3's size, Tax, Within. -/
import Derived.Test.YtobemghdcbjjfaaRate
namespace Go.Proofs.Ytobemghdcbjjfaa
open Go.RowKit

theorem size_any (a : Int) (w : World) (ha : Fit a) :
    Calls Try.prog 17 #[.int .i64 a] w fun e w' => e = .returned (.int .u64 (a.natAbs : Int)) ∧ w' = w := by
  obtain ⟨ha0, ha1⟩ := ha
  go_enter Try.func17, Try.ntmps17
  by_cases h : a < 0
  · go_wp2
    go_ret
    exact ⟨ret_u64 (by omega), rfl⟩
  · go_wp2
    go_ret
    exact ⟨ret_u64 (by omega), rfl⟩
theorem val_fit {n : Int} {bp all s : Nat} (h : Sh.sh n.natAbs bp all = s) (hs : s ≤ 9223372036854775807) : both (Sh.val n bp all) (Sh.why n bp all) = both (Sh.side n s) 0 := by
  unfold Sh.val Sh.why
  rw [h, if_pos hs, if_pos hs]
theorem val_not {n : Int} {bp all s : Nat} (h : Sh.sh n.natAbs bp all = s) (hs : ¬ s ≤ 9223372036854775807) : both (Sh.val n bp all) (Sh.why n bp all) = both 0 7 := by
  unfold Sh.val Sh.why
  rw [h, if_neg hs, if_neg hs]
set_option maxHeartbeats 1000000 in
theorem refTax_right (n : Int) (b : Nat) (w : World) (hn : Fit n) (hb : b ≤ 100000) :
    Calls Try.prog 12 #[.int .i64 n, .int .i64 b] w fun e w' => e = both (Sh.val n b 10000) (Sh.why n b 10000) ∧ w' = w := by
  have HN := Lib.hid hn
  obtain ⟨hn0, hn1⟩ := hn
  have hs := Sh.sh_split n.natAbs b 10000 (by omega)
  have hl := Sh.last_le (n.natAbs % 10000) b 10000 (Nat.mod_lt _ (by omega))
  rw [show 2 * 10000 = 20000 from rfl, Sh.sh_half] at hs hl
  obtain ⟨u, hu⟩ : ∃ u, n.natAbs = u := ⟨_, rfl⟩
  have hq : (u : Int) / 10000 = ((u / 10000 : Nat) : Int) := by omega
  have hr : (u : Int) % 10000 = ((u % 10000 : Nat) : Int) := by omega
  have hr1 : u % 10000 < 10000 := Nat.mod_lt _ (by omega)
  have hq1 : u / 10000 ≤ 922337203685477 := by omega
  have hm : (u % 10000) * b ≤ 10000 * 100000 := Nat.mul_le_mul (by omega) hb
  rw [hu] at hl
  have hs' := hs
  rw [hu] at hs'
  generalize u / 10000 = q at hs' hq hq1
  generalize u % 10000 = r at hs' hl hr hr1 hm
  have hm2 : ((r * b : Nat) : Int) = (r : Int) * (b : Int) := Int.natCast_mul _ _
  have hm1 : (r : Int) * (b : Int) ≤ 1000000000 := by omega
  have hm0 : 0 ≤ (r : Int) * (b : Int) := Int.mul_nonneg (by omega) (by omega)
  have hlast : ((r : Int) * (b : Int) + 5000) / 10000 = (((r * b + 5000) / 10000 : Nat) : Int) := by omega
  generalize (r * b + 5000) / 10000 = l at hs' hl hlast
  have hp : ((q * b : Nat) : Int) = (q : Int) * (b : Int) := Int.natCast_mul _ _
  have hp0 : 0 ≤ (q : Int) * (b : Int) := by omega
  have hsh : Sh.sh n.natAbs b 10000 = q * b + l := by rw [hu]; exact hs'
  clear hs hm hm2 hs'
  by_cases hf : q * b + l ≤ 9223372036854775807
  · rw [val_fit hsh hf]
    clear hsh
    have hp1 : (q : Int) * (b : Int) ≤ 9223372036854775807 - l := by omega
    have HE : Hid ((q : Int) * (b : Int) + l = ((q * b + l : Nat) : Int)) := Lib.hid (by omega)
    have hc : 0 < b → ¬ 9223372036854775807 / (b : Int) < (q : Int) := by
      intro h0
      rw [Int.not_lt, Int.le_ediv_iff_mul_le (by omega)]
      omega
    clear hf hp
    have hcc : ¬ 0 < b ∨ (0 < b ∧ ¬ 9223372036854775807 / (b : Int) < (q : Int)) := by
      by_cases h : 0 < b
      · exact .inr ⟨h, hc h⟩
      · exact .inl h
    clear hc
    go_enter Try.func12, Try.ntmps12
    go_wp2_with fail
    refine (size_any _ _ HN.out).mono ?_
    rintro e w1 ⟨rfl, hw1⟩
    subst hw1
    rw [hu]
    clear hu
    by_cases hneg : n < 0
    · have HS : Hid (-((q : Int) * (b : Int) + l) = Sh.side n (q * b + l)) := Lib.hid (by rw [Sh.side, if_pos hneg, ← HE.out])
      rcases hcc with h0 | ⟨h0, hc⟩
      · go_wp2_with fail
        go_ret2
        exact ⟨both_eq HS.out rfl, rfl⟩
      · go_wp2_with fail
        go_ret2
        exact ⟨both_eq HS.out rfl, rfl⟩
    · have HS : Hid ((q : Int) * (b : Int) + l = Sh.side n (q * b + l)) := Lib.hid (by rw [Sh.side, if_neg hneg, ← HE.out])
      rcases hcc with h0 | ⟨h0, hc⟩
      · go_wp2_with fail
        go_ret2
        exact ⟨both_eq HS.out rfl, rfl⟩
      · go_wp2_with fail
        go_ret2
        exact ⟨both_eq HS.out rfl, rfl⟩
  · rw [val_not hsh hf]
    clear hsh
    have h0 : 0 < b := by
      refine Nat.pos_of_ne_zero fun h => ?_
      subst h
      omega
    have hd : 9223372036854775807 / (b : Int) < (q : Int) ↔ 9223372036854775807 < (q : Int) * (b : Int) := Int.ediv_lt_iff_lt_mul (by omega)
    by_cases hc : 9223372036854775807 / (b : Int) < (q : Int)
    · clear hd hf hp
      go_enter Try.func12, Try.ntmps12
      go_wp2_with fail
      refine (size_any _ _ HN.out).mono ?_
      rintro e w1 ⟨rfl, hw1⟩
      subst hw1
      rw [hu]
      clear hu
      go_wp2_with fail
      go_ret2
      exact ⟨rfl, rfl⟩
    · have hp1 : (q : Int) * (b : Int) ≤ 9223372036854775807 := by omega
      have hov : 9223372036854775807 < (q : Int) * (b : Int) + l := by omega
      clear hd hf hp
      go_enter Try.func12, Try.ntmps12
      go_wp2_with fail
      refine (size_any _ _ HN.out).mono ?_
      rintro e w1 ⟨rfl, hw1⟩
      subst hw1
      rw [hu]
      clear hu
      go_wp2_with fail
      go_ret2
      exact ⟨rfl, rfl⟩
theorem refTax_any (n bp : Int) (w : World) (hn : Fit n) (hb : Fit bp) :
    Calls Try.prog 12 #[.int .i64 n, .int .i64 bp] w fun e w' => e = both (Sh.taxV n bp) (Sh.taxE n bp) ∧ w' = w := by
  by_cases h : Sh.Right bp
  · rw [(right_if h n).1]
    obtain ⟨u, rfl⟩ : ∃ u : Nat, bp = u := ⟨bp.toNat, by unfold Sh.Right at h; omega⟩
    rw [Int.toNat_natCast]
    exact refTax_right n u w hn (by unfold Sh.Right at h; omega)
  · rw [(right_not h n).1]
    obtain ⟨hb0, hb1⟩ := hb
    go_enter Try.func12, Try.ntmps12
    by_cases h0 : bp < 0
    · clear h
      go_wp2_with fail
      go_ret2
      exact ⟨rfl, rfl⟩
    · have h1 : 100000 < bp := by unfold Sh.Right at h; omega
      clear h
      go_wp2_with fail
      go_ret2
      exact ⟨rfl, rfl⟩
set_option maxHeartbeats 1000000 in
theorem refWithin_right (n : Int) (b : Nat) (w0 w : World) (hw : Below w0.heap.size w0 w) (hn : Fit n) (hb : b ≤ 100000) :
    Calls Try.prog 13 #[.int .i64 n, .int .i64 b] w fun e w' => e = both (Sh.val n b (10000 + b)) (Sh.why n b (10000 + b)) ∧ Below w0.heap.size w0 w' := by
  have HN := Lib.hid hn
  have HW := Lib.hid hw
  clear hw
  obtain ⟨hn0, hn1⟩ := hn
  obtain ⟨u, hu⟩ : ∃ u, n.natAbs = u := ⟨_, rfl⟩
  have hfit := Sh.within_fits u b hb (by omega)
  have hsh : Sh.sh n.natAbs b (10000 + b) = Sh.sh u b (10000 + b) := by rw [hu]
  rw [val_fit hsh hfit]
  clear hsh
  have hs := Sh.sh_split u b (10000 + b) (by omega)
  have hl := Sh.last_le (u % (10000 + b)) b (10000 + b) (Nat.mod_lt _ (by omega))
  rw [hs] at hfit ⊢
  clear hs
  have ha : (10000 : Int) + (b : Int) = ((10000 + b : Nat) : Int) := by omega
  have ha0 : 10000 ≤ 10000 + b := by omega
  have ha1 : 10000 + b ≤ 110000 := by omega
  generalize 10000 + b = all at *
  have hq : (u : Int) / (all : Int) = ((u / all : Nat) : Int) := by omega
  have hr : (u : Int) % (all : Int) = ((u % all : Nat) : Int) := by omega
  have hr1 : u % all < all := Nat.mod_lt _ (by omega)
  have hm : (u % all) * b ≤ 110000 * 100000 := Nat.mul_le_mul (by omega) hb
  have hq1 : u / all ≤ 922337203685477 := by
    rw [Nat.div_le_iff_le_mul_add_pred (by omega)]
    have : 10000 * 922337203685477 ≤ all * 922337203685477 := Nat.mul_le_mul_right _ ha0
    omega
  have hz : ((all : Int) == 0) = false := beq_eq_false_iff_ne.2 (by omega)
  have hz2 : ((2 * all : Int) == 0) = false := beq_eq_false_iff_ne.2 (by omega)
  generalize u / all = q at hfit hq hq1 ⊢
  generalize u % all = r at hfit hl hr hr1 hm ⊢
  have hlast : (2 * (r : Int) * (b : Int) + all) / (2 * (all : Int)) = (((2 * r * b + all) / (2 * all) : Nat) : Int) := by push_cast; rfl
  generalize (2 * r * b + all) / (2 * all) = l at hfit hl hlast ⊢
  have hm2 : 2 * (r : Int) * (b : Int) ≤ 22000000000 := by
    have h : ((r * b : Nat) : Int) = (r : Int) * (b : Int) := Int.natCast_mul _ _
    rw [Int.mul_assoc]
    omega
  have hm0 : 0 ≤ 2 * (r : Int) * (b : Int) := Int.mul_nonneg (by omega) (by omega)
  have hp : ((q * b : Nat) : Int) = (q : Int) * (b : Int) := Int.natCast_mul _ _
  have hp0 : 0 ≤ (q : Int) * (b : Int) := by omega
  have hp1 : (q : Int) * (b : Int) ≤ 9223372036854775807 - l := by omega
  have HE : Hid ((q : Int) * (b : Int) + l = ((q * b + l : Nat) : Int)) := Lib.hid (by omega)
  clear hm hfit hp
  go_enter Try.func13, Try.ntmps13
  go_wp2_with fail
  refine (size_any _ _ HN.out).mono ?_
  rintro e w1 ⟨rfl, hw1⟩
  subst hw1
  rw [hu]
  clear hu
  go_wp2
  go_quiet (fail)
  by_cases hneg : n < 0
  · have HS : Hid (-((q : Int) * (b : Int) + l) = Sh.side n (q * b + l)) := Lib.hid (by rw [Sh.side, if_pos hneg, ← HE.out])
    go_wp2_with fail
    go_ret2
    exact ⟨both_eq HS.out rfl, below_drewN HW.out _⟩
  · have HS : Hid ((q : Int) * (b : Int) + l = Sh.side n (q * b + l)) := Lib.hid (by rw [Sh.side, if_neg hneg, ← HE.out])
    go_wp2_with fail
    go_ret2
    exact ⟨both_eq HS.out rfl, below_drewN HW.out _⟩
theorem refWithin_any (n bp : Int) (w0 w : World) (hw : Below w0.heap.size w0 w) (hn : Fit n) (hb : Fit bp) :
    Calls Try.prog 13 #[.int .i64 n, .int .i64 bp] w fun e w' => e = both (Sh.inV n bp) (Sh.inE n bp) ∧ Below w0.heap.size w0 w' := by
  by_cases h : Sh.Right bp
  · rw [(right_if h n).2]
    obtain ⟨u, rfl⟩ : ∃ u : Nat, bp = u := ⟨bp.toNat, by unfold Sh.Right at h; omega⟩
    rw [Int.toNat_natCast]
    exact refWithin_right n u w0 w hw hn (by unfold Sh.Right at h; omega)
  · rw [(right_not h n).2]
    have HW := Lib.hid hw
    clear hw
    obtain ⟨hb0, hb1⟩ := hb
    go_enter Try.func13, Try.ntmps13
    by_cases h0 : bp < 0
    · clear h
      go_wp2_with fail
      go_ret2
      exact ⟨rfl, HW.out⟩
    · have h1 : 100000 < bp := by unfold Sh.Right at h; omega
      clear h
      go_wp2_with fail
      go_ret2
      exact ⟨rfl, HW.out⟩
end Go.Proofs.Ytobemghdcbjjfaa
