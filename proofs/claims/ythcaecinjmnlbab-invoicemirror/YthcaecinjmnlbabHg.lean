/- MERGED: MoneyN, Rate, BookIn. (By mg11.py.) -/
import Derived.Test.YthcaecinjmnlbabHa
import Derived.Test.YthcaecinjmnlbabHc
/- CONTRACTS OF PACKAGE money: Add, Sub, fits, Mul. -/
namespace Go.Proofs.Ythcaecinjmnlbab
open Go.RowKit

theorem both_fit {x : Int} (h : Mn.Fit x) : both (Mn.amt x) (Mn.err x) = both x 0 := by rw [Mn.amt_fit h, Mn.err_fit h]
theorem both_not {x : Int} (h : ¬ Mn.Fit x) : both (Mn.amt x) (Mn.err x) = both 0 7 := by rw [Mn.amt_not h, Mn.err_not h]

theorem add_any (a b : Int) (w : World) (ha : Mn.Fit a) (hb : Mn.Fit b) :
    Calls Try.prog 31 #[.int .i64 a, .int .i64 b] w fun e w' => e = both (Mn.amt (a + b)) (Mn.err (a + b)) ∧ w' = w := by
  obtain ⟨ha0, ha1⟩ := ha
  obtain ⟨hb0, hb1⟩ := hb
  go_enter Try.func31, Try.ntmps31
  by_cases hf : Mn.Fit (a + b)
  · rw [both_fit hf]
    obtain ⟨hf0, hf1⟩ := hf
    by_cases h1 : 0 < b
    · have h2 : ¬ 9223372036854775807 - b < a := by omega
      have h3 : ¬ b < 0 := by omega
      go_wp2
      go_ret2
      exact ⟨rfl, rfl⟩
    · by_cases h3 : b < 0
      · have h2 : ¬ a < -9223372036854775808 - b := by omega
        go_wp2
        go_ret2
        exact ⟨rfl, rfl⟩
      · go_wp2
        go_ret2
        exact ⟨rfl, rfl⟩
  · rw [both_not hf]
    by_cases h1 : 0 < b
    · have h2 : 9223372036854775807 - b < a := by unfold Mn.Fit at hf; omega
      clear hf
      go_wp2
      go_ret2
      exact ⟨rfl, rfl⟩
    · have h3 : b < 0 := by unfold Mn.Fit at hf; omega
      have h2 : a < -9223372036854775808 - b := by unfold Mn.Fit at hf; omega
      clear hf
      go_wp2
      go_ret2
      exact ⟨rfl, rfl⟩
theorem sub_any (a b : Int) (w : World) (ha : Mn.Fit a) (hb : Mn.Fit b) :
    Calls Try.prog 33 #[.int .i64 a, .int .i64 b] w fun e w' => e = both (Mn.amt (a - b)) (Mn.err (a - b)) ∧ w' = w := by
  obtain ⟨ha0, ha1⟩ := ha
  obtain ⟨hb0, hb1⟩ := hb
  go_enter Try.func33, Try.ntmps33
  by_cases hf : Mn.Fit (a - b)
  · rw [both_fit hf]
    obtain ⟨hf0, hf1⟩ := hf
    by_cases h1 : 0 < b
    · have h2 : ¬ a < -9223372036854775808 + b := by omega
      have h3 : ¬ b < 0 := by omega
      go_wp2
      go_ret2
      exact ⟨rfl, rfl⟩
    · by_cases h3 : b < 0
      · have h2 : ¬ 9223372036854775807 + b < a := by omega
        go_wp2
        go_ret2
        exact ⟨rfl, rfl⟩
      · go_wp2
        go_ret2
        exact ⟨rfl, rfl⟩
  · rw [both_not hf]
    by_cases h1 : 0 < b
    · have h2 : a < -9223372036854775808 + b := by unfold Mn.Fit at hf; omega
      clear hf
      go_wp2
      go_ret2
      exact ⟨rfl, rfl⟩
    · have h3 : b < 0 := by unfold Mn.Fit at hf; omega
      have h2 : 9223372036854775807 + b < a := by unfold Mn.Fit at hf; omega
      clear hf
      go_wp2
      go_ret2
      exact ⟨rfl, rfl⟩
theorem fits_any (a b : Int) (w : World) (ha : Mn.Fit a) (hb : Mn.Fit b) :
    Calls Try.prog 41 #[.int .i64 a, .int .i64 b] w fun e w' => e = .returned (.bool (decide (Mn.Fit (a * b)))) ∧ w' = w := by
  obtain ⟨ha0, ha1⟩ := ha
  obtain ⟨hb0, hb1⟩ := hb
  go_enter Try.func41, Try.ntmps41
  by_cases ha : a = 0
  · subst ha
    go_wp2
    go_ret
    exact ⟨ret_bool (by rw [Int.zero_mul]; rfl), rfl⟩
  by_cases hb : b = 0
  · subst hb
    go_wp2
    go_ret
    exact ⟨ret_bool (by rw [Int.mul_zero]; rfl), rfl⟩
  have ha' : (a == 0) = false := by simpa using ha
  have hb' : (b == 0) = false := by simpa using hb
  by_cases h1 : 0 < a
  · by_cases h2 : 0 < b
    · have HQ := Lib.hid (Mn.fits_pp a b h1 h2)
      have HM := Lib.hid (Mn.mul_pos h1 h2)
      have hqb := Mn.tdiv_small 9223372036854775807 b (by omega) hb
      by_cases hq : a ≤ (9223372036854775807 : Int).tdiv b
      · go_wp2
        go_ret
        refine ⟨ret_bool (decide_eq_true ?_).symm, rfl⟩
        have hm := HM.out
        have hr := HQ.out.1 hq
        exact ⟨by omega, by omega⟩
      · go_wp2
        go_ret
        refine ⟨ret_bool (decide_eq_false fun hf => ?_).symm, rfl⟩
        have hr := HQ.out.2
        unfold Mn.Fit at hf
        omega
    · have HQ := Lib.hid (Mn.fits_pn a b h1)
      have HM := Lib.hid (Mn.mul_pn h1 (show b < 0 by omega))
      have hqb := Mn.tdiv_pos 9223372036854775808 a (by omega) h1
      by_cases hq : -(9223372036854775808 : Int).tdiv a ≤ b
      · go_wp2
        go_ret
        refine ⟨ret_bool (decide_eq_true ?_).symm, rfl⟩
        have hm := HM.out
        have hr := HQ.out.1 hq
        exact ⟨by omega, by omega⟩
      · go_wp2
        go_ret
        refine ⟨ret_bool (decide_eq_false fun hf => ?_).symm, rfl⟩
        have hr := HQ.out.2
        unfold Mn.Fit at hf
        omega
  · by_cases h2 : 0 < b
    · have HQ := Lib.hid (Mn.fits_np a b h2)
      have HM := Lib.hid (Mn.mul_np (show a < 0 by omega) h2)
      have hqb := Mn.tdiv_pos 9223372036854775808 b (by omega) h2
      by_cases hq : -(9223372036854775808 : Int).tdiv b ≤ a
      · go_wp2
        go_ret
        refine ⟨ret_bool (decide_eq_true ?_).symm, rfl⟩
        have hm := HM.out
        have hr := HQ.out.1 hq
        exact ⟨by omega, by omega⟩
      · go_wp2
        go_ret
        refine ⟨ret_bool (decide_eq_false fun hf => ?_).symm, rfl⟩
        have hr := HQ.out.2
        unfold Mn.Fit at hf
        omega
    · have HQ := Lib.hid (Mn.fits_nn a b (show b < 0 by omega))
      have HM := Lib.hid (Mn.mul_nn (show a < 0 by omega) (show b < 0 by omega))
      have hqb := Mn.tdiv_small 9223372036854775807 b (by omega) hb
      by_cases hq : (9223372036854775807 : Int).tdiv b ≤ a
      · go_wp2
        go_ret
        refine ⟨ret_bool (decide_eq_true ?_).symm, rfl⟩
        have hm := HM.out
        have hr := HQ.out.1 hq
        exact ⟨by omega, by omega⟩
      · go_wp2
        go_ret
        refine ⟨ret_bool (decide_eq_false fun hf => ?_).symm, rfl⟩
        have hr := HQ.out.2
        unfold Mn.Fit at hf
        omega
theorem mul_any (a b : Int) (w : World) (ha : Mn.Fit a) (hb : Mn.Fit b) :
    Calls Try.prog 28 #[.int .i64 a, .int .i64 b] w fun e w' => e = both (Mn.amt (a * b)) (Mn.err (a * b)) ∧ w' = w := by
  by_cases hf : Mn.Fit (a * b)
  · rw [both_fit hf]
    go_enter Try.func28, Try.ntmps28
    go_wp2_with fail
    refine (fits_any a b _ ha hb).mono ?_
    rintro e _ ⟨rfl, rfl⟩
    rw [decide_eq_true hf]
    obtain ⟨hf0, hf1⟩ := hf
    clear ha hb
    go_wp2
    go_ret2
    exact ⟨rfl, rfl⟩
  · rw [both_not hf]
    go_enter Try.func28, Try.ntmps28
    go_wp2_with fail
    refine (fits_any a b _ ha hb).mono ?_
    rintro e _ ⟨rfl, rfl⟩
    rw [decide_eq_false hf]
    clear hf ha hb
    go_wp2
    go_ret2
    exact ⟨rfl, rfl⟩
end Go.Proofs.Ythcaecinjmnlbab

/- CONTRACTS OF PACKAGE rate. -/
namespace Go.Proofs.Ythcaecinjmnlbab
open Go.RowKit

theorem right_any (bp : Int) (w : World) (hb : Fit bp) :
    Calls Try.prog 44 #[.int .i64 bp] w fun e w' => e = .returned (.bool (decide (Sh.Right bp))) ∧ w' = w := by
  obtain ⟨hb0, hb1⟩ := hb
  go_enter Try.func44, Try.ntmps44
  by_cases h : Sh.Right bp
  · rw [decide_eq_true h]
    obtain ⟨h0, h1⟩ := h
    go_wp2
    go_ret
    exact ⟨rfl, rfl⟩
  · rw [decide_eq_false h]
    by_cases h0 : 0 ≤ bp
    · have h1 : ¬ bp ≤ 100000 := fun h1 => h ⟨h0, h1⟩
      clear h
      go_wp2
      go_ret
      exact ⟨rfl, rfl⟩
    · clear h
      go_wp2
      go_ret
      exact ⟨rfl, rfl⟩
/-- a share that is told -/
def told (s : Nat) : Int × Int := if s ≤ 9223372036854775807 then ((s : Int), 0) else (0, 7)
theorem told_fit {s : Nat} (h : s ≤ 9223372036854775807) : told s = ((s : Int), 0) := if_pos h
theorem told_not {s : Nat} (h : ¬ s ≤ 9223372036854775807) : told s = (0, 7) := if_neg h
set_option maxHeartbeats 1000000 in
theorem parts_any (u bp all : Nat) (w0 w : World) (hw : Below w0.heap.size w0 w) (hu : u ≤ 9223372036854775808) (hb : bp ≤ 100000) (ha0 : 10000 ≤ all) (ha1 : all ≤ 110000) :
    Calls Try.prog 51 #[.int .u64 u, .int .u64 bp, .int .u64 all] w fun e w' => e = both (told (Sh.sh u bp all)).1 (told (Sh.sh u bp all)).2 ∧ Below w0.heap.size w0 w' := by
  have hs := Sh.sh_split u bp all (by omega)
  have hl := Sh.last_le (u % all) bp all (Nat.mod_lt _ (by omega))
  have hq : (u : Int) / (all : Int) = ((u / all : Nat) : Int) := by omega
  have hr : (u : Int) % (all : Int) = ((u % all : Nat) : Int) := by omega
  have hr1 : u % all < all := Nat.mod_lt _ (by omega)
  have hm : (u % all) * bp ≤ 110000 * 100000 := Nat.mul_le_mul (by omega) hb
  have hq1 : u / all ≤ 922337203685477 := by
    rw [Nat.div_le_iff_le_mul_add_pred (by omega)]
    have : 10000 * 922337203685477 ≤ all * 922337203685477 := Nat.mul_le_mul_right _ ha0
    omega
  have hz : ((all : Int) == 0) = false := beq_eq_false_iff_ne.2 (by omega)
  have hz2 : ((2 * all : Int) == 0) = false := beq_eq_false_iff_ne.2 (by omega)
  generalize u / all = q at hs hq hq1
  generalize u % all = r at hs hl hr hr1 hm
  have hlast : (2 * (r : Int) * (bp : Int) + all) / (2 * (all : Int)) = (((2 * r * bp + all) / (2 * all) : Nat) : Int) := by push_cast; rfl
  generalize (2 * r * bp + all) / (2 * all) = l at hs hl hlast
  have hm2 : 2 * (r : Int) * (bp : Int) ≤ 22000000000 := by
    have h : ((r * bp : Nat) : Int) = (r : Int) * (bp : Int) := Int.natCast_mul _ _
    rw [Int.mul_assoc]
    omega
  have hm0 : 0 ≤ 2 * (r : Int) * (bp : Int) := Int.mul_nonneg (by omega) (by omega)
  have hp : ((q * bp : Nat) : Int) = (q : Int) * (bp : Int) := Int.natCast_mul _ _
  have HW := Lib.hid hw
  clear hm hw
  rw [hs]
  clear hs
  by_cases hf : q * bp + l ≤ 9223372036854775807
  · rw [told_fit hf]
    have hp0 : 0 ≤ (q : Int) * (bp : Int) := by omega
    have hp1 : (q : Int) * (bp : Int) ≤ 9223372036854775807 - l := by omega
    have HE : Hid ((q : Int) * (bp : Int) + l = ((q * bp + l : Nat) : Int)) := Lib.hid (by omega)
    have hc : 0 < bp → ¬ (9223372036854775807 - (l : Int)) / (bp : Int) < (q : Int) := by
      intro h0
      rw [Int.not_lt, Int.le_ediv_iff_mul_le (by omega)]
      exact hp1
    clear hf hp
    by_cases h0 : 0 < bp
    · have hc1 := hc h0
      clear hc
      go_enter Try.func51, Try.ntmps51
      go_wp2
      go_quiet (fail)
      go_wp2
      go_ret2
      exact ⟨both_eq HE.out rfl, below_drewN HW.out _⟩
    · clear hc
      go_enter Try.func51, Try.ntmps51
      go_wp2
      go_quiet (fail)
      go_wp2
      go_ret2
      exact ⟨both_eq HE.out rfl, below_drewN HW.out _⟩
  · rw [told_not hf]
    have h0 : 0 < bp := by
      refine Nat.pos_of_ne_zero fun h => ?_
      subst h
      omega
    have hc : (9223372036854775807 - (l : Int)) / (bp : Int) < (q : Int) := by
      rw [Int.ediv_lt_iff_lt_mul (by omega)]
      omega
    clear hf hp
    go_enter Try.func51, Try.ntmps51
    go_wp2
    go_quiet (fail)
    go_wp2
    go_ret2
    exact ⟨rfl, below_drewN HW.out _⟩
theorem told_pos (u bp all : Nat) : told (Sh.sh u bp all) = (Sh.val (u : Int) bp all, Sh.why (u : Int) bp all) := by
  unfold told Sh.val Sh.why Sh.side
  rw [Int.natAbs_natCast]
  split
  · rw [if_neg (by omega)]
  · rfl
theorem told_neg (u bp all : Nat) (hu : 0 < u) : (-(told (Sh.sh u bp all)).1, (told (Sh.sh u bp all)).2) = (Sh.val (-(u : Int)) bp all, Sh.why (-(u : Int)) bp all) := by
  unfold told Sh.val Sh.why Sh.side
  rw [Int.natAbs_neg, Int.natAbs_natCast]
  split
  · rw [if_pos (by omega)]
  · rfl
theorem told_fst (s : Nat) : 0 ≤ (told s).1 ∧ (told s).1 ≤ 9223372036854775807 := by
  unfold told
  split
  · exact ⟨by simp, by simp; omega⟩
  · exact ⟨by simp, by simp⟩
theorem wrap_turn (u : Nat) (h : u ≤ 9223372036854775808) : IntKind.u64.wrap (-IntKind.u64.wrap (-(u : Int))) = u := by
  rw [IntKind.wrap_u64, IntKind.wrap_u64]
  omega
set_option maxHeartbeats 1000000 in
theorem share_any (n : Int) (bp all : Nat) (w0 w : World) (hw : Below w0.heap.size w0 w) (hn : Fit n) (hb : bp ≤ 100000) (ha0 : 10000 ≤ all) (ha1 : all ≤ 110000) :
    Calls Try.prog 45 #[.int .i64 n, .int .u64 bp, .int .u64 all] w fun e w' => e = both (Sh.val n bp all) (Sh.why n bp all) ∧ Below w0.heap.size w0 w' := by
  have HW := Lib.hid hw
  clear hw
  obtain ⟨hn0, hn1⟩ := hn
  by_cases h : 0 ≤ n
  · obtain ⟨u, rfl⟩ : ∃ u : Nat, n = u := ⟨n.toNat, by omega⟩
    have HT := Lib.hid (told_pos u bp all)
    go_enter Try.func45, Try.ntmps45
    go_wp2_with fail
    refine (parts_any u bp all w0 _ HW.out (by omega) hb ha0 ha1).mono ?_
    rintro e w1 ⟨rfl, b1⟩
    have HB1 := Lib.hid b1
    clear b1
    rw [HT.out]
    unfold both
    go_wp2_with fail
    go_ret2
    exact ⟨rfl, HB1.out⟩
  · obtain ⟨u, rfl⟩ : ∃ u : Nat, n = -(u : Int) := ⟨n.natAbs, by omega⟩
    have hu : 0 < u := by omega
    have HT := Lib.hid (told_neg u bp all hu)
    obtain ⟨t0, t1⟩ := told_fst (Sh.sh u bp all)
    go_enter Try.func45, Try.ntmps45
    go_wp2_with fail
    rw [wrap_turn u (by omega)]
    refine (parts_any u bp all w0 _ HW.out (by omega) hb ha0 ha1).mono ?_
    rintro e w1 ⟨rfl, b1⟩
    have HB1 := Lib.hid b1
    clear b1
    obtain ⟨⟨p1, p2⟩, hp⟩ : ∃ p, told (Sh.sh u bp all) = p := ⟨_, rfl⟩
    have HP := Lib.hid (hp ▸ HT.out)
    rw [hp] at t0 t1 ⊢
    clear HT hp
    unfold both
    go_wp2_with fail
    go_ret2
    exact ⟨both_eq (congrArg Prod.fst HP.out) (congrArg Prod.snd HP.out), HB1.out⟩
theorem right_if {bp : Int} (h : Sh.Right bp) (n : Int) : both (Sh.taxV n bp) (Sh.taxE n bp) = both (Sh.val n bp.toNat 10000) (Sh.why n bp.toNat 10000) ∧ both (Sh.inV n bp) (Sh.inE n bp) = both (Sh.val n bp.toNat (10000 + bp.toNat)) (Sh.why n bp.toNat (10000 + bp.toNat)) := by
  unfold Sh.taxV Sh.taxE Sh.inV Sh.inE
  rw [if_pos h, if_pos h, if_pos h, if_pos h]
  exact ⟨rfl, rfl⟩
theorem right_not {bp : Int} (h : ¬ Sh.Right bp) (n : Int) : both (Sh.taxV n bp) (Sh.taxE n bp) = both 0 1 ∧ both (Sh.inV n bp) (Sh.inE n bp) = both 0 1 := by
  unfold Sh.taxV Sh.taxE Sh.inV Sh.inE
  rw [if_neg h, if_neg h, if_neg h, if_neg h]
  exact ⟨rfl, rfl⟩
set_option maxHeartbeats 1000000 in
theorem tax_any (n bp : Int) (w0 w : World) (hw : Below w0.heap.size w0 w) (hn : Fit n) (hb : Fit bp) :
    Calls Try.prog 32 #[.int .i64 n, .int .i64 bp] w fun e w' => e = both (Sh.taxV n bp) (Sh.taxE n bp) ∧ Below w0.heap.size w0 w' := by
  have HW := Lib.hid hw
  have HN := Lib.hid hn
  have HB := Lib.hid hb
  clear hw hn hb
  by_cases h : Sh.Right bp
  · rw [(right_if h n).1]
    obtain ⟨u, rfl⟩ : ∃ u : Nat, bp = u := ⟨bp.toNat, by unfold Sh.Right at h; omega⟩
    have hu : u ≤ 100000 := by unfold Sh.Right at h; omega
    rw [Int.toNat_natCast]
    go_enter Try.func32, Try.ntmps32
    go_wp2_with fail
    refine (right_any u _ HB.out).mono ?_
    rintro e w1 ⟨rfl, hw1⟩
    subst hw1
    rw [decide_eq_true h]
    clear h
    go_wp2_with fail
    refine (share_any n u 10000 w0 _ HW.out HN.out hu (by omega) (by omega)).mono ?_
    rintro e w1 ⟨rfl, b1⟩
    have HB1 := Lib.hid b1
    clear b1
    unfold both
    go_wp2_with fail
    go_ret2
    exact ⟨rfl, HB1.out⟩
  · rw [(right_not h n).1]
    go_enter Try.func32, Try.ntmps32
    go_wp2_with fail
    refine (right_any bp _ HB.out).mono ?_
    rintro e w1 ⟨rfl, hw1⟩
    subst hw1
    rw [decide_eq_false h]
    clear h
    go_wp2_with fail
    go_ret2
    exact ⟨rfl, HW.out⟩
end Go.Proofs.Ythcaecinjmnlbab

/- CONTRACT OF impostbook.Within: a number in the bounds. -/
namespace Go.Proofs.Ythcaecinjmnlbab
open Go.RowKit

theorem bookWithin_any (n lo hi : Int) (w : World) (_hn : Fit n) (h0 : 0 ≤ lo) (h1 : lo ≤ hi) (h2 : hi ≤ 4611686018427387904) :
    Calls Try.prog 5 #[.int .i64 n, .int .i64 lo, .int .i64 hi] w fun e w' => (∃ r : Nat, e = .returned (.int .i64 (r : Int)) ∧ lo ≤ r ∧ r ≤ hi) ∧ w' = w := by
  have a1 : n.tmod (hi - lo + 1) < hi - lo + 1 := Int.tmod_lt_of_pos _ (by omega)
  have a2 : -(hi - lo + 1) < n.tmod (hi - lo + 1) := by
    have := Int.tmod_lt_of_pos (-n) (show 0 < hi - lo + 1 by omega)
    rw [Int.neg_tmod] at this
    omega
  go_enter Try.func5, Try.ntmps5
  go_wp2
  all_goals go_ret
  all_goals refine ⟨⟨Int.toNat _, ret_int (Int.toNat_of_nonneg ?_).symm, ?_, ?_⟩, rfl⟩
  all_goals omega
end Go.Proofs.Ythcaecinjmnlbab
