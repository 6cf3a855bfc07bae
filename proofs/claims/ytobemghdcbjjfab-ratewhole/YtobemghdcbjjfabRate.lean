/- CONTRACTS OF PACKAGE rate. -/
import Derived.Test.YtobemghdcbjjfabPlain
import Derived.Test.YtobemghdcbjjfabShr
namespace Go.Proofs.Ytobemghdcbjjfab
open Go.RowKit

theorem right_any (bp : Int) (w : World) (hb : Fit bp) :
    Calls Try.prog 9 #[.int .i64 bp] w fun e w' => e = .returned (.bool (decide (Sh.Right bp))) ∧ w' = w := by
  obtain ⟨hb0, hb1⟩ := hb
  go_enter Try.func9, Try.ntmps9
  by_cases h : Sh.Right bp
  · rw [decide_eq_true h]
    obtain ⟨h0, h1⟩ := h
    go_wp2
    go_ret
    exact ⟨rfl, rfl⟩
  · rw [decide_eq_false h]
    by_cases h0 : 0 ≤ bp
    · have h1 : ¬ bp ≤ 100000 := fun h1 => h ⟨h0, h1⟩
      clear h
      go_wp2
      go_ret
      exact ⟨rfl, rfl⟩
    · clear h
      go_wp2
      go_ret
      exact ⟨rfl, rfl⟩
/-- a share that is told -/
def told (s : Nat) : Int × Int := if s ≤ 9223372036854775807 then ((s : Int), 0) else (0, 7)
theorem told_fit {s : Nat} (h : s ≤ 9223372036854775807) : told s = ((s : Int), 0) := if_pos h
theorem told_not {s : Nat} (h : ¬ s ≤ 9223372036854775807) : told s = (0, 7) := if_neg h
set_option maxHeartbeats 1000000 in
theorem parts_any (u bp all : Nat) (w0 w : World) (hw : Below w0.heap.size w0 w) (hu : u ≤ 9223372036854775808) (hb : bp ≤ 100000) (ha0 : 10000 ≤ all) (ha1 : all ≤ 110000) :
    Calls Try.prog 12 #[.int .u64 u, .int .u64 bp, .int .u64 all] w fun e w' => e = both (told (Sh.sh u bp all)).1 (told (Sh.sh u bp all)).2 ∧ Below w0.heap.size w0 w' := by
  have hs := Sh.sh_split u bp all (by omega)
  have hl := Sh.last_le (u % all) bp all (Nat.mod_lt _ (by omega))
  have hq : (u : Int) / (all : Int) = ((u / all : Nat) : Int) := by omega
  have hr : (u : Int) % (all : Int) = ((u % all : Nat) : Int) := by omega
  have hr1 : u % all < all := Nat.mod_lt _ (by omega)
  have hm : (u % all) * bp ≤ 110000 * 100000 := Nat.mul_le_mul (by omega) hb
  have hq1 : u / all ≤ 922337203685477 := by
    rw [Nat.div_le_iff_le_mul_add_pred (by omega)]
    have : 10000 * 922337203685477 ≤ all * 922337203685477 := Nat.mul_le_mul_right _ ha0
    omega
  have hz : ((all : Int) == 0) = false := beq_eq_false_iff_ne.2 (by omega)
  have hz2 : ((2 * all : Int) == 0) = false := beq_eq_false_iff_ne.2 (by omega)
  generalize u / all = q at hs hq hq1
  generalize u % all = r at hs hl hr hr1 hm
  have hlast : (2 * (r : Int) * (bp : Int) + all) / (2 * (all : Int)) = (((2 * r * bp + all) / (2 * all) : Nat) : Int) := by push_cast; rfl
  generalize (2 * r * bp + all) / (2 * all) = l at hs hl hlast
  have hm2 : 2 * (r : Int) * (bp : Int) ≤ 22000000000 := by
    have h : ((r * bp : Nat) : Int) = (r : Int) * (bp : Int) := Int.natCast_mul _ _
    rw [Int.mul_assoc]
    omega
  have hm0 : 0 ≤ 2 * (r : Int) * (bp : Int) := Int.mul_nonneg (by omega) (by omega)
  have hp : ((q * bp : Nat) : Int) = (q : Int) * (bp : Int) := Int.natCast_mul _ _
  have HW := Lib.hid hw
  clear hm hw
  rw [hs]
  clear hs
  by_cases hf : q * bp + l ≤ 9223372036854775807
  · rw [told_fit hf]
    have hp0 : 0 ≤ (q : Int) * (bp : Int) := by omega
    have hp1 : (q : Int) * (bp : Int) ≤ 9223372036854775807 - l := by omega
    have HE : Hid ((q : Int) * (bp : Int) + l = ((q * bp + l : Nat) : Int)) := Lib.hid (by omega)
    have hc : 0 < bp → ¬ (9223372036854775807 - (l : Int)) / (bp : Int) < (q : Int) := by
      intro h0
      rw [Int.not_lt, Int.le_ediv_iff_mul_le (by omega)]
      exact hp1
    clear hf hp
    by_cases h0 : 0 < bp
    · have hc1 := hc h0
      clear hc
      go_enter Try.func12, Try.ntmps12
      go_wp2
      go_quiet (fail)
      go_wp2
      go_ret2
      exact ⟨both_eq HE.out rfl, below_drewN HW.out _⟩
    · clear hc
      go_enter Try.func12, Try.ntmps12
      go_wp2
      go_quiet (fail)
      go_wp2
      go_ret2
      exact ⟨both_eq HE.out rfl, below_drewN HW.out _⟩
  · rw [told_not hf]
    have h0 : 0 < bp := by
      refine Nat.pos_of_ne_zero fun h => ?_
      subst h
      omega
    have hc : (9223372036854775807 - (l : Int)) / (bp : Int) < (q : Int) := by
      rw [Int.ediv_lt_iff_lt_mul (by omega)]
      omega
    clear hf hp
    go_enter Try.func12, Try.ntmps12
    go_wp2
    go_quiet (fail)
    go_wp2
    go_ret2
    exact ⟨rfl, below_drewN HW.out _⟩
theorem told_pos (u bp all : Nat) : told (Sh.sh u bp all) = (Sh.val (u : Int) bp all, Sh.why (u : Int) bp all) := by
  unfold told Sh.val Sh.why Sh.side
  rw [Int.natAbs_natCast]
  split
  · rw [if_neg (by omega)]
  · rfl
theorem told_neg (u bp all : Nat) (hu : 0 < u) : (-(told (Sh.sh u bp all)).1, (told (Sh.sh u bp all)).2) = (Sh.val (-(u : Int)) bp all, Sh.why (-(u : Int)) bp all) := by
  unfold told Sh.val Sh.why Sh.side
  rw [Int.natAbs_neg, Int.natAbs_natCast]
  split
  · rw [if_pos (by omega)]
  · rfl
theorem told_fst (s : Nat) : 0 ≤ (told s).1 ∧ (told s).1 ≤ 9223372036854775807 := by
  unfold told
  split
  · exact ⟨by simp, by simp; omega⟩
  · exact ⟨by simp, by simp⟩
theorem wrap_turn (u : Nat) (h : u ≤ 9223372036854775808) : IntKind.u64.wrap (-IntKind.u64.wrap (-(u : Int))) = u := by
  rw [IntKind.wrap_u64, IntKind.wrap_u64]
  omega
set_option maxHeartbeats 1000000 in
theorem share_any (n : Int) (bp all : Nat) (w0 w : World) (hw : Below w0.heap.size w0 w) (hn : Fit n) (hb : bp ≤ 100000) (ha0 : 10000 ≤ all) (ha1 : all ≤ 110000) :
    Calls Try.prog 10 #[.int .i64 n, .int .u64 bp, .int .u64 all] w fun e w' => e = both (Sh.val n bp all) (Sh.why n bp all) ∧ Below w0.heap.size w0 w' := by
  have HW := Lib.hid hw
  clear hw
  obtain ⟨hn0, hn1⟩ := hn
  by_cases h : 0 ≤ n
  · obtain ⟨u, rfl⟩ : ∃ u : Nat, n = u := ⟨n.toNat, by omega⟩
    have HT := Lib.hid (told_pos u bp all)
    go_enter Try.func10, Try.ntmps10
    go_wp2_with fail
    refine (parts_any u bp all w0 _ HW.out (by omega) hb ha0 ha1).mono ?_
    rintro e w1 ⟨rfl, b1⟩
    have HB1 := Lib.hid b1
    clear b1
    rw [HT.out]
    unfold both
    go_wp2_with fail
    go_ret2
    exact ⟨rfl, HB1.out⟩
  · obtain ⟨u, rfl⟩ : ∃ u : Nat, n = -(u : Int) := ⟨n.natAbs, by omega⟩
    have hu : 0 < u := by omega
    have HT := Lib.hid (told_neg u bp all hu)
    obtain ⟨t0, t1⟩ := told_fst (Sh.sh u bp all)
    go_enter Try.func10, Try.ntmps10
    go_wp2_with fail
    rw [wrap_turn u (by omega)]
    refine (parts_any u bp all w0 _ HW.out (by omega) hb ha0 ha1).mono ?_
    rintro e w1 ⟨rfl, b1⟩
    have HB1 := Lib.hid b1
    clear b1
    obtain ⟨⟨p1, p2⟩, hp⟩ : ∃ p, told (Sh.sh u bp all) = p := ⟨_, rfl⟩
    have HP := Lib.hid (hp ▸ HT.out)
    rw [hp] at t0 t1 ⊢
    clear HT hp
    unfold both
    go_wp2_with fail
    go_ret2
    exact ⟨both_eq (congrArg Prod.fst HP.out) (congrArg Prod.snd HP.out), HB1.out⟩
theorem right_if {bp : Int} (h : Sh.Right bp) (n : Int) : both (Sh.taxV n bp) (Sh.taxE n bp) = both (Sh.val n bp.toNat 10000) (Sh.why n bp.toNat 10000) ∧ both (Sh.inV n bp) (Sh.inE n bp) = both (Sh.val n bp.toNat (10000 + bp.toNat)) (Sh.why n bp.toNat (10000 + bp.toNat)) := by
  unfold Sh.taxV Sh.taxE Sh.inV Sh.inE
  rw [if_pos h, if_pos h, if_pos h, if_pos h]
  exact ⟨rfl, rfl⟩
theorem right_not {bp : Int} (h : ¬ Sh.Right bp) (n : Int) : both (Sh.taxV n bp) (Sh.taxE n bp) = both 0 1 ∧ both (Sh.inV n bp) (Sh.inE n bp) = both 0 1 := by
  unfold Sh.taxV Sh.taxE Sh.inV Sh.inE
  rw [if_neg h, if_neg h, if_neg h, if_neg h]
  exact ⟨rfl, rfl⟩
set_option maxHeartbeats 1000000 in
theorem tax_any (n bp : Int) (w0 w : World) (hw : Below w0.heap.size w0 w) (hn : Fit n) (hb : Fit bp) :
    Calls Try.prog 6 #[.int .i64 n, .int .i64 bp] w fun e w' => e = both (Sh.taxV n bp) (Sh.taxE n bp) ∧ Below w0.heap.size w0 w' := by
  have HW := Lib.hid hw
  have HN := Lib.hid hn
  have HB := Lib.hid hb
  clear hw hn hb
  by_cases h : Sh.Right bp
  · rw [(right_if h n).1]
    obtain ⟨u, rfl⟩ : ∃ u : Nat, bp = u := ⟨bp.toNat, by unfold Sh.Right at h; omega⟩
    have hu : u ≤ 100000 := by unfold Sh.Right at h; omega
    rw [Int.toNat_natCast]
    go_enter Try.func6, Try.ntmps6
    go_wp2_with fail
    refine (right_any u _ HB.out).mono ?_
    rintro e w1 ⟨rfl, hw1⟩
    subst hw1
    rw [decide_eq_true h]
    clear h
    go_wp2_with fail
    refine (share_any n u 10000 w0 _ HW.out HN.out hu (by omega) (by omega)).mono ?_
    rintro e w1 ⟨rfl, b1⟩
    have HB1 := Lib.hid b1
    clear b1
    unfold both
    go_wp2_with fail
    go_ret2
    exact ⟨rfl, HB1.out⟩
  · rw [(right_not h n).1]
    go_enter Try.func6, Try.ntmps6
    go_wp2_with fail
    refine (right_any bp _ HB.out).mono ?_
    rintro e w1 ⟨rfl, hw1⟩
    subst hw1
    rw [decide_eq_false h]
    clear h
    go_wp2_with fail
    go_ret2
    exact ⟨rfl, HW.out⟩
set_option maxHeartbeats 1000000 in
theorem within_any (n bp : Int) (w0 w : World) (hw : Below w0.heap.size w0 w) (hn : Fit n) (hb : Fit bp) :
    Calls Try.prog 8 #[.int .i64 n, .int .i64 bp] w fun e w' => e = both (Sh.inV n bp) (Sh.inE n bp) ∧ Below w0.heap.size w0 w' := by
  have HW := Lib.hid hw
  have HN := Lib.hid hn
  have HB := Lib.hid hb
  clear hw hn hb
  by_cases h : Sh.Right bp
  · rw [(right_if h n).2]
    obtain ⟨u, rfl⟩ : ∃ u : Nat, bp = u := ⟨bp.toNat, by unfold Sh.Right at h; omega⟩
    have hu : u ≤ 100000 := by unfold Sh.Right at h; omega
    rw [Int.toNat_natCast]
    go_enter Try.func8, Try.ntmps8
    go_wp2_with fail
    refine (right_any u _ HB.out).mono ?_
    rintro e w1 ⟨rfl, hw1⟩
    subst hw1
    rw [decide_eq_true h]
    clear h
    go_wp2_with fail
    refine (share_any n u (10000 + u) w0 _ HW.out HN.out hu (by omega) (by omega)).mono ?_
    rintro e w1 ⟨rfl, b1⟩
    have HB1 := Lib.hid b1
    clear b1
    unfold both
    go_wp2_with fail
    go_ret2
    exact ⟨rfl, HB1.out⟩
  · rw [(right_not h n).2]
    go_enter Try.func8, Try.ntmps8
    go_wp2_with fail
    refine (right_any bp _ HB.out).mono ?_
    rintro e w1 ⟨rfl, hw1⟩
    subst hw1
    rw [decide_eq_false h]
    clear h
    go_wp2_with fail
    go_ret2
    exact ⟨rfl, HW.out⟩
end Go.Proofs.Ytobemghdcbjjfab
