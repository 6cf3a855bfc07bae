/- CONTRACTS OF THE BOOK OF MEMORY: Within, Same, Intact. -/
import Derived.Test.YtehdhhmaijogbaaSeg
namespace Go.Proofs.Ytehdhhmaijogbaa
open Go.RowKit

/-- Within: a number in the bounds -/
theorem within_any (n lo hi : Int) (w : World) (_hn : -9223372036854775808 ≤ n ∧ n ≤ 9223372036854775807) (h0 : 0 ≤ lo) (h1 : lo ≤ hi) (h2 : hi ≤ 4611686018427387904) :
    Calls Try.prog 17 #[.int .i64 n, .int .i64 lo, .int .i64 hi] w fun e w' => (∃ r : Int, e = .returned (.int .i64 r) ∧ lo ≤ r ∧ r ≤ hi) ∧ w' = w := by
  have a1 : n.tmod (hi - lo + 1) < hi - lo + 1 := Int.tmod_lt_of_pos _ (by omega)
  have a2 : -(hi - lo + 1) < n.tmod (hi - lo + 1) := by
    have := Int.tmod_lt_of_pos (-n) (show 0 < hi - lo + 1 by omega)
    rw [Int.neg_tmod] at this
    omega
  go_enter Try.func17, Try.ntmps17
  go_wp2
  all_goals go_ret
  all_goals exact ⟨⟨_, rfl, by omega, by omega⟩, rfl⟩

theorem take_snoc {xs ys : List UInt8} {k : Nat} (h : xs.take k = ys.take k) (ha : k < xs.length) (hb : k < ys.length) (e : xs[k] = ys[k]) : xs.take (k + 1) = ys.take (k + 1) := by
  rw [List.take_succ_eq_append_getElem ha, List.take_succ_eq_append_getElem hb, h, e]
set_option maxHeartbeats 400000 in
theorem same_core (xs ys : List UInt8) (a oa b ob n m ca cb : Nat) (w : World) (hn : n = xs.length) (hm : m = ys.length) (he : n = m) (hl : n ≤ 9223372036854775807)
    (hca : ∀ k (hk : k < xs.length), w.cell? ⟨a, oa + k, none⟩ = some (.int .u8 (xs[k].toNat : Int)))
    (hcb : ∀ k (hk : k < ys.length), w.cell? ⟨b, ob + k, none⟩ = some (.int .u8 (ys[k].toNat : Int))) :
    Calls Try.prog 12 #[.slice (some ⟨a, oa, none⟩) n ca, .slice (some ⟨b, ob, none⟩) m cb] w fun e w' => e = .returned (.bool (decide (xs = ys))) ∧ Below w.heap.size w w' := by
  subst he
  have HN : Hid (n = xs.length) := hn
  have HM : Hid (n = ys.length) := hm
  clear hn hm
  go_enter Try.func12, Try.ntmps12
  go_wp2
  go_loopw [5] (fun i wr => ∃ k : Nat, k ≤ n ∧ i = .int .i64 k ∧ Hid (xs.take k = ys.take k) ∧ Below w.heap.size w wr) (fun i _ => n - (intOf i).toNat)
  case atStart => exact ⟨0, Nat.zero_le _, rfl, rfl, Below.refl _ _⟩
  case round =>
    obtain ⟨k, hk, rfl, HT, hb⟩ := hrel
    by_cases hlt : k < n
    · have hka : k < xs.length := by have := HN.out; omega
      have hkb : k < ys.length := by have := HM.out; omega
      have c1 := (hb.cell (p := ⟨a, oa + k, none⟩) (lt_of_cell (hca k hka))).trans (hca k hka)
      have c2 := (hb.cell (p := ⟨b, ob + k, none⟩) (lt_of_cell (hcb k hkb))).trans (hcb k hkb)
      have HB : Hid (Below w.heap.size w wr) := hb
      clear hb hca hcb
      have hlt' : (k : Int) < (n : Int) := by omega
      by_cases hxy : xs[k] = ys[k]
      · have HT' : Hid (xs.take (k + 1) = ys.take (k + 1)) := take_snoc HT.out hka hkb hxy
        have hne : ((xs[k].toNat : Int) != (ys[k].toNat : Int)) = false := by rw [hxy]; simp
        clear hxy
        generalize xs[k] = x at *
        generalize ys[k] = y at *
        go_wp2
        go_quiet (fail)
        go_wp2
        go_roundw
        case rel => exact ⟨k + 1, by omega, by go_num, HT', below_drewN HB.out _⟩
        case measure => simp [intOf]; omega
      · have hne : ((xs[k].toNat : Int) != (ys[k].toNat : Int)) = true := by
          rw [bne_iff_ne]
          intro h
          exact hxy (UInt8.toNat_inj.1 (by omega))
        have HF : Hid (decide (xs = ys) = false) := by
          show _ = _
          rw [decide_eq_false_iff_not]
          intro h
          subst h
          exact hxy rfl
        clear hxy
        generalize xs[k] = x at *
        generalize ys[k] = y at *
        go_wp2
        go_quiet (fail)
        go_wp2
        go_ret
        exact ⟨by rw [HF.out]; rfl, below_drewN HB.out _⟩
    · have HF : Hid (decide (xs = ys) = true) := by
        show _ = _
        rw [decide_eq_true_iff]
        have h1 := HT.out
        have h2 := HN.out
        have h3 := HM.out
        rwa [List.take_of_length_le (by omega), List.take_of_length_le (by omega)] at h1
      clear hca hcb
      go_wp2
      go_ret
      exact ⟨by rw [HF.out]; rfl, hb⟩
set_option maxHeartbeats 400000 in
theorem same_empty (ao bo : Option Addr) (ca cb : Nat) (w : World) :
    Calls Try.prog 12 #[.slice ao 0 ca, .slice bo 0 cb] w fun e w' => e = .returned (.bool true) ∧ Below w.heap.size w w' := by
  go_enter Try.func12, Try.ntmps12
  go_wp2
  refine wp_loop_rounds 1 ?_
  rw [rounds_succ]
  go_wp2
  go_ret
  exact ⟨rfl, Below.refl _ _⟩
set_option maxHeartbeats 400000 in
theorem same_len (ao bo : Option Addr) (n m ca cb : Nat) (w : World) (h : n ≠ m) (_h1 : n ≤ 9223372036854775807) (_h2 : m ≤ 9223372036854775807) :
    Calls Try.prog 12 #[.slice ao n ca, .slice bo m cb] w fun e w' => e = .returned (.bool false) ∧ Below w.heap.size w w' := by
  have hne : ((n : Int) != (m : Int)) = true := by rw [bne_iff_ne]; omega
  go_enter Try.func12, Try.ntmps12
  go_wp2
  go_ret
  exact ⟨rfl, Below.refl _ _⟩
theorem same_any (xs ys : List UInt8) (ao bo : Option Addr) (n m ca cb : Nat) (w : World) (hn : n = xs.length) (hm : m = ys.length) (h1 : n ≤ 9223372036854775807) (h2 : m ≤ 9223372036854775807)
    (ha : Seg w ao xs) (hb : Seg w bo ys) :
    Calls Try.prog 12 #[.slice ao n ca, .slice bo m cb] w fun e w' => e = .returned (.bool (decide (xs = ys))) ∧ Below w.heap.size w w' := by
  by_cases he : n = m
  · rcases ha with rfl | ⟨a, oa, rfl, hca⟩
    · have hb0 : ys = [] := List.length_eq_zero_iff.1 (by simp at hn; omega)
      subst hb0
      simp only [List.length_nil] at hn hm
      subst hn hm
      exact same_empty ao bo ca cb w
    · rcases hb with rfl | ⟨b, ob, rfl, hcb⟩
      · have ha0 : xs = [] := List.length_eq_zero_iff.1 (by simp at hm; omega)
        subst ha0
        simp only [List.length_nil] at hn hm
        subst hn hm
        exact same_empty _ bo ca cb w
      · exact same_core xs ys a oa b ob n m ca cb w hn hm he h1 hca hcb
  · have hf : decide (xs = ys) = false := by
      rw [decide_eq_false_iff_not]
      intro h
      subst h
      omega
    rw [hf]
    exact same_len ao bo n m ca cb w he h1 h2
end Go.Proofs.Ytehdhhmaijogbaa
