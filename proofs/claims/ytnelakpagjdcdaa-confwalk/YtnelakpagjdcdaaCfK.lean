/- ConfWalk, walked. -/
import Derived.Test.YtnelakpagjdcdaaCfR
import Derived.Test.YtnelakpagjdcdaaBookIn
set_option maxRecDepth 100000
set_option linter.unusedVariables false
namespace Go.Proofs.Ytnelakpagjdcdaa
open Go.RowKit
open Mem Cf

theorem Cf.in_of {r : Nat} (h0 : (1 : Int) ≤ r) (h1 : (r : Int) ≤ 127) : In (r : Int) := ⟨by omega, by omega⟩
theorem Cf.pow_wrap : ∀ k : Nat, k < 7 → wrap64 ((2 : Int) ^ k) = ((2 ^ k : Nat) : Int) := by
  intro k hk
  have h : k = 0 ∨ k = 1 ∨ k = 2 ∨ k = 3 ∨ k = 4 ∨ k = 5 ∨ k = 6 := by omega
  unfold wrap64
  rcases h with rfl | rfl | rfl | rfl | rfl | rfl | rfl <;> decide
set_option maxHeartbeats 2000000 in
theorem confWalk_walk (a b : Int) (w : World) (h0 : (Lit.int .i64 a).wf = true) (h1 : (Lit.int .i64 b).wf = true) :
    Calls Try.prog 7 #[.int .i64 a, .int .i64 b] w fun e w' => e = .returned (.bool true) ∧ Below w.heap.size w w' := by
  have H0 := fit_in h0
  have H1 := fit_in h1
  have CA := Lib.hid (bookWithin_any a 1 127 w H0 (by omega) (by omega) (by omega))
  have CB := Lib.hid (bookWithin_any b 1 127 w H1 (by omega) (by omega) (by omega))
  clear h0 h1 H0 H1
  go_enter Try.func7, Try.ntmps7
  go_wp2_with fail
  refine CA.out.mono ?_
  rintro e u ⟨⟨m, rfl, m1, m2⟩, hu⟩
  rw [hu]
  clear hu u
  go_wp2_with fail
  refine CB.out.mono ?_
  rintro e u ⟨⟨n, rfl, n1, n2⟩, hu⟩
  rw [hu]
  clear hu u CA CB
  obtain ⟨M, hM⟩ : ∃ M : Int, (m : Int) = M := ⟨_, rfl⟩
  obtain ⟨N, hN⟩ : ∃ N : Int, (n : Int) = N := ⟨_, rfl⟩
  have hm := Cf.in_of m1 m2
  have hn := Cf.in_of n1 n2
  rw [hM] at hm m1 m2 ⊢
  rw [hN] at hn n1 n2 ⊢
  clear hM hN m n
  have HIM := Lib.hid hm
  have HIN := Lib.hid hn
  clear hm hn
  go_wp2_with fail
  go_loopw [5, 7, 8] (fun v t i wr => ∃ (k s : Nat) (x : Int), wr = w ∧ k ≤ 7 ∧ i = .int .i64 k ∧ v = .int .i64 x ∧ t = .int .i64 s ∧ Hid (At1 M N k x s) ∧ s ≤ k) (fun _ _ i _ => 7 - (intOf i).toNat)
  case atStart => exact ⟨0, 0, M, rfl, by omega, rfl, rfl, rfl, Lib.hid (at1_none HIM.out m1), by omega⟩
  case round =>
    obtain ⟨k, s, x, rfl, hk, rfl, rfl, rfl, HT, hs⟩ := hrel
    by_cases hlt : k < 7
    · have hlt' : (k : Int) < 7 := by omega
      have CN := Lib.hid (cf_has N k wr)
      have CV := Lib.hid (cf_has x k wr)
      rw [hasB_at _ k hlt] at CN CV
      cases hq : has N k
      · have HT1 := Lib.hid (at1_no hlt HT.out (fun h => by rw [hq] at h; cases h))
        rw [hq] at CN
        clear hq HT CV
        go_wp2_with fail
        refine CN.out.mono ?_
        rintro e u ⟨rfl, hu⟩
        rw [hu]
        clear hu u
        go_wp2_with fail
        go_roundw
        case rel => exact ⟨k + 1, s, x, trivial, by omega, by go_num, rfl, rfl, HT1, by omega⟩
        case measure => simp [intOf]; omega
      · cases hv : has x k
        · obtain ⟨h2, h3⟩ := at1_yes hlt HT.out hq hv
          rw [← Cf.pow_wrap k hlt] at h2 h3
          have HT1 := Lib.hid h2
          have CM := Lib.hid (may_is _ _ _ h3 wr)
          rw [hq] at CN
          rw [hv] at CV
          clear hq hv HT h2 h3
          go_wp2_with fail
          refine CN.out.mono ?_
          rintro e u ⟨rfl, hu⟩
          rw [hu]
          clear hu u
          go_wp2_with fail
          refine CV.out.mono ?_
          rintro e u ⟨rfl, hu⟩
          rw [hu]
          clear hu u
          go_wp2_with fail
          refine CM.out.mono ?_
          rintro e u ⟨rfl, hu⟩
          rw [hu]
          clear hu u
          go_wp2_with fail
          go_roundw
          case rel => exact ⟨k + 1, s + 1, _, trivial, by omega, by go_num, rfl, by go_num, HT1, by omega⟩
          case measure => simp [intOf]; omega
        · have HT1 := Lib.hid (at1_no hlt HT.out (fun _ => hv))
          rw [hq] at CN
          rw [hv] at CV
          clear hq hv HT
          go_wp2_with fail
          refine CN.out.mono ?_
          rintro e u ⟨rfl, hu⟩
          rw [hu]
          clear hu u
          go_wp2_with fail
          refine CV.out.mono ?_
          rintro e u ⟨rfl, hu⟩
          rw [hu]
          clear hu u
          go_wp2_with fail
          go_roundw
          case rel => exact ⟨k + 1, s, x, trivial, by omega, by go_num, rfl, rfl, HT1, by omega⟩
          case measure => simp [intOf]; omega
    · have hlt' : ¬ (k : Int) < 7 := by omega
      have HT2 : Hid (At2 M N 0 x s) := Lib.hid (at2_none (by
        have := HT.out
        rwa [show k = 7 by omega] at this))
      have hs7 : s ≤ 7 := by omega
      clear HT
      go_wp2_with fail
      go_loopw [5, 7, 9] (fun v t i wz => ∃ (k u : Nat) (y : Int), wz = wr ∧ k ≤ 7 ∧ i = .int .i64 k ∧ v = .int .i64 y ∧ t = .int .i64 u ∧ Hid (At2 M N k y u) ∧ u ≤ 7 + k) (fun _ _ i _ => 7 - (intOf i).toNat)
      case atStart => exact ⟨0, s, x, rfl, by omega, rfl, rfl, rfl, HT2, by omega⟩
      case round =>
        clear HT2 hs hk hlt hlt' hs7
        obtain ⟨k, s, x, rfl, hk, rfl, rfl, rfl, HT, hs⟩ := hrel
        by_cases hlt : k < 7
        · have hlt' : (k : Int) < 7 := by omega
          have CN := Lib.hid (cf_has N k wr)
          have CV := Lib.hid (cf_has x k wr)
          rw [hasB_at _ k hlt] at CN CV
          cases hv : has x k
          · have HT1 := Lib.hid (at2_no hlt HT.out (fun h => by rw [hv] at h; cases h))
            rw [hv] at CV
            clear hv HT CN
            go_wp2_with fail
            refine CV.out.mono ?_
            rintro e u ⟨rfl, hu⟩
            rw [hu]
            clear hu u
            go_wp2_with fail
            go_roundw
            case rel => exact ⟨k + 1, s, x, trivial, by omega, by go_num, rfl, rfl, HT1, by omega⟩
            case measure => simp [intOf]; omega
          · cases hq : has N k
            · obtain ⟨h2, h3⟩ := at2_yes HIN.out n1 hlt HT.out hv hq
              rw [← Cf.pow_wrap k hlt] at h2 h3
              have HT1 := Lib.hid h2
              have CM := Lib.hid (may_is _ _ _ h3 wr)
              rw [hq] at CN
              rw [hv] at CV
              clear hq hv HT h2 h3
              go_wp2_with fail
              refine CV.out.mono ?_
              rintro e u ⟨rfl, hu⟩
              rw [hu]
              clear hu u
              go_wp2_with fail
              refine CN.out.mono ?_
              rintro e u ⟨rfl, hu⟩
              rw [hu]
              clear hu u
              go_wp2_with fail
              refine CM.out.mono ?_
              rintro e u ⟨rfl, hu⟩
              rw [hu]
              clear hu u
              go_wp2_with fail
              go_roundw
              case rel => exact ⟨k + 1, s + 1, _, trivial, by omega, by go_num, rfl, by go_num, HT1, by omega⟩
              case measure => simp [intOf]; omega
            · have HT1 := Lib.hid (at2_no hlt HT.out (fun _ => hq))
              rw [hq] at CN
              rw [hv] at CV
              clear hq hv HT
              go_wp2_with fail
              refine CV.out.mono ?_
              rintro e u ⟨rfl, hu⟩
              rw [hu]
              clear hu u
              go_wp2_with fail
              refine CN.out.mono ?_
              rintro e u ⟨rfl, hu⟩
              rw [hu]
              clear hu u
              go_wp2_with fail
              go_roundw
              case rel => exact ⟨k + 1, s, x, trivial, by omega, by go_num, rfl, rfl, HT1, by omega⟩
              case measure => simp [intOf]; omega
        · obtain rfl : k = 7 := by omega
          obtain ⟨e1, e2⟩ := at2_end HIN.out HT.out
          subst e1
          have hle : (s : Int) ≤ 7 := by omega
          have CC := Lib.hid (cf_count x wr)
          have CR := Lib.hid (conf_runs wr wr (Below.refl _ _))
          have e3 := beq_self_eq_true (cnt x : Int)
          have e4 := beq_self_eq_true x
          clear HT
          go_wp2_with fail
          refine CC.out.mono ?_
          rintro e u ⟨rfl, hu⟩
          rw [hu]
          clear hu u
          go_wp2_with fail
          refine CC.out.mono ?_
          rintro e u ⟨rfl, hu⟩
          rw [hu]
          clear hu u
          go_wp2_with fail
          refine CR.out.mono ?_
          rintro e w3 ⟨rfl, hb⟩
          have HB3 := Lib.hid hb
          clear hb
          go_wp2_with fail
          go_ret
          exact ⟨rfl, HB3.out⟩
end Go.Proofs.Ytnelakpagjdcdaa
