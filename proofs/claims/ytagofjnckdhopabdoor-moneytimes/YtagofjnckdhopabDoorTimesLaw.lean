/- THE WALK OF MoneyTimes. -/
import Derived.Test.YtagofjnckdhopabDoorMRuns
import Derived.Test.YtagofjnckdhopabDoorAppI
import Derived.Test.YtagofjnckdhopabDoorBookWithin
namespace Go.Proofs.YtagofjnckdhopabDoor
open Go.RowKit

theorem fit_in {a : Int} (h : (Lit.int .i64 a).wf = true) : Mn.Fit a := by
  simpa [Lit.wf, IntKind.min, IntKind.max, IntKind.signed, IntKind.bits, Mn.Fit] using h
theorem sum_times (a : Int) : ∀ (k j : Nat), Mn.Fit (a * j) → sumGo (a * j) (List.replicate k a) = (Mn.amt (a * (j + k : Nat)), Mn.err (a * (j + k : Nat)))
  | 0, j, h => by
    rw [Nat.add_zero, Mn.amt_fit h, Mn.err_fit h]
    rfl
  | k + 1, j, h => by
    rw [List.replicate_succ]
    have e : a * (j : Int) + a = a * ((j + 1 : Nat) : Int) := by
      rw [Int.natCast_add, Int.mul_add]
      simp
    by_cases hf : Mn.Fit (a * (j : Int) + a)
    · rw [sumGo_fit hf]
      rw [e] at hf ⊢
      rw [sum_times a k (j + 1) hf, show j + 1 + k = j + (k + 1) by omega]
    · rw [sumGo_not hf]
      have hn : ¬ Mn.Fit (a * ((j + (k + 1) : Nat) : Int)) := by
        rw [e] at hf
        intro hg
        apply hf
        unfold Mn.Fit at h hg ⊢
        rcases Int.le_total 0 a with ha | ha
        · have h1 : a * ((j + 1 : Nat) : Int) ≤ a * ((j + (k + 1) : Nat) : Int) := Int.mul_le_mul_of_nonneg_left (by omega) ha
          have h2 : 0 ≤ a * ((j + 1 : Nat) : Int) := Int.mul_nonneg ha (by omega)
          omega
        · have h1 : a * ((j + (k + 1) : Nat) : Int) ≤ a * ((j + 1 : Nat) : Int) := Int.mul_le_mul_of_nonpos_left ha (by omega)
          have h2 : a * ((j + 1 : Nat) : Int) ≤ 0 := Int.mul_nonpos_of_nonpos_of_nonneg ha (by omega)
          omega
      rw [Mn.amt_not hn, Mn.err_not hn]
theorem sum_all (a : Int) (k : Nat) : sumGo 0 (List.replicate k a) = (Mn.amt (a * (k : Int)), Mn.err (a * (k : Int))) := by
  have h := sum_times a k 0 ⟨by simp, by simp⟩
  rw [Nat.zero_add] at h
  rw [← h]
  simp
set_option maxHeartbeats 4000000 in
theorem moneyTimes_walk (a n : Int) (w : World) (ha : (Lit.int .i64 a).wf = true) (hn : (Lit.int .i64 n).wf = true) (ht : Tab w) :
    Calls Tryd.prog 3 #[.int .i64 a, .int .i64 n] w fun e w' => e = .returned (.bool true) ∧ Below w.heap.size w w' := by
  have HA := Lib.hid (fit_in ha)
  have hn' := fit_in hn
  have HT := Lib.hid ht
  clear ha hn ht
  go_enter Tryd.func3, Tryd.ntmps3
  go_wp2_with fail
  refine (bookWithin_any n 0 30 _ hn' (by omega) (by omega) (by omega)).mono ?_
  rintro e w0 ⟨⟨r, rfl, hr0, hr1⟩, hw0⟩
  subst hw0
  obtain ⟨m, rfl⟩ : ∃ m : Nat, r = m := ⟨r.toNat, by omega⟩
  have hm : m ≤ 30 := by omega
  clear hn' hr0 hr1
  go_wp2
  go_loopw [6, 7] (fun v i wr => ∃ k : Nat, k ≤ m ∧ i = .int .i64 k ∧ Hid (wr.ownsRow w0.heap.size 3 1 v k ((List.replicate k a).map iv)) ∧ Hid (Below w0.heap.size w0 wr)) (fun _ i _ => m - (intOf i).toNat)
  case atStart => exact ⟨0, Nat.zero_le _, rfl, World.ownsRow_nil _ _ _ _, Below.refl _ _⟩
  case round =>
    obtain ⟨k, hk, rfl, HO, HB⟩ := hrel
    by_cases hlt : k < m
    · have hlt' : (k : Int) < (m : Int) := by omega
      have HO2 : Hid (∀ o, (wr.alloc o).ownsRow w0.heap.size 3 1 u6 k ((List.replicate k a).map iv)) := fun o => HO.out.alloc o
      have hsz : w0.heap.size ≤ wr.heap.size := HB.out.size
      clear HO
      go_wp2_with (at_builtin; go_must (refine wpList_append_ints _ rfl (.tmp 19) (.tmp 21) rfl w0.heap.size k _ (List.replicate k a) rfl (HO2.out _) _ 1 1 [a] rfl rfl (fun h => by cases h) (seg_lit_ints wr [a]) (by omega) (by simp; omega) ?_))
      intro v' w1 hown hgrow
      rw [← List.replicate_succ'] at hown
      have HO3 : Hid (w1.ownsRow w0.heap.size 3 1 v' (k + 1) ((List.replicate (k + 1) a).map iv)) := by
        rw [List.map_replicate]
        exact hown
      have HB1 : Hid (Below w0.heap.size w0 w1) := Below.grown (HB.out.alloc hsz _) hgrow (by simp; omega) (fun j hj => ((HO2.out (.cells #[.int .i64 a] 3)).lt _ hj).1)
      clear hown hgrow
      go_wp2
      go_roundw
      case rel => exact ⟨k + 1, by omega, by go_num, HO3.out, HB1.out⟩
      case measure => simp [intOf]; omega
    · have hlt' : ¬ (k : Int) < (m : Int) := by omega
      obtain ⟨ao, cp, rfl, hl, hs, _⟩ := owns_seg HO.out
      have HS := Lib.hid hs
      have hkm : k = m := by omega
      subst hkm
      clear hs hl HO
      go_wp2_with fail
      refine (mul_any a _ _ HA.out ⟨by omega, by omega⟩).mono ?_
      rintro e w3 ⟨rfl, hw3⟩
      subst hw3
      obtain ⟨p1, p2, hp⟩ : ∃ p1 p2, (Mn.amt (a * (k : Int)), Mn.err (a * (k : Int))) = (p1, p2) := ⟨_, _, rfl⟩
      have HP := Lib.hid ((sum_all a k).trans hp)
      have h1 : Mn.amt (a * (k : Int)) = p1 := congrArg Prod.fst hp
      have h2 : Mn.err (a * (k : Int)) = p2 := congrArg Prod.snd hp
      rw [h1, h2]
      clear h1 h2 hp
      unfold both
      go_wp2_with fail
      refine (sum_any (List.replicate k a) _ _ _ _ (by simp) (by omega) (fun z hz => by rw [List.eq_of_mem_replicate hz]; exact HA.out) HS.out).mono ?_
      rintro e w4 ⟨rfl, hw4⟩
      subst hw4
      rw [HP.out]
      unfold both
      go_wp2_with fail
      refine (runs_from w0 _ HT.out HB.out).mono ?_
      rintro e w5 ⟨rfl, b5⟩
      have HB5 := Lib.hid b5
      clear b5
      go_wp2_with fail
      go_ret
      exact ⟨rfl, HB5.out⟩
end Go.Proofs.YtagofjnckdhopabDoor
