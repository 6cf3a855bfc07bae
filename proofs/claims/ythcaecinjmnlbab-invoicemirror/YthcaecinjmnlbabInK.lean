/- CONTRACTS OF PACKAGE invoice: clone, turn. -/
import Derived.Test.YthcaecinjmnlbabHb
import Derived.Test.YthcaecinjmnlbabHc
import Derived.Test.YthcaecinjmnlbabHg
set_option linter.unusedVariables false
namespace Go.Proofs.Ythcaecinjmnlbab
open Go.RowKit
open Mem

theorem inv_clone (rs : List Pt.T) (ao : Option Addr) (n cap : Nat) (w : World) (hR : Pt.Ls w ao n cap rs) (hn : n ≤ 1000) :
    Calls Try.prog 18 #[.slice ao n cap] w fun e w' => e = .returned (.slice (some ⟨w.heap.size, 0, none⟩) n n) ∧ Pt.Block w' w.heap.size rs ∧ Below w.heap.size w w' := by
  have HR := Lib.hid hR
  have hcap := hR.reach
  have hfit := hR.fits
  have hmk := Pt.make n (by omega)
  have hblk0 := Pt.block_made w n
  have hbel0 : Below w.heap.size w (w.alloc (.cells (Pt.zeros n) 55)) := (Below.refl _ _).alloc (Nat.le_refl _) _
  obtain ⟨W1, hcp, hblk, hbel, hsz⟩ := Pt.copy (w.alloc (.cells (Pt.zeros n) 55)) w.heap.size [] n ao n cap rs (by rw [List.append_nil]; exact hblk0) hR.len ((hR.below hbel0).seg)
  rw [List.length_nil, Nat.add_zero] at hcp
  rw [List.append_nil] at hblk
  have HB1 := Lib.hid (hbel _ _ hbel0 (Nat.le_refl _))
  have HBk := Lib.hid hblk
  clear hblk hbel hblk0 hbel0 hR
  go_enter Try.func18, Try.ntmps18
  go_wp2
  go_ret
  exact ⟨rfl, HBk.out, HB1.out⟩
theorem sub0 (x : Int) (w : World) (hx : Fit x) : Calls Try.prog 33 #[.int .i64 0, .int .i64 x] w fun e w' => e = both (Mn.amt (-x)) (Mn.err (-x)) ∧ w' = w := by
  have h := sub_any 0 x w (by decide) hx
  rw [Int.zero_sub] at h
  exact h
/-- what 'turn' answers: amounts of one block taken off 0, one behind the other -/
def TurnE (n : Nat) (v : Nat → Int) (W : Nat → World) (e : Ending) (w' : World) : Prop :=
  ((∀ k, k < n → Mn.err (-(v k)) = 0) ∧ e = .returned (.int .i64 0) ∧ w' = W n) ∨ (∃ k, k < n ∧ Mn.err (-(v k)) ≠ 0 ∧ e = .returned (.int .i64 7) ∧ w' = W k)
set_option maxHeartbeats 2000000 in
theorem inv_turn (vb g n : Nat) (o : Nat → Nat) (v : Nat → Int) (W : Nat → World) (hn : n ≤ 3)
    (hp : ∀ k, k < n → (W k).cell? ⟨vb, k, none⟩ = some (.pointer (some ⟨g, o k, none⟩))) (hc : ∀ k, k < n → (W k).cell? ⟨g, o k, none⟩ = some (.int .i64 (v k))) (hf : ∀ k, k < n → (W k).frozen? ⟨g, o k, none⟩ = false)
    (hs : ∀ k, k < n → (W k).setCell ⟨g, o k, none⟩ (.int .i64 (-(v k))) = W (k + 1)) (hv : ∀ k, k < n → Fit (v k)) :
    Calls Try.prog 19 #[.slice (some ⟨vb, 0, none⟩) n n] (W 0) (TurnE n v W) := by
  have HP := Lib.hid hp
  have HC := Lib.hid hc
  have HF := Lib.hid hf
  have HS := Lib.hid hs
  have HV := Lib.hid hv
  clear hp hc hf hs hv
  go_enter Try.func19, Try.ntmps19
  go_wp2_with fail
  go_loopw [4, 5, 6, 9] (fun _ _ _ i wr => ∃ k : Nat, k ≤ n ∧ i = .int .i64 k ∧ wr = W k ∧ Hid (∀ j, j < k → Mn.err (-(v j)) = 0)) (fun _ _ _ i _ => n - (intOf i).toNat)
  case atStart => exact ⟨0, by omega, rfl, rfl, Lib.hid fun j hj => by omega⟩
  case round =>
    obtain ⟨k, hk, rfl, hwr, HE⟩ := hrel
    by_cases hlt : k < n
    · have h1 := HP.out k hlt
      have h2 := HC.out k hlt
      have h3 := HF.out k hlt
      have HS1 := Lib.hid (HS.out k hlt)
      have HV1 := Lib.hid (HV.out k hlt)
      rw [← hwr] at h1 h2 h3 HS1
      have HWr := Lib.hid hwr
      obtain ⟨x, hx⟩ : ∃ x, v k = x := ⟨_, rfl⟩
      obtain ⟨p, hop⟩ : ∃ p, o k = p := ⟨_, rfl⟩
      have HX := Lib.hid hx
      rw [hx] at h2 HS1 HV1
      rw [hop] at h1 h2 h3 HS1
      clear hwr hx hop
      go_wp2_with fail
      refine (sub0 x _ HV1.out).mono ?_
      rintro e w1 ⟨rfl, hw1⟩
      subst hw1
      unfold both
      rcases Mn.err_two (-x) with e1 | e1
      · have HE1 := Lib.hid e1
        rw [e1, Mn.amt_fit (Iv.err_0 e1)]
        clear e1
        go_wp2_with fail
        go_roundw
        case rel =>
          refine ⟨k + 1, by omega, by go_num, HS1.out, Lib.hid fun j hj => ?_⟩
          by_cases e : j < k
          · exact HE.out j e
          · obtain rfl : j = k := by omega
            rw [HX.out]
            exact HE1.out
        case measure => simp [intOf]; omega
      · have HE1 := Lib.hid e1
        rw [e1]
        clear e1
        go_wp2_with fail
        go_ret
        exact .inr ⟨k, hlt, by rw [HX.out, HE1.out]; omega, rfl, HWr.out⟩
    · obtain rfl : k = n := by omega
      have HWr := Lib.hid hwr
      clear hwr
      go_wp2_with fail
      go_ret
      exact .inl ⟨HE.out, rfl, HWr.out⟩
end Go.Proofs.Ythcaecinjmnlbab
