/- THE DOCUMENT's OWN ANSWER: what impostref8's Put needs: short, day; Num and Text as steps. -/
import Derived.Test.YtndfhnaafaijcaaMGt
import Derived.Test.YtndfhnaafaijcaaMGe
set_option linter.unusedVariables false
set_option maxRecDepth 100000
namespace Go.Proofs.Ytndfhnaafaijcaa
open Go.RowKit
open Mem Pk Cm

theorem nmLe (n : Int) : (nm n).length ≤ 10 := vbF_len 10 _
theorem txLe (s : ByteArray) : (tx s).length ≤ 10 + s.size := by
  unfold tx
  rw [List.length_append, txt_len]
  have := nmLe (s.size : Int)
  omega
/-- bytes of the call's own, as a step hands them on -/
theorem rnum (bs : List UInt8) (n : Int) (hn : Fit n) (ao : Option Addr) (m cap : Nat) (w : World) (hL : By.Ls w ao m cap bs) (hm : m ≤ 1000000) :
    Calls Try.prog 39 #[.slice ao m cap, .int .i64 n] w fun e w' => (∃ a' N c', e = .returned (.slice a' N c') ∧ By.Ls w' a' N c' (bs ++ nm n) ∧ N ≤ m + 10) ∧ Below w.heap.size w w' := by
  refine (ref_num bs n hn ao m cap w hL (by omega)).mono ?_
  rintro e w' ⟨⟨sv, rfl, ho⟩, hb⟩
  obtain ⟨a', c', rfl, hl, _⟩ := By.own_ls ho
  refine ⟨⟨a', _, c', rfl, hl, ?_⟩, hb⟩
  have := nmLe n
  unfold nm at this
  rw [List.length_append, ← hL.len]
  omega
theorem rtext (bs : List UInt8) (s : ByteArray) (hs : s.size ≤ 64) (ao : Option Addr) (m cap : Nat) (w : World) (hL : By.Ls w ao m cap bs) (hm : m ≤ 1000000) :
    Calls Try.prog 41 #[.slice ao m cap, .string s] w fun e w' => (∃ a' N c', e = .returned (.slice a' N c') ∧ By.Ls w' a' N c' (bs ++ tx s) ∧ N ≤ m + 74) ∧ Below w.heap.size w w' := by
  refine (ref_text bs s (by omega) ao m cap w hL (by omega)).mono ?_
  rintro e w' ⟨⟨sv, rfl, ho⟩, hb⟩
  obtain ⟨a', c', rfl, hl, _⟩ := By.own_ls ho
  have e1 : bs ++ vb (zz (s.size : Int)) ++ txt s = bs ++ tx s := by unfold tx nm; rw [List.append_assoc]
  rw [e1] at hl ⊢
  refine ⟨⟨a', _, c', rfl, hl, ?_⟩, hb⟩
  have := txLe s
  rw [List.length_append, ← hL.len]
  omega
/-- short over texts that lie one behind the other -/
theorem rshort (l : List ByteArray) (g n : Nat) (w : World) (hn : n = l.length) (hn9 : n ≤ 10) (hc : ∀ (k : Nat) (hk : k < l.length), w.cell? ⟨g, k, none⟩ = some (.string l[k])) :
    Calls Try.prog 40 #[.slice (some ⟨g, 0, none⟩) n n] w fun e w' => e = .returned (.bool (l.all fun s => !longT s)) ∧ w' = w := by
  have HN := Lib.hid hn
  have HC := Lib.hid hc
  clear hn hc
  go_enter Try.func40, Try.ntmps40
  go_wp2_with fail
  go_loop [3] (fun i => ∃ k : Nat, k ≤ n ∧ i = .int .i64 k ∧ Hid (((l.take k).all fun s => !longT s) = true)) (fun i => n - (intOf i).toNat)
  case atStart => exact ⟨0, by omega, rfl, Lib.hid (by simp)⟩
  case round =>
    obtain ⟨k, hk, rfl, HT⟩ := hrel
    by_cases hlt : k < n
    · have hkl : k < l.length := HN.out ▸ hlt
      have hcell := HC.out k hkl
      have HS := Lib.hid (List.take_succ_eq_append_getElem hkl)
      have HMem : Hid (l[k] ∈ l) := Lib.hid (List.getElem_mem hkl)
      obtain ⟨s, hs⟩ : ∃ s, l[k] = s := ⟨_, rfl⟩
      rw [hs] at hcell HS HMem
      clear hs
      by_cases h64 : 64 < s.size
      · have a1 : (64 : Int) < (s.size : Int) := by omega
        have HF : Hid ((l.all fun s => !longT s) = false) := Lib.hid (by
          rw [List.all_eq_false]
          exact ⟨s, HMem.out, by simp [longT, h64]⟩)
        go_wp2_with fail
        go_ret
        exact ⟨by rw [HF.out]; rfl, rfl⟩
      · have a1 : ¬ (64 : Int) < (s.size : Int) := by omega
        go_wp2_with fail
        go_round
        case rel =>
          refine ⟨k + 1, by omega, by go_num, Lib.hid ?_⟩
          rw [HS.out, List.all_append, HT.out]
          simp [longT, h64]
        case measure => simp [intOf]; omega
    · obtain rfl : k = n := by omega
      have HF : Hid ((l.all fun s => !longT s) = true) := Lib.hid (by
        have h := HT.out
        rw [List.take_of_length_le (by rw [← HN.out]; exact Nat.le_refl _)] at h
        exact h)
      go_wp2_with fail
      go_ret
      exact ⟨by rw [HF.out]; rfl, rfl⟩
set_option maxHeartbeats 4000000 in
theorem rday (bs : List UInt8) (y m d : Int) (hy : Fit y) (hm : Fit m) (hd : Fit d) (ao : Option Addr) (n cap : Nat) (w : World) (hL : By.Ls w ao n cap bs) (hn : n ≤ 900000) :
    Calls Try.prog 42 #[.slice ao n cap, .agg #[.int .i64 y, .int .i64 m, .int .i64 d]] w fun e w' => (∃ a' N c', e = .returned (.slice a' N c') ∧ By.Ls w' a' N c' (bs ++ dayB y m d) ∧ N ≤ n + 30) ∧ Below w.heap.size w w' := by
  have hb0 : Below w.heap.size w (w.alloc (.cells #[.int .i64 y, .int .i64 m, .int .i64 d] 30)) := below_box (Below.refl _ _) _
  obtain ⟨X, hX⟩ : ∃ X, w.alloc (.cells #[.int .i64 y, .int .i64 m, .int .i64 d] 30) = X := ⟨_, rfl⟩
  have c0 : X.cell? ⟨w.heap.size, 0, none⟩ = some (.int .i64 y) := by rw [← hX]; simp [go_sem]
  have c1 : X.cell? ⟨w.heap.size, 1, none⟩ = some (.int .i64 m) := by rw [← hX]; simp [go_sem]
  have c2 : X.cell? ⟨w.heap.size, 2, none⟩ = some (.int .i64 d) := by rw [← hX]; simp [go_sem]
  rw [hX] at hb0
  have HB0 := Lib.hid hb0
  have hl0 : By.Ls X.drew ao n cap bs := (hL.below hb0).below (Below.refl _ _).drew
  have hq0 : Below X.heap.size X X.drew := (Below.refl _ _).drew
  have hcap := hL.reach
  have hfit := hL.fits
  have hlt := cell_lt c0
  clear hL hb0
  go_enter Try.func42, Try.ntmps42
  go_wp2_with fail
  clear hX
  go_region_held3 (fun u => u.cell? ⟨w.heap.size, 0, none⟩ = some (.int .i64 y) ∧ u.cell? ⟨w.heap.size, 1, none⟩ = some (.int .i64 m) ∧ u.cell? ⟨w.heap.size, 2, none⟩ = some (.int .i64 d)) (first | assumption | exact ⟨c0, c1, c2⟩) (first | (go_at_call 39; refine (rnum _ _ (by assumption) _ _ _ _ (by assumption) (by omega)).mono ?_; rintro e u ⟨⟨a', N, c', rfl, hl, hN⟩, b⟩; have hq : Below X.heap.size X u := bchain (by assumption) b; have hS : u.cell? ⟨w.heap.size, 0, none⟩ = some (.int .i64 y) ∧ u.cell? ⟨w.heap.size, 1, none⟩ = some (.int .i64 m) ∧ u.cell? ⟨w.heap.size, 2, none⟩ = some (.int .i64 d) := ⟨((bcell hq).1 _ _ hlt).trans c0, ((bcell hq).1 _ _ hlt).trans c1, ((bcell hq).1 _ _ hlt).trans c2⟩; clear b) | fail)
  go_wp2_with fail
  go_ret
  refine ⟨⟨_, _, _, rfl, ?_, by omega⟩, bchain HB0.out hq⟩
  unfold dayB
  rw [← List.append_assoc, ← List.append_assoc]
  exact hl
end Go.Proofs.Ytndfhnaafaijcaa
