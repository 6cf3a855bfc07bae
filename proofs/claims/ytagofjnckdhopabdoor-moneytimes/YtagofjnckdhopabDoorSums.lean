/- NUMBERS IN MEMORY; CONTRACT OF money.Sum. -/
import Derived.Test.YtagofjnckdhopabDoorMoney
import Derived.Test.YtagofjnckdhopabDoorArgs
import Derived.Maps.AppendAt
import Derived.Laws.AppendOwnNone
namespace Go.Proofs.YtagofjnckdhopabDoor
open Go.ChangeShapes Go.WideShapes Go.ChangeAt Go.RowKit

/-- numbers that lie one behind the other in memory, from an address on -/
def SegI (w : World) (ao : Option Addr) (zs : List Int) : Prop :=
  zs = [] ∨ ∃ b off, ao = some ⟨b, off, none⟩ ∧ ∀ k (hk : k < zs.length), w.cell? ⟨b, off + k, none⟩ = some (.int .i64 zs[k])
theorem SegI.below {w w' : World} {ao : Option Addr} {zs : List Int} (h : SegI w ao zs) (hb : Below w.heap.size w w') : SegI w' ao zs := by
  rcases h with h | ⟨b, off, e, hc⟩
  · exact .inl h
  · exact .inr ⟨b, off, e, fun k hk => (hb.cell (p := ⟨b, off + k, none⟩) (lt_of_cell (hc k hk))).trans (hc k hk)⟩
theorem SegI.takes {w : World} {ao : Option Addr} {zs : List Int} (h : SegI w ao zs) (i : Nat) : SegI w ao (zs.take i) := by
  rcases h with rfl | ⟨b, off, rfl, hc⟩
  · exact .inl (by simp)
  · exact .inr ⟨b, off, rfl, fun k hk => by
      simp only [List.length_take] at hk
      rw [List.getElem_take]
      exact hc k (by omega)⟩
def iv (z : Int) : Value := .int .i64 z

/-- the sum from a number on; it ends at the first that goes too far -/
def sumGo : Int → List Int → Int × Int
  | a, [] => (a, 0)
  | a, z :: zs => if Mn.Fit (a + z) then sumGo (a + z) zs else (0, 7)
theorem sumGo_fit {a z : Int} {zs : List Int} (h : Mn.Fit (a + z)) : sumGo a (z :: zs) = sumGo (a + z) zs := by rw [sumGo, if_pos h]
theorem sumGo_not {a z : Int} {zs : List Int} (h : ¬ Mn.Fit (a + z)) : sumGo a (z :: zs) = (0, 7) := by rw [sumGo, if_neg h]
theorem drop_at {zs : List Int} {k : Nat} (h : k < zs.length) : zs.drop k = zs[k] :: zs.drop (k + 1) := List.drop_eq_getElem_cons h

set_option maxHeartbeats 1000000 in
theorem sum_core (zs : List Int) (b off n cap : Nat) (w : World) (hn : n = zs.length) (hl : n ≤ 9223372036854775807) (hz : ∀ z ∈ zs, Mn.Fit z)
    (hc : ∀ k (hk : k < zs.length), w.cell? ⟨b, off + k, none⟩ = some (.int .i64 zs[k])) :
    Calls Tryd.prog 6 #[.slice (some ⟨b, off, none⟩) n cap] w fun e w' => e = both (sumGo 0 zs).1 (sumGo 0 zs).2 ∧ w' = w := by
  have HN : Hid (n = zs.length) := hn
  have HZ := Lib.hid hz
  have HC := Lib.hid hc
  clear hn hz hc
  go_enter Tryd.func6, Tryd.ntmps6
  go_wp2
  go_loopw [4, 6, 7, 8, 11] (fun t _ _ _ i w' => ∃ (k : Nat) (acc : Int), w' = w ∧ k ≤ n ∧ i = .int .i64 k ∧ t = .int .i64 acc ∧ Hid (Mn.Fit acc) ∧ Hid (sumGo acc (zs.drop k) = sumGo 0 zs)) (fun _ _ _ _ i _ => n - (intOf i).toNat)
  case atStart => exact ⟨0, 0, rfl, Nat.zero_le _, rfl, rfl, ⟨by omega, by omega⟩, by show _ = _; simp⟩
  case round =>
    obtain ⟨k, acc, rfl, hk, rfl, rfl, HA, HS⟩ := hrel
    by_cases hlt : k < n
    · have hkz : k < zs.length := by have := HN.out; omega
      have c1 := HC.out k hkz
      have HS2 : Hid (sumGo 0 zs = sumGo acc (zs[k] :: zs.drop (k + 1))) := by
        show _ = _
        rw [← HS.out, drop_at hkz]
      have HF := Lib.hid (HZ.out zs[k] (List.getElem_mem _))
      generalize zs[k] = z at *
      have hlt' : (k : Int) < (n : Int) := by omega
      go_wp2_with fail
      refine (add_any acc z _ HA.out HF.out).mono ?_
      rintro e w1 ⟨rfl, hw1⟩
      subst hw1
      by_cases hf : Mn.Fit (acc + z)
      · rw [both_fit hf]
        unfold both
        have HF2 := Lib.hid hf
        clear hf
        go_wp2
        go_roundw
        case rel =>
          refine ⟨k + 1, acc + z, trivial, by omega, by go_num, rfl, HF2.out, ?_⟩
          show _ = _
          rw [HS2.out, sumGo_fit HF2.out]
        case measure => simp [intOf]; omega
      · rw [both_not hf]
        unfold both
        have HF2 := Lib.hid hf
        clear hf
        go_wp2
        go_ret2
        refine ⟨?_, rfl⟩
        rw [HS2.out, sumGo_not HF2.out]
        rfl
    · have hlt' : ¬ (k : Int) < (n : Int) := by omega
      have HE : Hid (sumGo 0 zs = (acc, 0)) := by
        show _ = _
        rw [← HS.out, List.drop_eq_nil_of_le (by have := HN.out; omega)]
        rfl
      go_wp2
      go_ret2
      refine ⟨?_, rfl⟩
      rw [HE.out]
      rfl
theorem sum_nil (ao : Option Addr) (cap : Nat) (w : World) :
    Calls Tryd.prog 6 #[.slice ao 0 cap] w fun e w' => e = both 0 0 ∧ w' = w := by
  go_enter Tryd.func6, Tryd.ntmps6
  go_wp2
  go_loopw [4, 6, 7, 8, 11] (fun t _ _ _ i w' => w' = w ∧ i = .int .i64 0 ∧ t = .int .i64 0) (fun _ _ _ _ _ _ => 0)
  case atStart => exact ⟨rfl, rfl, rfl⟩
  case round =>
    obtain ⟨rfl, rfl, rfl⟩ := hrel
    go_wp2
    go_ret2
    exact ⟨rfl, rfl⟩
theorem sum_any (zs : List Int) (ao : Option Addr) (n cap : Nat) (w : World) (hn : n = zs.length) (hl : n ≤ 9223372036854775807) (hz : ∀ z ∈ zs, Mn.Fit z) (hs : SegI w ao zs) :
    Calls Tryd.prog 6 #[.slice ao n cap] w fun e w' => e = both (sumGo 0 zs).1 (sumGo 0 zs).2 ∧ w' = w := by
  rcases hs with rfl | ⟨b, off, rfl, hc⟩
  · subst hn
    exact sum_nil ao cap w
  · exact sum_core zs b off n cap w hn hl hz hc
end Go.Proofs.YtagofjnckdhopabDoor
