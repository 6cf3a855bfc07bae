/- CONTRACTS OF THE DOCUMENT's OWN ANSWER TO CHAPTER 1: On. -/
import Derived.Test.YtehdhhmaijogbaaSum
namespace Go.Proofs.Ytehdhhmaijogbaa
open Go.RowKit

set_option maxHeartbeats 400000 in
theorem refOn_core (c : Nat) (bs : List UInt8) (b off n cap : Nat) (w : World) (hc : c < 4294967296) (hn : n = bs.length) (hl : n ≤ 9223372036854775807)
    (hcell : ∀ k (hk : k < bs.length), w.cell? ⟨b, off + k, none⟩ = some (.int .u8 (bs[k].toNat : Int))) :
    Calls Try.prog 15 #[.int .u32 c, .slice (some ⟨b, off, none⟩) n cap] w fun e w' => e = .returned (.int .u32 (Crc.on c bs : Nat)) ∧ w' = w := by
  have h1 := not_u32 c hc
  have HN : Hid (n = bs.length) := hn
  clear hn
  have hcF := Crc.xor_lt c 4294967295 hc (by omega)
  go_enter Try.func15, Try.ntmps15
  go_wp2
  go_loop [5, 6] (fun t i => ∃ k : Nat, k ≤ n ∧ i = .int .i64 k ∧ t = .int .u32 (Crc.eat (c ^^^ 4294967295) (bs.take k) : Nat)) (fun _ i => n - (intOf i).toNat)
  case atStart => exact ⟨0, Nat.zero_le _, rfl, rfl⟩
  case round =>
    obtain ⟨k, hk, rfl, rfl⟩ := hrel
    have hx := Crc.eat_lt (bs.take k) _ hcF
    by_cases hlt : k < n
    · have hkb : k < bs.length := by have := HN.out; omega
      have HS : Hid (Crc.eat (c ^^^ 4294967295) (bs.take (k + 1)) = Crc.halves 8 (Crc.eat (c ^^^ 4294967295) (bs.take k) ^^^ bs[k].toNat)) := eat_snoc _ bs k hkb
      have hcl := hcell k hkb
      generalize Crc.eat (c ^^^ 4294967295) (bs.take k) = x at *
      generalize bs[k] = y at *
      have hxy := xor_byte x y hx
      have hyl := y.toNat_lt
      have hlt2 := Crc.xor_lt x y.toNat hx (by omega)
      clear hcell
      go_wp2
      generalize x ^^^ y.toNat = z at *
      go_loop [5, 7] (fun t i => ∃ j : Nat, j ≤ 8 ∧ i = .int .i64 j ∧ t = .int .u32 (Crc.halves j z : Nat)) (fun _ i => 8 - (intOf i).toNat)
      case atStart => exact ⟨0, Nat.zero_le _, rfl, rfl⟩
      case round =>
        obtain ⟨j, hj, rfl, rfl⟩ := hrel
        have hu := Crc.halves_lt j z hlt2
        have hs := Crc.halves_succ j z
        have H8 : Hid (j = 8 → Crc.halves j z = Crc.halves 8 z) := fun e => by rw [e]
        generalize Crc.halves j z = u at *
        have HJ : Hid (Crc.halves (j + 1) z = Crc.half u) := hs
        clear hs
        have h1 := and_one u hu
        go_wp2
        · go_round
          case rel => exact ⟨j + 1, by omega, by go_num, by rw [HJ.out]; exact congrArg (Value.int .u32) (half_odd u hu ‹_›)⟩
          case measure => simp [intOf]; omega
        · go_round
          case rel => exact ⟨j + 1, by omega, by go_num, by rw [HJ.out]; exact congrArg (Value.int .u32) (half_even u ‹_›)⟩
          case measure => simp [intOf]; omega
        · go_round
          case rel => exact ⟨k + 1, by omega, by go_num, by rw [HS.out, H8.out (by omega)]⟩
          case measure => simp [intOf]; omega
    · clear hcell
      have h2 := not_u32 _ hx
      have HE : Hid (Crc.eat (c ^^^ 4294967295) (bs.take k) ^^^ 4294967295 = Crc.on c bs) := by
        unfold Crc.on; rw [List.take_of_length_le (by have := HN.out; omega)]; rfl
      generalize Crc.eat (c ^^^ 4294967295) (bs.take k) = x at *
      go_wp2
      go_ret
      exact ⟨ret_u32 (by rw [HE.out]), rfl⟩
set_option maxHeartbeats 400000 in
theorem refOn_none (c : Nat) (ao : Option Addr) (cap : Nat) (w : World) (hc : c < 4294967296) :
    Calls Try.prog 15 #[.int .u32 c, .slice ao 0 cap] w fun e w' => e = .returned (.int .u32 (c : Nat)) ∧ w' = w := by
  have h1 := not_u32 c hc
  have hcF := Crc.xor_lt c 4294967295 hc (by omega)
  have h2 := not_u32 _ hcF
  go_enter Try.func15, Try.ntmps15
  go_wp2
  go_loop [5, 6] (fun t i => i = .int .i64 0 ∧ t = .int .u32 (c ^^^ 4294967295 : Nat)) (fun _ i => 0)
  case atStart => exact ⟨rfl, rfl⟩
  case round =>
    obtain ⟨rfl, rfl⟩ := hrel
    go_wp2
    go_ret
    exact ⟨ret_u32 (by rw [Crc.xor_xor]), rfl⟩
theorem refOn_any (c : Nat) (bs : List UInt8) (ao : Option Addr) (n cap : Nat) (w : World) (hc : c < 4294967296) (hn : n = bs.length) (hl : n ≤ 9223372036854775807) (hs : Seg w ao bs) :
    Calls Try.prog 15 #[.int .u32 c, .slice ao n cap] w fun e w' => e = .returned (.int .u32 (Crc.on c bs : Nat)) ∧ w' = w := by
  rcases hs with rfl | ⟨b, off, rfl, hcell⟩
  · subst hn
    rw [Crc.on_nil]
    exact refOn_none c ao cap w hc
  · exact refOn_core c bs b off n cap w hc hn hl hcell

end Go.Proofs.Ytehdhhmaijogbaa
