/- CONTRACTS OF PACKAGE sum, as far as it only reckons and reads: divide, On, Of, tail. -/
import Derived.Test.YtagjbjppddbalaaSegN
import Derived.Test.YtagjbjppddbalaaCrc
namespace Go.Proofs.Ytagjbjppddbalaa
open Go.RowKit

theorem and_one (x : Nat) (h : x < 4294967296) : bits .and .u32 (x : Int) 1 = ((x % 2 : Nat) : Int) := by
  have := u32_and_nat x 1 h (by omega)
  rw [Nat.and_one_is_mod] at this
  exact this
theorem half_odd (x : Nat) (h : x < 4294967296) (ho : ((x : Int) % 2 == 1) = true) : bits .xor .u32 ((x : Int) / 2) 3945912366 = ((Crc.half x : Nat) : Int) := by
  have e : (x : Int) % 2 = 1 := by simpa using ho
  unfold Crc.half
  rw [if_pos (by omega), show (x : Int) / 2 = ((x / 2 : Nat) : Int) from by omega]
  exact u32_xor_nat (x / 2) 3945912366 (by omega) (by omega)
theorem half_even (x : Nat) (he : ((x : Int) % 2 == 1) = false) : (x : Int) / 2 = ((Crc.half x : Nat) : Int) := by
  have e : ¬ (x : Int) % 2 = 1 := by simpa using he
  unfold Crc.half
  rw [if_neg (by omega)]
  omega
theorem not_u32 (c : Nat) (h : c < 4294967296) : bits .xor .u32 IntKind.u32.max (c : Int) = ((c ^^^ 4294967295 : Nat) : Int) := by
  rw [Nat.xor_comm, show IntKind.u32.max = 4294967295 from rfl]
  exact u32_xor_nat 4294967295 c (by omega) h
theorem xor_byte (s : Nat) (b : UInt8) (h : s < 4294967296) : bits .xor .u32 (s : Int) (b.toNat : Int) = ((s ^^^ b.toNat : Nat) : Int) :=
  u32_xor_nat s b.toNat h (by have := b.toNat_lt; omega)
theorem eat_snoc (s : Nat) (bs : List UInt8) (k : Nat) (hk : k < bs.length) : Crc.eat s (bs.take (k + 1)) = Crc.halves 8 (Crc.eat s (bs.take k) ^^^ bs[k].toNat) := by
  rw [List.take_succ_eq_append_getElem hk, Crc.eat_append]
  rfl

/-- parts that lie one behind the other in memory, from an address on -/
def Parts (w : World) (g off : Nat) (ps : List (List UInt8)) : Prop :=
  ∀ k (hk : k < ps.length), ∃ ao n cp, w.cell? ⟨g, off + k, none⟩ = some (.slice ao n cp) ∧ n = ps[k].length ∧ n ≤ 9223372036854775807 ∧ Seg w ao ps[k]
theorem on_flat (c : Nat) (ps : List (List UInt8)) (k : Nat) (hk : k < ps.length) : Crc.on c (ps.take (k + 1)).flatten = Crc.on (Crc.on c (ps.take k).flatten) ps[k] := by
  rw [List.take_succ_eq_append_getElem hk, List.flatten_append, Crc.on_append]
  simp
theorem le_snoc (bs : List UInt8) (k : Nat) (hk : k < bs.length) : Crc.le (bs.take (k + 1)) = Crc.le (bs.take k) + 2 ^ (8 * k) * bs[k].toNat := by
  rw [List.take_succ_eq_append_getElem hk, Crc.le_append]
  simp [Crc.le, Nat.min_eq_left (Nat.le_of_lt hk)]
theorem or_shift (x y k : Nat) (hk : k < 4) (hx : x < 2 ^ (8 * k)) (hy : y < 256) : bits .or .u32 (x : Int) ((y : Int) * 2 ^ (8 * k) % 4294967296) = ((x + 2 ^ (8 * k) * y : Nat) : Int) := by
  have hp : 2 ^ (8 * k) ≤ 16777216 := by
    have : 2 ^ (8 * k) ≤ 2 ^ 24 := Nat.pow_le_pow_right (by omega) (by omega)
    simpa using this
  have hm : y * 2 ^ (8 * k) ≤ 255 * 2 ^ (8 * k) := Nat.mul_le_mul_right _ (by omega)
  have e1 : ((y : Int) * 2 ^ (8 * k) % 4294967296) = ((2 ^ (8 * k) * y : Nat) : Int) := by
    have : ((y : Int) * 2 ^ (8 * k)) = ((y * 2 ^ (8 * k) : Nat) : Int) := by simp
    rw [this, Nat.mul_comm]
    rw [Nat.mul_comm] at hm
    omega
  rw [e1, u32_or_nat _ _ (by omega) (by rw [Nat.mul_comm]; omega), Nat.add_comm, Nat.two_pow_add_eq_or_of_lt hx, Nat.or_comm]
theorem parts_one {u : World} {ao : Option Addr} {bs : List UInt8} {n cap : Nat} (hs : Seg u ao bs) (hn : n = bs.length) (hl : n ≤ 9223372036854775807) :
    Parts (u.alloc (.cells #[.slice ao n cap] 25)) u.heap.size 0 [bs] := by
  intro k hk
  obtain rfl : k = 0 := by simp at hk; omega
  refine ⟨ao, n, cap, ?_, hn, hl, hs.below ((Below.refl _ _).alloc (Nat.le_refl _) _)⟩
  rw [cell_of_row _ _ _ _ _ _ (heap_alloc_new u _)]
  rfl
theorem Parts.drew {w : World} {g off : Nat} {ps : List (List UInt8)} (h : Parts w g off ps) : Parts w.drew g off ps := h
theorem parts_cells {w : World} {g : Nat} {vs : Array Value} {ps : List (List UInt8)} (hg : w.heap[g]? = some (.cells vs 25))
    (h : ∀ k (hk : k < ps.length), ∃ ao n cp, vs[k]? = some (.slice ao n cp) ∧ n = ps[k].length ∧ n ≤ 9223372036854775807 ∧ Seg w ao ps[k]) : Parts w g 0 ps := by
  intro k hk
  obtain ⟨ao, n, cp, h1, h2⟩ := h k hk
  exact ⟨ao, n, cp, by rw [Nat.zero_add, cell_of_row _ _ _ _ _ _ hg]; exact h1, h2⟩
theorem Seg.alloc {w : World} {ao : Option Addr} {bs : List UInt8} (h : Seg w ao bs) (o : Obj) : Seg (w.alloc o) ao bs := h.below ((Below.refl _ _).alloc (Nat.le_refl _) _)
end Go.Proofs.Ytagjbjppddbalaa
