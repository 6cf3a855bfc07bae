/- ONE ROUND OF THE LOOP THAT TURNS A BURST, as the walk spells it. -/
import Derived.Test.YtehdhhmaijogbaaSum
import Derived.Test.YtehdhhmaijogbaaFlip
namespace Go.Proofs.Ytehdhhmaijogbaa
open Go.RowKit

theorem bit_test (burst k : Nat) (h : burst < 4294967296) : bits .and .u32 ((burst : Int) / 2 ^ k) 1 = ((burst / 2 ^ k % 2 : Nat) : Int) := by
  have e : (burst : Int) / 2 ^ k = ((burst / 2 ^ k : Nat) : Int) := by simp
  rw [e]
  exact and_one _ (Nat.lt_of_le_of_lt (Nat.div_le_self _ _) h)
theorem flip_bv (x : UInt8) (r : Nat) (hr : r < 8) : Value.int .u8 (bits .xor .u8 (x.toNat : Int) (2 ^ r % 256)) = bv (Crc.flipB x r) := by
  have h2 : 2 ^ r < 2 ^ 8 := Nat.pow_lt_pow_right (by omega) hr
  have e : (2 : Int) ^ r % 256 = ((2 ^ r : Nat) : Int) := by
    have : (2 : Int) ^ r = ((2 ^ r : Nat) : Int) := by simp
    rw [this]
    generalize 2 ^ r = z at *
    omega
  unfold bv
  rw [e, u8_xor_nat _ _ x.toNat_lt (by omega), Crc.flipB_toNat x r hr]
/-- what the loop holds at its head -/
def Burst (w : World) (B g : Nat) (p xs : List UInt8) (spare : List Value) (bit k y : Nat) (wr : World) : Prop :=
  Crc.Turned p xs bit k y ∧ Row wr g (xs.map bv ++ spare) ∧ Below B w wr
theorem Burst.flip {w wr : World} {B g : Nat} {p xs : List UInt8} {spare : List Value} {bit k y : Nat} (h : Burst w B g p xs spare bit k y wr) (hB : B ≤ g) (hj : (bit + k) / 8 < xs.length) {x : UInt8} (hx : xs[(bit + k) / 8] = x) :
    Burst w B g p (xs.set ((bit + k) / 8) (Crc.flipB x ((bit + k) % 8))) spare bit (k + 1) (2 ^ k + y) (wr.setCell ⟨g, (bit + k) / 8, none⟩ (Value.int .u8 (bits .xor .u8 (x.toNat : Int) (2 ^ ((bit + k) % 8) % 256)))).drew := by
  subst hx
  rw [flip_bv _ _ (by omega)]
  obtain ⟨h1, h2, h3⟩ := h
  refine ⟨h1.flip hj, ?_, (h3.setCell (by exact hB) _).drew⟩
  have := h2.set ((bit + k) / 8) (bv (Crc.flipB xs[(bit + k) / 8] ((bit + k) % 8)))
  rw [List.set_append_left _ _ (by simpa using hj), ← List.map_set] at this
  exact this
theorem Burst.keep {w wr : World} {B g : Nat} {p xs : List UInt8} {spare : List Value} {bit k y : Nat} (h : Burst w B g p xs spare bit k y wr) : Burst w B g p xs spare bit (k + 1) y wr :=
  ⟨h.1.keep, h.2.1, h.2.2⟩
theorem Burst.cell {w wr : World} {B g : Nat} {p xs : List UInt8} {spare : List Value} {bit k y : Nat} (h : Burst w B g p xs spare bit k y wr) (j : Nat) (hj : j < xs.length) : wr.cell? ⟨g, j, none⟩ = some (.int .u8 (xs[j].toNat : Int)) := by
  rw [h.2.1.cell _ (by simp; omega), List.getElem_append_left (by simpa using hj)]
  simp [bv]
theorem pow_ne (k y : Nat) : decide (2 ^ k + y ≠ 0) = true := by
  have := Nat.two_pow_pos k
  rw [decide_eq_true_iff]
  omega
end Go.Proofs.Ytehdhhmaijogbaa
