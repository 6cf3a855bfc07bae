/- CONTRACTS OF PACKAGE frame: copied, read, write. -/
import Derived.Test.YtagjbjppddbalaaSumN
import Derived.Test.YtagjbjppddbalaaByA
import Derived.Test.YtagjbjppddbalaaByB
import Derived.Test.YtagjbjppddbalaaUpq
set_option maxRecDepth 100000
set_option linter.unusedVariables false
namespace Go.Proofs.Ytagjbjppddbalaa
open Go.RowKit
open Mem

/-- the number of four bytes, byte by byte -/
theorem Fm.le4 (a b c d : UInt8) : Crc.le [a, b, c, d] = a.toNat + 256 * (b.toNat + 256 * (c.toNat + 256 * (d.toNat + 256 * 0))) := rfl
theorem Fm.or_at (m x p : Nat) (hp : ∃ i, p = 2 ^ i) (hm : m < p) (hx : m + x * p < 4294967296) : bits .or .u32 (m : Int) ((x : Int) * (p : Int)) = ((m + x * p : Nat) : Int) := by
  obtain ⟨i, rfl⟩ := hp
  have h1 := Nat.two_pow_add_eq_or_of_lt hm x
  have h2 := u32_or_nat m (x * 2 ^ i) (by omega) (by omega)
  rw [Int.natCast_mul] at h2
  rw [h2, Nat.or_comm, Nat.mul_comm x, ← h1, Nat.add_comm]
/-- bytes laid over others, from a place on -/
def Fm.over (bs xs : List UInt8) (o : Nat) : List UInt8 := bs.take o ++ xs ++ bs.drop (o + xs.length)
theorem Fm.over_len {bs xs : List UInt8} {o : Nat} (h : o + xs.length ≤ bs.length) : (Fm.over bs xs o).length = bs.length := by
  unfold Fm.over
  rw [List.length_append, List.length_append, List.length_take, List.length_drop]
  omega
theorem Fm.over_snoc {bs xs : List UInt8} {o : Nat} {y : UInt8} (h : o + xs.length < bs.length) : (Fm.over bs xs o).set (o + xs.length) y = Fm.over bs (xs ++ [y]) o := by
  unfold Fm.over
  have hl : (bs.take o ++ xs).length = o + xs.length := by
    rw [List.length_append, List.length_take]
    omega
  rw [List.set_append_right _ _ (by omega), hl, Nat.sub_self, List.drop_eq_getElem_cons h, List.set_cons_zero, List.length_append, List.length_singleton, ← Nat.add_assoc, List.append_assoc, List.append_assoc, List.append_assoc, List.singleton_append]
end Go.Proofs.Ytagjbjppddbalaa
