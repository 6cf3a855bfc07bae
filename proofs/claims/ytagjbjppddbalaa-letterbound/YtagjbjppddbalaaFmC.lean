/- CONTRACTS OF PACKAGE frame: Next. -/
import Derived.Test.YtagjbjppddbalaaFmB
set_option maxRecDepth 100000
set_option linter.unusedVariables false
namespace Go.Proofs.Ytagjbjppddbalaa
open Go.RowKit
open Mem

/-- what stands at a place (chapter 17): the payload, where its frame ends, the error -/
def Fm.nextF (f : List UInt8) : List UInt8 × Nat × Nat :=
  if f.length < 4 then ([], 0, 3) else if Crc.le (f.take 4) = 0 ∨ 131072 < Crc.le (f.take 4) then ([], 0, 4) else
  if f.length < Crc.le (f.take 4) + 8 then ([], 0, 3) else
  if Crc.on 0 (f.take (4 + Crc.le (f.take 4))) ≠ Crc.le ((f.drop (4 + Crc.le (f.take 4))).take 4) then ([], 0, 6) else
  ((f.drop 4).take (Crc.le (f.take 4)), Crc.le (f.take 4) + 8, 0)
/-- what Next answers -/
def Fm.NextE (w : World) (bs : List UInt8) (i : Int) (e : Ending) (w' : World) : Prop :=
  Below w.heap.size w w' ∧ (((i < 0 ∨ (bs.length : Int) < i) ∧ e = .returned (.tuple #[.slice none 0 0, .int .i64 0, .int .i64 1])) ∨
    ∃ k : Nat, i = (k : Int) ∧ k ≤ bs.length ∧ (((Fm.nextF (bs.drop k)).2.2 ≠ 0 ∧ e = .returned (.tuple #[.slice none 0 0, .int .i64 0, .int .i64 ((Fm.nextF (bs.drop k)).2.2 : Nat)])) ∨
      ((Fm.nextF (bs.drop k)).2.2 = 0 ∧ ∃ g, w.heap.size ≤ g ∧ By.Block w' g (Fm.nextF (bs.drop k)).1 ∧ e = .returned (.tuple #[.slice (some ⟨g, 0, none⟩) (Fm.nextF (bs.drop k)).1.length (Fm.nextF (bs.drop k)).1.length, .int .i64 ((k + (Fm.nextF (bs.drop k)).2.1 : Nat) : Int), .int .i64 0]))))
theorem Fm.four_of {f : List UInt8} (h : 4 ≤ f.length) : ∃ a b c d : UInt8, f.take 4 = [a, b, c, d] ∧ f[0]? = some a ∧ f[1]? = some b ∧ f[2]? = some c ∧ f[3]? = some d := by
  match f, h with
  | a :: b :: c :: d :: l, _ => exact ⟨a, b, c, d, rfl, rfl, rfl, rfl, rfl⟩
/-- a byte of a slice -/
theorem Fm.byte {w : World} {b off n cap : Nat} {bs : List UInt8} (h : By.Ls w (some ⟨b, off, none⟩) n cap bs) {i : Nat} {x : UInt8} (hx : bs[i]? = some x) : w.cell? ⟨b, off + i, none⟩ = some (.int .u8 (x.toNat : Int)) := by
  obtain ⟨hl, e⟩ := List.getElem?_eq_some_iff.1 hx
  have := h.row i hl
  rw [e] at this
  exact this
/-- a part of a slice -/
theorem Fm.part {w : World} {b off n cap : Nat} {bs : List UInt8} (h : By.Ls w (some ⟨b, off, none⟩) n cap bs) (k m c : Nat) (hk : k + m ≤ n) (hc : m ≤ c) (hr : c ≤ 9223372036854775807) : By.Ls w (some ⟨b, off + k, none⟩) m c ((bs.drop k).take m) := by
  have hl := h.len
  refine ⟨by rw [List.length_take, List.length_drop]; omega, hc, hr, (fun z => by cases z), .inr ⟨b, off + k, rfl, fun i hi => ?_⟩⟩
  rw [List.length_take, List.length_drop] at hi
  have h1 := h.row (k + i) (by omega)
  rw [List.getElem_take, List.getElem_drop, Nat.add_assoc]
  exact h1
end Go.Proofs.Ytagjbjppddbalaa
