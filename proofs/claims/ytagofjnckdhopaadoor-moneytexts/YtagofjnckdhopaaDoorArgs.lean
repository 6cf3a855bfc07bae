/- A SLICE OF BYTES THAT CAME IN, as the contracts speak of it. -/
import Derived.Test.YtagofjnckdhopaaDoorSeg
import Derived.ProofKit
import Derived.OpenShut
import Derived.ShutString
import Derived.ChangeOld
import Derived.SizedLaws
namespace Go.Proofs.YtagofjnckdhopaaDoor
open Go.ChangeShapes Go.WideShapes Go.ChangeAt Go.RowKit

theorem own : ownKnob Tryd.prog.godebug = none := by kernel_rfl
theorem laidOut : laidOutB Tryd.prog = true := by kernel_rfl
theorem cellsOf8 : Tryd.prog.cellsOf 5 = 1 := by kernel_rfl
theorem bytesOf8 : Tryd.prog.bytesOf 5 = 1 := by kernel_rfl
structure IsBytes (w : World) (ao : Option Addr) (n cap : Nat) (bs : List UInt8) : Prop where
  len : n = bs.length
  fits : n ≤ cap
  reach : cap ≤ 140737488351232
  nil : ao = none → cap = 0
  seg : Seg w ao bs
  plain : ∀ ad, ao = some ad → cap = 0 ∨ ∃ b off, ad = ⟨b, off, none⟩
theorem bytes_in {H : Type} {enc : TypeId × Value → H} {W : World} {ao : Option Addr} {n cap : Nat} {d : DataW H} {p : List MemPlace} {ts : List TypeId} {ds : List (DataW H)} (j : Nat)
    (hj : DataW.Trod enc Tryd.prog W 0 (fun _ => true) true 49 (.slice ao n cap) d p)
    (hsz : (DataW.weightsEach Tryd.prog ts ds).all (· ≤ reachBytes) = true) (ht : ts[j]? = some 49) (hd : ds[j]? = some d) : ∃ bs, IsBytes W ao n cap bs := by
  obtain ⟨fuel, hf⟩ := hj
  rcases open_ints Tryd.underlying49 Tryd.underlying5 cellsOf8 hf with ⟨hcs, _⟩ | ⟨x, l, c, zs, hcs, _, hl, hm, hz, hx, hcell, hwz⟩
  · simp [Value.cells] at hcs
    obtain ⟨rfl, rfl, rfl⟩ := hcs
    exact ⟨[], rfl, by omega, by omega, fun _ => rfl, .inl rfl, fun _ _ => .inl rfl⟩
  · simp [Value.cells] at hcs
    obtain ⟨rfl, rfl, rfl⟩ := hcs
    simp only [if_true] at hz
    have hd' := congrArg Prod.fst hx
    simp only at hd'
    rw [hd'] at hd
    have hr := sized_slice hsz ht hd Tryd.underlying49
    rw [bytesOf8] at hr
    simp only [lits, List.length_map, List.length_take, List.length_drop, reachBytes] at hr
    refine ⟨(zs.take n).map fun z => UInt8.ofNat z.toNat, by simp; omega, hl, by omega, (fun h => by cases h), ?_, ?_⟩
    rotate_left
    · rintro ad ⟨⟩
      by_cases h0 : 0 < zs.length
      · obtain ⟨b, off, e, _⟩ := ints_at hcell h0
        exact .inr ⟨b, off, e⟩
      · exact .inl (by omega)
    by_cases h0 : 0 < zs.length
    · obtain ⟨b, off, rfl, hc⟩ := ints_at hcell h0
      refine .inr ⟨b, off, rfl, fun k hk => ?_⟩
      simp only [List.length_map, List.length_take] at hk
      have h1 := hc k (by omega)
      have hmem : zs[k]'(by omega) ∈ zs := List.getElem_mem _
      have hw := hwz _ hmem
      have hb : 0 ≤ zs[k]'(by omega) ∧ zs[k]'(by omega) ≤ 255 := by simpa [Lit.wf, IntKind.min, IntKind.max, IntKind.signed, IntKind.bits] using hw
      rw [h1]
      simp only [List.getElem_map, List.getElem_take]
      rw [List.getD_eq_getElem?_getD, List.getElem?_eq_getElem (by omega)]
      simp only [Option.getD_some, UInt8.toNat_ofNat']
      congr 2
      omega
    · refine .inl ?_
      have : zs = [] := List.length_eq_zero_iff.1 (by omega)
      simp [this]
theorem u32_in {a : Int} (h : (Lit.int .u32 a).wf = true) : ∃ c : Nat, a = (c : Int) ∧ c < 4294967296 := by
  have hb : 0 ≤ a ∧ a ≤ 4294967295 := by simpa [Lit.wf, IntKind.min, IntKind.max, IntKind.signed, IntKind.bits] using h
  exact ⟨a.toNat, by omega, by omega⟩
theorem int_in {a : Int} (h : (Lit.int .i64 a).wf = true) : -9223372036854775808 ≤ a ∧ a ≤ 9223372036854775807 := by
  simpa [Lit.wf, IntKind.min, IntKind.max, IntKind.signed, IntKind.bits] using h
end Go.Proofs.YtagofjnckdhopaaDoor
