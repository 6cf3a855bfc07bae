/- A SLICE OF NUMBERS THAT CAME IN, as the walks speak of it. -/
import Derived.Test.YtagjbjppddbalaaArgsN
namespace Go.Proofs.Ytagjbjppddbalaa
open Go.ChangeShapes Go.WideShapes Go.ChangeAt Go.RowKit

theorem cellsOfI : Try.prog.cellsOf 3 = 1 := by kernel_rfl
theorem bytesOfI : Try.prog.bytesOf 3 = 8 := by kernel_rfl
structure Ints (w : World) (ao : Option Addr) (n cap : Nat) (zs : List Int) : Prop where
  len : n = zs.length
  fits : n ≤ cap
  reach : cap ≤ 140737488351232
  seg : zs = [] ∨ ∃ b off, ao = some ⟨b, off, none⟩ ∧ ∀ k (hk : k < zs.length), w.cell? ⟨b, off + k, none⟩ = some (.int .i64 zs[k])
  wf : ∀ z ∈ zs, Fit z
theorem Ints.at {w : World} {ao : Option Addr} {n cap : Nat} {zs : List Int} (h : Ints w ao n cap zs) (k : Nat) (hk : k < n) : ∃ b off z, ao = some ⟨b, off, none⟩ ∧ w.cell? ⟨b, off + k, none⟩ = some (.int .i64 z) ∧ Fit z := by
  have hk' : k < zs.length := h.len ▸ hk
  rcases h.seg with e | ⟨b, off, e, hc⟩
  · rw [e] at hk'
    simp at hk'
  · exact ⟨b, off, zs[k], e, hc k hk', h.wf _ (List.getElem_mem hk')⟩
theorem ints_in {H : Type} {enc : TypeId × Value → H} {W : World} {ao : Option Addr} {n cap : Nat} {d : DataW H} {p : List MemPlace} {ts : List TypeId} {ds : List (DataW H)} (j : Nat)
    (hj : DataW.Trod enc Try.prog W 0 (fun _ => true) true 67 (.slice ao n cap) d p)
    (hsz : (DataW.weightsEach Try.prog ts ds).all (· ≤ reachBytes) = true) (ht : ts[j]? = some 67) (hd : ds[j]? = some d) : ∃ zs, Ints W ao n cap zs := by
  obtain ⟨fuel, hf⟩ := hj
  rcases open_ints Try.underlying67 Try.underlying3 cellsOfI hf with ⟨hcs, _⟩ | ⟨x, l, c, zs, hcs, _, hl, hm, hz, hx, hcell, hwz⟩
  · simp [Value.cells] at hcs
    obtain ⟨rfl, rfl, rfl⟩ := hcs
    exact ⟨[], rfl, by omega, by omega, .inl rfl, by simp⟩
  · simp [Value.cells] at hcs
    obtain ⟨rfl, rfl, rfl⟩ := hcs
    simp only [if_true] at hz
    have hd' := congrArg Prod.fst hx
    simp only at hd'
    rw [hd'] at hd
    have hr := sized_slice hsz ht hd Try.underlying67
    rw [bytesOfI] at hr
    simp only [lits, List.length_map, List.length_take, List.length_drop, reachBytes] at hr
    refine ⟨zs.take n, by simp; omega, hl, by omega, ?_, ?_⟩
    · by_cases h0 : 0 < zs.length
      · obtain ⟨b, off, rfl, hc⟩ := ints_at hcell h0
        refine .inr ⟨b, off, rfl, fun k hk => ?_⟩
        simp only [List.length_take] at hk
        rw [hc k (by omega), List.getElem_take]
        rw [List.getD_eq_getElem?_getD, List.getElem?_eq_getElem (by omega)]
        rfl
      · refine .inl ?_
        have : zs = [] := List.length_eq_zero_iff.1 (by omega)
        simp [this]
    · intro z hz
      have hw := hwz z (List.mem_of_mem_take hz)
      exact fit_in hw
end Go.Proofs.Ytagjbjppddbalaa
