/- api.Entry: a slice that came in is no longer than what may be read. -/
import Derived.Test.YtnelakpagjdcdaaEtIn
namespace Go.Proofs.Ytnelakpagjdcdaa.Et
open Go.ChangeShapes Go.WideShapes Go.ChangeAt Go.RowKit

theorem bytes32 : Try.prog.bytesOf 35 = 32 := by kernel_rfl
theorem list_bytes {H : Type} {enc : TypeId × Value → H} {W : World} {ao : Option Addr} {n cap : Nat} {d : DataW H} {p : List MemPlace} {ts : List TypeId} {ds : List (DataW H)} (j : Nat)
    (hj : DataW.Trod enc Try.prog W 0 (fun _ => true) true 30 (.slice ao n cap) d p)
    (hsz : (DataW.weightsEach Try.prog ts ds).all (· ≤ reachBytes) = true) (ht : ts[j]? = some 30) (hd : ds[j]? = some d) : n * 32 ≤ 140737488351232 := by
  obtain ⟨fuel, hf⟩ := hj
  rcases Go.Deep.open_slice Try.underlying30 hf with ⟨hcs, _⟩ | ⟨a, len, c, m, k, D, Pl, hcs, _, hl, hm, hmm, hx, hel⟩
  · simp [Value.cells] at hcs
    obtain ⟨rfl, rfl, rfl⟩ := hcs
    omega
  · simp [Value.cells] at hcs
    obtain ⟨rfl, rfl, rfl⟩ := hcs
    have hd' := congrArg Prod.fst hx
    simp only at hd'
    rw [hd'] at hd
    have hw := List.all_eq_true.1 hsz _ (DataW.weights_mem_each ht hd _ (by
      rw [DataW.weights, Try.underlying30]
      exact List.mem_cons_self))
    rw [decide_eq_true_eq, bytes32] at hw
    unfold reachBytes at hw
    simp only [List.length_map, List.length_range] at hw
    omega
theorem list_sized {H : Type} {enc : TypeId × Value → H} {W : World} {ao : Option Addr} {n cap : Nat} {d : DataW H} {p : List MemPlace} {ts : List TypeId} {ds : List (DataW H)} (j : Nat)
    (hj : DataW.Trod enc Try.prog W 0 (fun _ => true) true 30 (.slice ao n cap) d p)
    (hsz : (DataW.weightsEach Try.prog ts ds).all (· ≤ reachBytes) = true) (ht : ts[j]? = some 30) (hd : ds[j]? = some d) : ∃ rs, Ls W ao n cap rs ∧ n * 32 ≤ 140737488351232 := by
  obtain ⟨rs, h⟩ := list_in j hj hsz ht hd
  exact ⟨rs, h, list_bytes j hj hsz ht hd⟩
end Go.Proofs.Ytnelakpagjdcdaa.Et
