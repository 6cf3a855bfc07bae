/- ROWS OF Balance: a piece from the middle; what an own slice holds. -/
import Derived.Test.YtgnepgkmjgpkeaaBaM
set_option linter.unusedVariables false
namespace Go.Proofs.Ytgnepgkmjgpkeaa.Ba
open Go.RowKit

theorem Ls.mid {w : World} {ao : Option Addr} {n cap : Nat} {rs : List T} (h : Ls w ao n cap rs) (k m : Nat) (hkm : k < m) (hm : m ≤ n) :
    ∃ ao2 cap2, (∀ u, (Instr.slice 22 (.slice ao n cap) (some (.int .i64 (k : Int))) (some (.int .i64 (m : Int))) none).run Try.prog u = .ok (.slice ao2 (m - k) cap2) u) ∧ Ls w ao2 (m - k) cap2 ((rs.take m).drop k) := by
  have hl := h.len
  have hf := h.fits
  refine ⟨if cap = k then ao else ao.map (·.add (k * 2)), cap - k, fun u => ?_, ⟨by rw [List.length_drop, List.length_take]; omega, by omega, by have := h.reach; omega, ?_, ?_, fun r hr => h.short r (List.mem_of_mem_take (List.mem_of_mem_drop hr))⟩⟩
  · rw [run_slice_lh u 22 ao n cap und .i64 .i64 k m (by omega) (by omega) (by omega), size]
    simp [Result.andThen, sliced]
  · rw [if_neg (by omega)]
    cases ao with
    | none => have := h.nil rfl; omega
    | some a => exact fun k => by cases k
  · rcases h.seg with e | ⟨b, off, rfl, hc⟩
    · exact .inl (by rw [e]; simp)
    · refine .inr ⟨b, off + k * 2, ?_, fun j hj => ?_⟩
      · rw [if_neg (by omega)]
        simp only [Option.map_some, Go.WideShapes.add_plain]
      · rw [List.length_drop, List.length_take] at hj
        rw [List.getElem_drop, List.getElem_take, show off + k * 2 + j * 2 = off + (k + j) * 2 by omega]
        exact hc (k + j) (by omega)
theorem own_has {w : World} {B n cap : Nat} {ao : Option Addr} {xs : List T} (h : Own w B (.slice ao n cap) xs) (hs : ∀ r ∈ xs, Short r) : Ls w ao n cap xs := by
  obtain ⟨ao', cap', e, hL, _⟩ := own_ls h hs
  cases e
  exact hL
theorem own_some {w : World} {B n cap : Nat} {ao : Option Addr} {xs : List T} (h : Own w B (.slice ao n cap) xs) (hn : 0 < n) : ∃ g, ao = some ⟨g, 0, none⟩ := by
  rcases h.2 with ⟨h', h2⟩ | ⟨g, c, cur, h', _⟩
  · cases h'
    omega
  · cases h'
    exact ⟨g, rfl⟩
theorem own_lt {w : World} {B n cap vg : Nat} {M : List T} (h : Own w B (.slice (some ⟨vg, 0, none⟩) n cap) M) : vg < w.heap.size := by
  rcases h.2 with ⟨h', h0⟩ | ⟨g', c', cu, h', _, hg, _⟩
  · cases h'
  · simp only [Value.slice.injEq, Option.some.injEq, Addr.mk.injEq, and_true] at h'
    obtain ⟨hl, _⟩ := Array.getElem?_eq_some_iff.1 hg
    rw [h'.1]
    exact hl
theorem get_mid {P D : List T} {r : T} {j : Nat} (h : P.length = j) : ∃ hl : j < (P ++ r :: D).length, (P ++ r :: D)[j] = r := by
  subst h
  refine ⟨by simp, ?_⟩
  rw [List.getElem_append_right (Nat.le_refl _)]
  simp
theorem set_mid {P D : List T} {r s : T} {j : Nat} (h : P.length = j) : (P ++ r :: D).set j s = (P ++ [s]) ++ D := by
  subst h
  rw [List.set_append_right _ _ (Nat.le_refl _)]
  simp
end Go.Proofs.Ytgnepgkmjgpkeaa.Ba
