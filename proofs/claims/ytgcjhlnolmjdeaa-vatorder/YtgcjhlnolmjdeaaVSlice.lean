/- PIECES OF A SLICE OF ROWS. -/
import Derived.Test.YtgcjhlnolmjdeaaVSeg
namespace Go.Proofs.Ytgcjhlnolmjdeaa
open Go.RowKit
open Vt (Rt)

theorem sizeR (u : World) : (sizeOf (Try.prog.elem 27)).run Try.prog u = .ok 5 u := by
  have h : (Try.prog.info? (Try.prog.elem 27)).map (·.size) = some 5 := by kernel_rfl
  obtain ⟨i, hi, hs⟩ := Option.map_eq_some_iff.1 h
  simp [sizeOf, typeInfo, hi, hs]
theorem rts_to {w : World} {ao : Option Addr} {n cap : Nat} {rs : List Rt} (h : Rts w ao n cap rs) (k : Nat) (hk : k ≤ n) :
    (∀ u, (Instr.slice 27 (.slice ao n cap) none (some (.int .i64 (k : Int))) none).run Try.prog u = .ok (.slice ao k cap) u) ∧ Rts w ao k cap (rs.take k) := by
  have hl := h.len
  have hf := h.fits
  refine ⟨fun u => ?_, ⟨by rw [List.length_take]; omega, by omega, h.reach, h.nil, ?_, fun r hr => h.short r (List.mem_of_mem_take hr)⟩⟩
  · rw [run_slice_h u 27 ao n cap Try.underlying27 .i64 k (by omega) (by omega), sizeR]
    have e : Option.map (fun x : Addr => x.add 0) ao = ao := by cases ao <;> simp [Addr.add]
    simp [Result.andThen, sliced, e]
  · rcases h.seg with e | ⟨b, off, e, hc⟩
    · exact .inl (by rw [e]; simp)
    · refine .inr ⟨b, off, e, fun j hj => ?_⟩
      rw [List.length_take] at hj
      rw [List.getElem_take]
      exact hc j (by omega)
theorem rts_from {w : World} {ao : Option Addr} {n cap : Nat} {rs : List Rt} (h : Rts w ao n cap rs) (k : Nat) (hk : k ≤ n) :
    ∃ ao2 cap2, (∀ u, (Instr.slice 27 (.slice ao n cap) (some (.int .i64 (k : Int))) none none).run Try.prog u = .ok (.slice ao2 (n - k) cap2) u) ∧ Rts w ao2 (n - k) cap2 (rs.drop k) := by
  have hl := h.len
  have hf := h.fits
  refine ⟨if cap = k then ao else ao.map (·.add (k * 5)), cap - k, fun u => ?_, ⟨by rw [List.length_drop]; omega, by omega, by have := h.reach; omega, ?_, ?_, fun r hr => h.short r (List.mem_of_mem_drop hr)⟩⟩
  · rw [run_slice_l u 27 ao n cap Try.underlying27 .i64 k (by omega) (by omega), sizeR]
    simp [Result.andThen, sliced]
  · by_cases e : cap = k
    · omega
    · rw [if_neg e]
      cases ao with
      | none => have := h.nil rfl; omega
      | some a => exact fun k => by cases k
  · by_cases hkn : k = n
    · exact .inl (List.drop_eq_nil_of_le (by omega))
    · rcases h.seg with e | ⟨b, off, rfl, hc⟩
      · exact .inl (by rw [e]; simp)
      · refine .inr ⟨b, off + k * 5, ?_, fun j hj => ?_⟩
        · rw [if_neg (by omega)]
          unfold Addr.add
          simp only [Option.map_some, Option.some.injEq]
          split
          · rename_i e
            rw [e]
            rfl
          · rfl
        · rw [List.length_drop] at hj
          rw [List.getElem_drop, show off + k * 5 + j * 5 = off + (k + j) * 5 by omega]
          exact hc (k + j) (by omega)
end Go.Proofs.Ytgcjhlnolmjdeaa
