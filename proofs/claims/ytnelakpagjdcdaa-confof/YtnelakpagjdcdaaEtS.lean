/- api.Entry: ROWS THAT LIE ONE BEHIND THE OTHER, AND PIECES OF THEM. (By genrows.py.) -/
import Derived.Test.YtnelakpagjdcdaaEtK
namespace Go.Proofs.Ytnelakpagjdcdaa.Et
open Go.RowKit
open Mem

/-- a row lies at a place of a block -/
structure At (u : World) (b o : Nat) (r : T) : Prop where
  c0 : u.cell? ⟨b, o, none⟩ = some (.int .i64 r.term)
  c1 : u.cell? ⟨b, o + 1, none⟩ = some (.int .i64 r.mem)
  c2 : u.cell? ⟨b, o + 2, none⟩ = some (.string r.data)
theorem At.below {u v : World} {b o : Nat} {r : T} (h : At u b o r) (k : Below u.heap.size u v) : At v b o r := by
  have hl := cell_lt h.c0
  exact ⟨by rw [(bcell k).1 _ _ hl]; exact h.c0, by rw [(bcell k).1 _ _ hl]; exact h.c1, by rw [(bcell k).1 _ _ hl]; exact h.c2⟩
/-- rows lie at an address -/
def Seg (w : World) (ao : Option Addr) (rs : List T) : Prop := rs = [] ∨ ∃ b off, ao = some ⟨b, off, none⟩ ∧ ∀ (k : Nat) (hk : k < rs.length), At w b (off + k * 3) rs[k]
theorem Seg.below {w v : World} {ao : Option Addr} {rs : List T} (h : Seg w ao rs) (k : Below w.heap.size w v) : Seg v ao rs := by
  rcases h with h | ⟨b, off, e, h⟩
  · exact .inl h
  · exact .inr ⟨b, off, e, fun i hi => (h i hi).below k⟩
/-- a slice of rows, as a contract takes it -/
structure Ls (w : World) (ao : Option Addr) (n cap : Nat) (rs : List T) : Prop where
  len : n = rs.length
  fits : n ≤ cap
  reach : cap ≤ 9223372036854775807
  nil : ao = none → cap = 0
  seg : Seg w ao rs
  short : ∀ r ∈ rs, Short r
theorem Ls.below {w v : World} {ao : Option Addr} {n cap : Nat} {rs : List T} (h : Ls w ao n cap rs) (k : Below w.heap.size w v) : Ls v ao n cap rs :=
  ⟨h.len, h.fits, h.reach, h.nil, h.seg.below k, h.short⟩
theorem Ls.at {w : World} {ao : Option Addr} {n cap : Nat} {rs : List T} (h : Ls w ao n cap rs) (hn : 0 < n) : ∃ b off, ao = some ⟨b, off, none⟩ := by
  rcases h.seg with e | ⟨b, off, e, _⟩
  · have := h.len
    rw [e] at this
    simp at this
    omega
  · exact ⟨b, off, e⟩
theorem Ls.row {w : World} {b off n cap : Nat} {rs : List T} (h : Ls w (some ⟨b, off, none⟩) n cap rs) (k : Nat) (hk : k < rs.length) : At w b (off + k * 3) rs[k] := by
  rcases h.seg with e | ⟨b', off', e, hs⟩
  · subst e
    simp at hk
  · cases e
    exact hs k hk
theorem ls_nil (w : World) : Ls w none 0 0 [] := ⟨rfl, Nat.le_refl _, by omega, fun _ => rfl, .inl rfl, by simp⟩
theorem und : Try.prog.underlying 30 = some (.slice (Try.prog.elem 30)) := by kernel_rfl
theorem size (u : World) : (sizeOf (Try.prog.elem 30)).run Try.prog u = .ok 3 u := by
  have h : (Try.prog.info? (Try.prog.elem 30)).map (·.size) = some 3 := by kernel_rfl
  obtain ⟨i, hi, hs⟩ := Option.map_eq_some_iff.1 h
  simp [sizeOf, typeInfo, hi, hs]
theorem Ls.to {w : World} {ao : Option Addr} {n cap : Nat} {rs : List T} (h : Ls w ao n cap rs) (k : Nat) (hk : k ≤ n) :
    (∀ u, (Instr.slice 30 (.slice ao n cap) none (some (.int .i64 (k : Int))) none).run Try.prog u = .ok (.slice ao k cap) u) ∧ Ls w ao k cap (rs.take k) := by
  have hl := h.len
  have hf := h.fits
  refine ⟨fun u => ?_, ⟨by rw [List.length_take]; omega, by omega, h.reach, h.nil, ?_, fun r hr => h.short r (List.mem_of_mem_take hr)⟩⟩
  · rw [run_slice_h u 30 ao n cap und .i64 k (by omega) (by omega), size]
    have e : Option.map (fun x : Addr => x.add 0) ao = ao := by cases ao <;> simp [Addr.add]
    simp [Result.andThen, sliced, e]
  · rcases h.seg with e | ⟨b, off, e, hc⟩
    · exact .inl (by rw [e]; simp)
    · refine .inr ⟨b, off, e, fun j hj => ?_⟩
      rw [List.length_take] at hj
      rw [List.getElem_take]
      exact hc j (by omega)
theorem Ls.from {w : World} {ao : Option Addr} {n cap : Nat} {rs : List T} (h : Ls w ao n cap rs) (k : Nat) (hk : k ≤ n) :
    ∃ ao2 cap2, (∀ u, (Instr.slice 30 (.slice ao n cap) (some (.int .i64 (k : Int))) none none).run Try.prog u = .ok (.slice ao2 (n - k) cap2) u) ∧ Ls w ao2 (n - k) cap2 (rs.drop k) := by
  have hl := h.len
  have hf := h.fits
  refine ⟨if cap = k then ao else ao.map (·.add (k * 3)), cap - k, fun u => ?_, ⟨by rw [List.length_drop]; omega, by omega, by have := h.reach; omega, ?_, ?_, fun r hr => h.short r (List.mem_of_mem_drop hr)⟩⟩
  · rw [run_slice_l u 30 ao n cap und .i64 k (by omega) (by omega), size]
    simp [Result.andThen, sliced]
  · by_cases e : cap = k
    · omega
    · rw [if_neg e]
      cases ao with
      | none => have := h.nil rfl; omega
      | some a => exact fun k => by cases k
  · by_cases hkn : k = n
    · exact .inl (List.drop_eq_nil_of_le (by omega))
    · rcases h.seg with e | ⟨b, off, rfl, hc⟩
      · exact .inl (by rw [e]; simp)
      · refine .inr ⟨b, off + k * 3, ?_, fun j hj => ?_⟩
        · rw [if_neg (by omega)]
          unfold Addr.add
          simp only [Option.map_some, Option.some.injEq]
          split
          · rename_i e
            rw [e]
            rfl
          · rfl
        · rw [List.length_drop] at hj
          rw [List.getElem_drop, show off + k * 3 + j * 3 = off + (k + j) * 3 by omega]
          exact hc (k + j) (by omega)
end Go.Proofs.Ytnelakpagjdcdaa.Et
