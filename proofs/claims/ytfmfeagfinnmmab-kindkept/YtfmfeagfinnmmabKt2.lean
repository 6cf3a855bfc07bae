/- PLAIN LEAN: what is told flat is taken again; no Go walked here. -/
import Derived.Test.YtfmfeagfinnmmabKt
namespace Go.Proofs.Ytfmfeagfinnmmab.Th
open Vl (T)

theorem head_good (t : Th) : Kd.good (head t) := by
  unfold Kd.good
  cases t with
  | flag b => cases b <;> simp [head]
  | _ => simp [head]
theorem one_of_head {t : Th} (h : kind t ≠ 5) : one (head t) = t := by
  cases t with
  | flag b => cases b <;> simp [head, one]
  | list l => exact absurd rfl h
  | _ => simp [head, one]
theorem manyA_of {f : Nat} (ih : ∀ t, okD t (17 - f) → ∀ r, tk f (flat t ++ r) = .inr (t, r)) : ∀ (l acc : List Th) (r : List T), (∀ s ∈ l, okD s (17 - f)) → manyA (tk f) l.length acc (flats l ++ r) = .inr (acc ++ l, r)
  | [], acc, r, _ => by simp [manyA, flats]
  | t :: l, acc, r, h => by
    have h1 := ih t (h t (by simp)) (flats l ++ r)
    rw [flats, List.append_assoc, List.length_cons, manyA_step h1, manyA_of ih l _ r (fun s hs => h s (by simp [hs])), List.append_assoc]
    rfl
theorem tk_of : ∀ (f : Nat), 1 ≤ f → f ≤ 17 → ∀ t, okD t (17 - f) → ∀ r, tk f (flat t ++ r) = .inr (t, r)
  | 0, h, _, _, _, _ => by omega
  | f + 1, _, hf, t, ht, r => by
    have hc : Kd.chk (head t) (16 - f) = 0 := Kd.chk_good (fun h => by
      rw [head_kind] at h
      exact okD_deep h.1 (by omega) ht) (head_good t)
    rw [flat_eq, List.cons_append]
    by_cases hk : kind t = 5
    · rw [tk_list hc (by rw [head_kind]; exact hk)]
      cases t with
      | list l =>
        rw [okD] at ht
        have hm := manyA_of (f := f) (tk_of f (by omega) (by omega)) l [] r (by
          intro s hs
          have := okDs_iff.1 ht.2 s hs
          rw [show 17 - (f + 1) + 1 = 17 - f by omega] at this
          exact this)
        have e : (head (.list l)).n.toNat = l.length := by simp [head]
        rw [e, kids, hm]
        rfl
      | _ => exact absurd hk (by simp [kind])
    · rw [tk_one hc (by rw [head_kind]; exact hk), kids_none hk, one_of_head hk]
      rfl
theorem ofE_flat {t : Th} (h : fits t 0 0) : Kd.ofE (flat t) = 0 ∧ tk 17 (flat t) = .inr (t, []) := by
  have h1 := tk_of 17 (by omega) (by omega) t h.1 []
  rw [List.append_nil] at h1
  refine ⟨?_, h1⟩
  have h2 := h.2
  unfold Kd.ofE
  rw [if_neg (by omega), walk_tk, h1]
  rfl
/-- a thing is told by its values -/
theorem flat_inj {s t : Th} (hs : okD s 0) (ht : okD t 0) (h : flat s = flat t) : s = t := by
  have h1 := tk_of 17 (by omega) (by omega) s hs []
  have h2 := tk_of 17 (by omega) (by omega) t ht []
  rw [h, h2] at h1
  injection h1 with h1
  injection h1 with h1
  exact h1.symm
/-- lists one in the other around an int -/
def nest : Nat → Th
  | 0 => .num 1
  | n + 1 => .list [nest n]
theorem nest_okD : ∀ (n k : Nat), okD (nest n) k ↔ n = 0 ∨ k + n ≤ 16
  | 0, k => by simp [nest, okD]
  | n + 1, k => by
    rw [nest, okD, okDs_iff]
    simp only [List.mem_singleton, forall_eq]
    rw [nest_okD n (k + 1)]
    omega
theorem nest_flat : ∀ n : Nat, flat (nest n) = List.replicate n ⟨5, 1, .empty, 0, 0, 0⟩ ++ [⟨1, 1, .empty, 0, 0, 0⟩]
  | 0 => by simp [nest, flat]
  | n + 1 => by
    rw [nest, flat, flats_one, nest_flat n, List.replicate_succ, List.cons_append]
    rfl
theorem nest_deep : ∀ (f n : Nat), f < n → ∀ r, tk (f + 1) (flat (nest n) ++ r) = .inl 2 ∨ 17 < f + 1
  | f, 0, h, r => by omega
  | 0, n + 1, _, r => by
    refine .inl ?_
    rw [nest, flat, List.cons_append, tk_bad (by rw [Kd.chk_deep rfl (by omega)]; omega), Kd.chk_deep rfl (by omega)]
  | f + 1, n + 1, h, r => by
    by_cases hf : 17 < f + 1 + 1
    · exact .inr hf
    · refine .inl ?_
      have ih := (nest_deep f n (by omega) r).resolve_right (by omega)
      rw [nest, flat, flats_one, List.cons_append, tk_list (Kd.chk_good (by simp; omega) (by unfold Kd.good; simp)) rfl]
      have e : (([nest n] : List Th).length : Int).toNat = 0 + 1 := by simp
      simp only [e]
      rw [manyA_bad ih]
theorem nest_ofE {n : Nat} (h : 16 < n) (h2 : n ≤ 100) : Kd.ofE (flat (nest n)) = 2 := by
  have h1 := (nest_deep 16 n h []).resolve_right (by omega)
  rw [List.append_nil] at h1
  unfold Kd.ofE
  rw [if_neg (by rw [nest_flat]; simp; omega), walk_tk, h1]
  rfl
end Go.Proofs.Ytfmfeagfinnmmab.Th
