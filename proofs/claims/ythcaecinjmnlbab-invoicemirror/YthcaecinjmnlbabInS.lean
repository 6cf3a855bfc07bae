/- PLAIN LEAN: the parts of a total are rows of memory; no Go walked here. -/
import Derived.Test.YthcaecinjmnlbabInT
import Derived.Test.YthcaecinjmnlbabHc
set_option linter.unusedVariables false
namespace Go.Proofs.Ythcaecinjmnlbab
open Vt (Rt)

theorem goL_short {rs : List Rt} {y m d : Int} (hr : ∀ r ∈ rs, Short r) : ∀ (ls : List Ln.T) (ps : List Pt.T), (∀ x ∈ ls, Ln.Short x) → (∀ r ∈ ps, Pt.Short r) → Iv.goE rs y m d ls ps = 0 → ∀ r ∈ Iv.goL rs y m d ls ps, Pt.Short r
  | [], _, _, hp, _ => hp
  | x :: l, ps, hl, hp, he => by
    have hx := hl x (by simp)
    rw [Iv.goE] at he
    by_cases h1 : Iv.lineE rs y m d x = 0
    · rw [h1, if_neg (by simp)] at he
      by_cases h2 : Iv.enterE x.category (Vt.find rs x.category y m d).1 (x.count * x.price) ps = 0
      · rw [h2, if_neg (by simp)] at he
        exact goL_short hr l _ (fun z hz => hl z (by simp [hz])) (enter_short hx.2.1 (find_fit hr x.category y m d) hp h2) he
      · rw [if_pos h2] at he
        omega
    · rw [if_pos h1] at he
      exact absurd he h1
theorem tot_0 {rs : List Rt} {y m d : Int} {ls : List Ln.T} (h : Iv.totE rs y m d ls = 0) : Iv.headE rs y m d ls = 0 ∧ Iv.goE rs y m d ls [] = 0 ∧ Iv.sumE (Iv.goL rs y m d ls []) = 0 ∧ Iv.totT rs y m d ls = Iv.sumT (Iv.goL rs y m d ls []) := by
  by_cases h1 : Iv.headE rs y m d ls = 0
  · by_cases h2 : Iv.goE rs y m d ls [] = 0
    · have h3 := Iv.tot_sum h1 h2
      rw [h] at h3
      refine ⟨h1, h2, h3.1.symm, ?_⟩
      rw [h3.2, if_pos h3.1.symm]
    · have h3 := Iv.tot_line h1 h2
      rw [h] at h3
      exact absurd h3.1.symm h2
  · have h3 := Iv.tot_head h1
    rw [h] at h3
    exact absurd h3.1.symm h1
theorem totT_short {rs : List Rt} {y m d : Int} {ls : List Ln.T} (hr : ∀ r ∈ rs, Short r) (hl : ∀ x ∈ ls, Ln.Short x) : ∀ r ∈ (Iv.totT rs y m d ls).parts, Pt.Short r := by
  by_cases h : Iv.totE rs y m d ls = 0
  · obtain ⟨_, h2, _, h4⟩ := tot_0 h
    rw [h4]
    intro r hr'
    obtain ⟨p, hp, rfl⟩ := List.mem_map.1 (show r ∈ (Iv.goL rs y m d ls []).map Iv.taxed from hr')
    have hs := goL_short hr ls [] hl (by simp) h2 p hp
    exact ⟨hs.1, hs.2.1, hs.2.2.1, tax_fit p.net p.bp⟩
  · have : Iv.totT rs y m d ls = Iv.Tot.zero := if_neg h
    rw [this]
    intro r hr'
    cases hr'
theorem tot_len {rs : List Rt} {y m d : Int} {ls : List Ln.T} : (Iv.totT rs y m d ls).parts.length ≤ 12 := by
  by_cases h : Iv.totE rs y m d ls = 0
  · obtain ⟨h1, _, _, h4⟩ := tot_0 h
    have hl := Iv.goL_len rs y m d ls []
    rw [h4]
    show ((Iv.goL rs y m d ls []).map Iv.taxed).length ≤ 12
    rw [List.length_map]
    unfold Iv.headE at h1
    split at h1
    · omega
    · split at h1
      · omega
      · split at h1
        · omega
        · split at h1
          · omega
          · simp only [List.length_nil] at hl
            omega
  · have : Iv.totT rs y m d ls = Iv.Tot.zero := if_neg h
    rw [this]
    show (0 : Nat) ≤ 12
    omega
theorem sumT_fit {l : List Pt.T} (h : Iv.sumE l = 0) : Fit (Iv.nets l) ∧ Fit (Iv.taxes l) ∧ Fit (Iv.nets l + Iv.taxes l) := by
  have hu : ∀ (l : List Pt.T) (N T : Int), Fit N → Fit T → Iv.upE l N T = 0 → Fit (N + Iv.nets l) ∧ Fit (T + Iv.taxes l) := by
    intro l
    induction l with
    | nil =>
      intro N T hN hT _
      show Fit (N + 0) ∧ Fit (T + 0)
      rw [Int.add_zero, Int.add_zero]
      exact ⟨hN, hT⟩
    | cons p l ih =>
      intro N T hN hT he
      rw [Iv.upE] at he
      by_cases h1 : Sh.taxE p.net p.bp = 0
      · rw [h1, if_neg (by simp)] at he
        by_cases h2 : Mn.err (N + p.net) = 0
        · rw [h2, if_neg (by simp)] at he
          by_cases h3 : Mn.err (T + Sh.taxV p.net p.bp) = 0
          · rw [h3, if_neg (by simp)] at he
            have := ih _ _ (Iv.err_0 h2) (Iv.err_0 h3) he
            rw [Iv.nets, Iv.taxes, ← Int.add_assoc, ← Int.add_assoc]
            exact this
          · rw [if_pos h3] at he
            omega
        · rw [if_pos h2] at he
          omega
      · rw [if_pos h1] at he
        exact absurd he h1
  unfold Iv.sumE at h
  by_cases h1 : Iv.upE l 0 0 = 0
  · rw [h1, if_neg (by simp)] at h
    have := hu l 0 0 ⟨by omega, by omega⟩ ⟨by omega, by omega⟩ h1
    rw [Int.zero_add, Int.zero_add] at this
    exact ⟨this.1, this.2, Iv.err_0 h⟩
  · rw [if_pos h1] at h
    exact absurd h h1
theorem totT_fit (rs : List Rt) (y m d : Int) (ls : List Ln.T) : Fit (Iv.totT rs y m d ls).net ∧ Fit (Iv.totT rs y m d ls).tax ∧ Fit (Iv.totT rs y m d ls).gross := by
  have h0 : Fit 0 := ⟨by omega, by omega⟩
  by_cases h : Iv.totE rs y m d ls = 0
  · obtain ⟨_, _, h3, h4⟩ := tot_0 h
    rw [h4]
    exact sumT_fit h3
  · have : Iv.totT rs y m d ls = Iv.Tot.zero := if_neg h
    rw [this]
    exact ⟨h0, h0, h0⟩
end Go.Proofs.Ythcaecinjmnlbab
