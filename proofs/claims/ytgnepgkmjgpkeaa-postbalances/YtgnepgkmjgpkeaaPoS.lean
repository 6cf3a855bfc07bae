/- PLAIN LEAN: the rows of a book are rows of memory; no Go walked here. -/
import Derived.Test.YtgnepgkmjgpkeaaRfEn
import Derived.Test.YtgnepgkmjgpkeaaRfEs
set_option linter.unusedVariables false
namespace Go.Proofs.Ytgnepgkmjgpkeaa

theorem Po.enter_short {c : ByteArray} {n : Int} {M : List Ba.T} (hc : c.size ≤ 140737488355328) (hs : ∀ r ∈ M, Ba.Short r) (he : Po.enterE c n M = 0) : ∀ r ∈ Po.enter c n M, Ba.Short r := by
  intro r hr
  unfold Po.enter at hr
  rcases List.mem_or_eq_of_mem_set hr with hr | rfl
  · exact Po.ins_short hc hs r hr
  · exact ⟨(Po.part_short hc hs).1, Iv_err_0 he⟩
theorem Po.goL_short : ∀ (ls M : List Ba.T), (∀ x ∈ ls, Ba.Short x) → (∀ r ∈ M, Ba.Short r) → Po.goE ls M = 0 → ∀ r ∈ Po.goL ls M, Ba.Short r
  | [], _, _, hp, _ => hp
  | x :: l, M, hl, hp, he => by
    rw [Po.goE] at he
    by_cases h2 : Po.enterE x.acct x.amt M = 0
    · rw [h2, if_neg (by simp)] at he
      exact Po.goL_short l _ (fun z hz => hl z (by simp [hz])) (Po.enter_short (hl x (by simp)).1 hp h2) he
    · rw [if_pos h2] at he
      omega
theorem Po.entL_short {bs ls : List Ba.T} (hb : ∀ r ∈ bs, Ba.Short r) (hl : ∀ x ∈ ls, Ba.Short x) : ∀ r ∈ Po.entL bs ls, Ba.Short r := by
  unfold Po.entL
  split
  · rename_i h
    unfold Po.entE at h
    split at h
    · omega
    · exact Po.goL_short ls bs hl hb h
  · intro r hr
    cases hr
theorem Po.goL_len : ∀ (ls M : List Ba.T), (Po.goL ls M).length ≤ M.length + ls.length
  | [], M => by simp [Po.goL]
  | x :: l, M => by
    have h1 := Po.goL_len l (Po.enter x.acct x.amt M)
    have h2 := Po.enter_len (c := x.acct) (n := x.amt) M
    rw [Po.goL, List.length_cons]
    omega
theorem Po.entL_len (bs ls : List Ba.T) : (Po.entL bs ls).length ≤ bs.length + ls.length := by
  unfold Po.entL
  split
  · exact Po.goL_len ls bs
  · simp
theorem Po.entrR_short {g : Int} {ps : List Pt.T} (hg : Fit g) (hs : ∀ x ∈ ps, Pt.Short x) (hc : ∀ x ∈ ps, x.cat.size ≤ 140737488351232) : ∀ r ∈ Po.entrR g ps, Ba.Short r := by
  unfold Po.entrR
  split
  · rename_i h
    refine entr_short hg hs hc fun x hx => ?_
    unfold Po.entrE at h
    split at h
    · omega
    · rename_i h2
      cases hb : Po.badE x with
      | false => rfl
      | true => exact absurd (List.any_eq_true.2 ⟨x, hx, hb⟩) h2
  · intro r hr
    cases hr
end Go.Proofs.Ytgnepgkmjgpkeaa
