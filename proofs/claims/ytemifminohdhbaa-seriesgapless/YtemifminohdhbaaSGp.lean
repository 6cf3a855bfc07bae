/- PLAIN LEAN: what SeriesGapless remembers of the four series, held against the list; no Go walked here. -/
import Derived.Test.YtemifminohdhbaaSNames
set_option linter.unusedVariables false
namespace Go.Proofs.Ytemifminohdhbaa

def upd {α : Type} (f : Nat → α) (k : Nat) (v : α) : Nat → α := fun i => if i = k then v else f i
theorem upd_same {α : Type} (f : Nat → α) (k : Nat) (v : α) : upd f k v k = v := if_pos rfl
theorem upd_other {α : Type} (f : Nat → α) {k i : Nat} (v : α) (h : i ≠ k) : upd f k v i = f i := if_neg h
def cnt (op : Nat → Bool) : Nat := (op 0).toNat + (op 1).toNat + (op 2).toNat + (op 3).toNat
theorem cnt_le (op : Nat → Bool) : cnt op ≤ 4 := by
  have h0 := Bool.toNat_le (op 0)
  have h1 := Bool.toNat_le (op 1)
  have h2 := Bool.toNat_le (op 2)
  have h3 := Bool.toNat_le (op 3)
  unfold cnt
  omega
theorem cnt_upd {op : Nat → Bool} {k : Nat} (hk : k ≤ 3) (h : op k = false) : cnt (upd op k true) = cnt op + 1 := by
  have h4 : k = 0 ∨ k = 1 ∨ k = 2 ∨ k = 3 := by omega
  rcases h4 with rfl | rfl | rfl | rfl
  all_goals
    unfold cnt upd
    simp [h]
    try omega
/-- what is remembered is the list -/
structure Inv (l : List Sr.T) (la lm : Nat → Int) (op sh : Nat → Bool) : Prop where
  right : Se.rightB l = true
  len : l.length = cnt op
  has : ∀ k, k ≤ 3 → decide (Se.ix (nm k) l < l.length) = op k
  own : ∀ k, k ≤ 3 → op k = true → Se.own l (nm k) = ⟨nm k, la k + 1, lm k, sh k⟩
  new : ∀ k, k ≤ 3 → op k = false → la k = 0 ∧ sh k = false
theorem inv_nil : Inv [] (fun _ => 0) (fun _ => 0) (fun _ => false) (fun _ => false) :=
  ⟨rfl, rfl, fun _ _ => rfl, fun _ _ h => (by cases h), fun _ _ _ => ⟨rfl, rfl⟩⟩
section
variable {l : List Sr.T} {la lm : Nat → Int} {op sh : Nat → Bool} {k : Nat}
theorem Inv.in (h : Inv l la lm op sh) (hk : k ≤ 3) (ho : op k = true) : Se.ix (nm k) l < l.length := of_decide_eq_true ((h.has k hk).trans ho)
theorem Inv.out (h : Inv l la lm op sh) (hk : k ≤ 3) (ho : op k = false) : ¬ Se.ix (nm k) l < l.length := of_decide_eq_false ((h.has k hk).trans ho)
theorem Inv.bound (h : Inv l la lm op sh) (hk : k ≤ 3) : 0 ≤ la k ∧ la k ≤ 1099511627776 ∧ (op k = true → la k ≤ lm k) := by
  cases ho : op k
  · have := (h.new k hk ho).1
    refine ⟨by omega, by omega, fun e => by cases e⟩
  · have hs := Se.sound_iff.1 (((Se.right_iff l).1 h.right).2.1 _ (Se.own_mem (h.in hk ho)))
    rw [h.own k hk ho] at hs
    have hl := Se.lim_iff.1 hs.2.1
    have h1 : 1 ≤ la k + 1 := hs.2.2.1
    have h2 : la k + 1 ≤ lm k + 1 := hs.2.2.2
    have h3 : lm k ≤ 1099511627776 := hl.2
    exact ⟨by omega, by omega, fun _ => by omega⟩
theorem Inv.opened (h : Inv l la lm op sh) (hk : k ≤ 3) (ho : op k = false) {n : Int} (hn : Se.lim n = true) :
    Se.openE l (nm k) n = 0 ∧ Se.openR l (nm k) n = Se.openL l ⟨nm k, 1, n, false⟩ ∧ Inv (Se.openL l ⟨nm k, 1, n, false⟩) la (upd lm k n) (upd op k true) sh := by
  have h8 : l.length < 8 := by have := cnt_le op; have := h.len; omega
  have hno := h.out hk ho
  have e := Se.open_ok h.right (nm_name k) hn hno h8
  have hw : ∀ i, i ≤ 3 → _ := fun i hi => Se.open_own (r := ⟨nm k, 1, n, false⟩) ((Se.right_iff l).1 h.right).2.2 hno (nm i)
  refine ⟨e.1, e.2, Se.open_right h.right (nm_name k) hn hno h8, ?_, ?_, ?_, ?_⟩
  · rw [Se.openL_len, cnt_upd hk ho, h.len]
  · intro i hi
    by_cases hik : i = k
    · subst hik
      rw [upd_same, decide_eq_true_iff]
      exact (hw i hi).1.2 (.inl rfl)
    · rw [upd_other _ _ hik, ← h.has i hi]
      apply Bool.eq_iff_iff.2
      rw [decide_eq_true_iff, decide_eq_true_iff]
      constructor
      · intro x
        rcases (hw i hi).1.1 x with x | x
        · exact absurd (nm_inj hi hk x) hik
        · exact x
      · intro x
        exact (hw i hi).1.2 (.inr x)
  · intro i hi hoi
    rw [(hw i hi).2]
    by_cases hik : i = k
    · subst hik
      rw [if_pos rfl, upd_same]
      have hn0 := h.new i hi ho
      rw [hn0.1, hn0.2]
      rfl
    · rw [if_neg (fun x => hik (nm_inj hi hk x)), upd_other _ _ hik]
      exact h.own i hi (by rw [upd_other _ _ hik] at hoi; exact hoi)
  · intro i hi hoi
    by_cases hik : i = k
    · subst hik
      rw [upd_same] at hoi
      cases hoi
    · exact h.new i hi (by rw [upd_other _ _ hik] at hoi; exact hoi)
theorem Inv.taken (h : Inv l la lm op sh) (hk : k ≤ 3) (ho : op k = true) {n : Int} (hn : Se.lim n = true) : Se.openE l (nm k) n = 12 ∧ Se.openR l (nm k) n = [] :=
  Se.open_taken h.right (nm_name k) hn (h.in hk ho)
theorem Inv.none (h : Inv l la lm op sh) (hk : k ≤ 3) (ho : op k = false) : Se.unE l (nm k) = 11 := Se.un_none h.right (h.out hk ho)
theorem Inv.isShut (h : Inv l la lm op sh) (hk : k ≤ 3) (ho : op k = true) (hs : sh k = true) : Se.unE l (nm k) = 13 :=
  Se.un_shut h.right (h.in hk ho) (by rw [h.own k hk ho]; exact hs)
theorem Inv.isOpen (h : Inv l la lm op sh) (hk : k ≤ 3) (ho : op k = true) (hs : sh k = false) : Se.unE l (nm k) = 0 :=
  Se.un_ok h.right (h.in hk ho) (by rw [h.own k hk ho]; exact hs)
theorem Inv.set (h : Inv l la lm op sh) (hk : k ≤ 3) (ho : op k = true) {r : Sr.T} (hr : r.name = nm k) (hs : Se.sound r = true) {la' lm' : Nat → Int} {sh' : Nat → Bool} (h1 : ∀ i, i ≠ k → la' i = la i ∧ lm' i = lm i ∧ sh' i = sh i) (h2 : r = ⟨nm k, la' k + 1, lm' k, sh' k⟩) : Inv (l.set (Se.ix (nm k) l) r) la' lm' op sh' := by
  have hin := h.in hk ho
  have hw : ∀ i, _ := fun i => Se.set_own (r := r) hin hr (nm i)
  refine ⟨Se.set_right h.right hin hr hs, by rw [List.length_set]; exact h.len, ?_, ?_, ?_⟩
  · intro i hi
    rw [List.length_set, (hw i).1]
    exact h.has i hi
  · intro i hi hoi
    rw [(hw i).2]
    by_cases hik : i = k
    · subst hik
      rw [if_pos rfl]
      exact h2
    · rw [if_neg (fun x => hik (nm_inj hi hk x)), (h1 i hik).1, (h1 i hik).2.1, (h1 i hik).2.2]
      exact h.own i hi hoi
  · intro i hi hoi
    by_cases hik : i = k
    · subst hik
      rw [ho] at hoi
      cases hoi
    · rw [(h1 i hik).1, (h1 i hik).2.2]
      exact h.new i hi hoi
theorem Inv.shut (h : Inv l la lm op sh) (hk : k ≤ 3) (ho : op k = true) (hs : sh k = false) : Inv (Se.shutR l (nm k)) la lm op (upd sh k true) := by
  have hu := h.isOpen hk ho hs
  rw [Se.shut_yes hu]
  have hsd := Se.sound_iff.1 (((Se.right_iff l).1 h.right).2.1 _ (Se.own_mem (h.in hk ho)))
  refine h.set (r := Se.shutT (Se.own l (nm k))) (sh' := upd sh k true) hk ho (by show (Se.own l (nm k)).name = _; rw [h.own k hk ho]) (Se.sound_iff.2 hsd) (fun i hik => ⟨rfl, rfl, upd_other _ _ hik⟩) ?_
  rw [h.own k hk ho, upd_same]
  rfl
theorem Inv.took (h : Inv l la lm op sh) (hk : k ≤ 3) (ho : op k = true) (hs : sh k = false) (hl : la k < lm k) :
    Se.takeE l (nm k) = 0 ∧ Se.takeN l (nm k) = la k + 1 ∧ Inv (Se.takeR l (nm k)) (upd la k (la k + 1)) lm op sh := by
  have hu := h.isOpen hk ho hs
  have hw := h.own k hk ho
  have hnf : ¬ (Se.own l (nm k)).limit < (Se.own l (nm k)).next := by
    rw [hw]
    show ¬ lm k < la k + 1
    omega
  have e := Se.take_ok hu hnf
  have hsd := Se.sound_iff.1 (((Se.right_iff l).1 h.right).2.1 _ (Se.own_mem (h.in hk ho)))
  refine ⟨e.1, by rw [e.2.1, hw], ?_⟩
  rw [e.2.2]
  refine h.set (r := Se.nextT (Se.own l (nm k))) (la' := upd la k (la k + 1)) hk ho (by show (Se.own l (nm k)).name = _; rw [hw]) (Se.sound_iff.2 ⟨hsd.1, hsd.2.1, by have := hsd.2.2.1; show 1 ≤ (Se.own l (nm k)).next + 1; omega, by show (Se.own l (nm k)).next + 1 ≤ (Se.own l (nm k)).limit + 1; omega⟩) (fun i hik => ⟨upd_other _ _ hik, rfl, rfl⟩) ?_
  rw [hw, upd_same]
  rfl
theorem Inv.used (h : Inv l la lm op sh) (hk : k ≤ 3) (ho : op k = true) (hs : sh k = false) (hl : ¬ la k < lm k) : Se.takeE l (nm k) = 14 ∧ Se.takeR l (nm k) = [] := by
  have hu := h.isOpen hk ho hs
  have e := Se.take_full hu (by rw [h.own k hk ho]; show lm k < la k + 1; omega)
  exact ⟨e.1, e.2.2⟩
theorem Inv.less (h : Inv l la lm op sh) : l.length ≤ 4 := by rw [h.len]; exact cnt_le op
end
end Go.Proofs.Ytemifminohdhbaa
