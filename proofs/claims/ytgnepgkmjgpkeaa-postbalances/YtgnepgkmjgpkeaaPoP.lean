/- PLAIN LEAN: where an account stands in a right book; books of the same accounts; rows sorted and brought together; no Go walked here. -/
import Derived.Test.YtgnepgkmjgpkeaaPo
import Derived.Test.YtgnepgkmjgpkeaaBaB
import Derived.Test.YtgnepgkmjgpkeaaBaA
import Derived.Lib.SlicesCompact
import Derived.Lib.Bytealg
set_option linter.unusedVariables false
namespace Go.Proofs.Ytgnepgkmjgpkeaa.Po

instance : Inhabited Ba.T := ⟨Ba.zero⟩
instance : DecidableEq Ba.T := fun a b => decidable_of_iff (Ba.eqB a b = true) (Ba.eqB_iff a b)

/-! ### where an account stands -/
theorem spot_before {c : ByteArray} : ∀ {l : List Ba.T} {i : Nat}, i < spot c l → ∃ h : i < l.length, lt l[i].acct c = true
  | [], i, h => by
    unfold spot at h
    omega
  | a :: l, i, h => by
    unfold spot at h
    by_cases k : lt a.acct c = true
    · rw [if_pos k] at h
      cases i with
      | zero => exact ⟨by simp, k⟩
      | succ i =>
        obtain ⟨h1, h2⟩ := spot_before (c := c) (l := l) (i := i) (by omega)
        exact ⟨by simpa using h1, by simpa using h2⟩
    · rw [if_neg k] at h
      omega
theorem spot_behind {c : ByteArray} : ∀ {l : List Ba.T}, Sorted l → ∀ {i : Nat} (hi : i < l.length), spot c l ≤ i → lt l[i].acct c = false
  | a :: l, h, i, hi, k => by
    have h1 := (List.pairwise_cons.1 h).1
    have h2 := (List.pairwise_cons.1 h).2
    unfold spot at k
    by_cases q : lt a.acct c = true
    · rw [if_pos q] at k
      cases i with
      | zero => omega
      | succ i =>
        have := spot_behind (c := c) h2 (i := i) (by simpa using hi) (by omega)
        simpa using this
    · rw [Bool.not_eq_true] at q
      cases i with
      | zero => exact q
      | succ i =>
        have hi' : i < l.length := by simpa using hi
        rw [Bool.eq_false_iff]
        intro m
        rw [List.getElem_cons_succ] at m
        have := lt_trans (h1 _ (List.getElem_mem hi')) m
        rw [q] at this
        cases this
/-- the half that is left, where the middle one's account is less -/
theorem half_up {c : ByteArray} {l : List Ba.T} (h : Sorted l) {m : Nat} (hm : m < l.length) (k : lt l[m].acct c = true) : m + 1 ≤ spot c l := by
  rcases Nat.lt_or_ge m (spot c l) with q | q
  · exact q
  · rw [spot_behind h hm q] at k
    cases k
theorem half_down {c : ByteArray} {l : List Ba.T} {m : Nat} (hm : m < l.length) (k : lt l[m].acct c = false) : spot c l ≤ m := by
  rcases Nat.lt_or_ge m (spot c l) with q | q
  · obtain ⟨_, h2⟩ := spot_before q
    rw [h2] at k
    cases k
  · exact q
/-! ### books of the same accounts -/
theorem mem_iff {l : List Ba.T} (h : Sorted l) (x : Ba.T) : x ∈ l ↔ has x.acct l = true ∧ val x.acct l = x.amt := by
  constructor
  · intro hx
    obtain ⟨p, q⟩ := look h hx rfl
    exact ⟨q, by unfold val; rw [p]⟩
  · rintro ⟨h1, h2⟩
    obtain ⟨y, hy, e⟩ := has_mem h1
    obtain ⟨p, _⟩ := look h hy e
    unfold val at h2
    rw [p] at h2
    cases x
    cases y
    simp only at e h2
    subst e h2
    exact hy
theorem ext_mem : ∀ {l m : List Ba.T}, Sorted l → Sorted m → (∀ x, x ∈ l ↔ x ∈ m) → l = m
  | [], [], _, _, _ => rfl
  | [], b :: m, _, _, h => by
    have := (h b).2 (by simp)
    simp at this
  | a :: l, [], _, _, h => by
    have := (h a).1 (by simp)
    simp at this
  | a :: l, b :: m, hl, hm, h => by
    have l1 := (List.pairwise_cons.1 hl).1
    have l2 := (List.pairwise_cons.1 hl).2
    have m1 := (List.pairwise_cons.1 hm).1
    have m2 := (List.pairwise_cons.1 hm).2
    have e : a = b := by
      rcases List.mem_cons.1 ((h a).1 (by simp)) with e | e
      · exact e
      · rcases List.mem_cons.1 ((h b).2 (by simp)) with e' | e'
        · exact e'.symm
        · have := lt_trans (m1 a e) (l1 b e')
          rw [lt_irrefl] at this
          cases this
    subst e
    have no : ∀ {k : List Ba.T}, (∀ x ∈ k, lt a.acct x.acct = true) → a ∉ k := fun {k} hk ha => by
      have := hk a ha
      rw [lt_irrefl] at this
      cases this
    have t : l = m := ext_mem l2 m2 fun x => by
      constructor
      · intro hx
        rcases List.mem_cons.1 ((h x).1 (by simp [hx])) with e | e
        · exact absurd (e ▸ hx) (no l1)
        · exact e
      · intro hx
        rcases List.mem_cons.1 ((h x).2 (by simp [hx])) with e | e
        · exact absurd (e ▸ hx) (no m1)
        · exact e
    rw [t]
theorem ext_val {l m : List Ba.T} (hl : Sorted l) (hm : Sorted m) (h : ∀ c, has c l = has c m ∧ val c l = val c m) : l = m :=
  ext_mem hl hm fun x => by rw [mem_iff hl, mem_iff hm, (h _).1, (h _).2]
theorem has_iff {l : List Ba.T} (h : Sorted l) (c : ByteArray) : has c l = true ↔ ∃ x ∈ l, x.acct = c :=
  ⟨has_mem, fun ⟨_, hx, e⟩ => (look h hx e).2⟩
/-! ### accounts that a book lacks -/
def news (b : List Ba.T) : List Ba.T → List Ba.T
  | [] => []
  | x :: l => if has x.acct b = true then news b l else ⟨x.acct, 0⟩ :: news b l
theorem news_app (b : List Ba.T) : ∀ l m : List Ba.T, news b (l ++ m) = news b l ++ news b m
  | [], m => rfl
  | x :: l, m => by
    rw [List.cons_append, news, news, news_app b l m]
    split <;> rfl
theorem news_step (b ls : List Ba.T) (k : Nat) (h : k < ls.length) : news b (ls.take (k + 1)) = news b (ls.take k) ++ (if has ls[k].acct b = true then [] else [⟨ls[k].acct, 0⟩]) := by
  rw [List.take_succ_eq_append_getElem h, news_app]
  congr 1
theorem news_len (b : List Ba.T) : ∀ l : List Ba.T, (news b l).length ≤ l.length
  | [] => Nat.le_refl _
  | x :: l => by
    have := news_len b l
    unfold news
    split <;> simp <;> omega
theorem mem_news {b : List Ba.T} : ∀ {l : List Ba.T} {x : Ba.T}, x ∈ news b l ↔ x.amt = 0 ∧ has x.acct b = false ∧ named x.acct l = true
  | [], x => by
    constructor
    · intro h
      cases h
    · rintro ⟨_, _, h⟩
      cases h
  | y :: l, x => by
    have ih := mem_news (b := b) (l := l) (x := x)
    have hn : named x.acct (y :: l) = (decide (y.acct = x.acct) || named x.acct l) := rfl
    unfold news
    rw [hn]
    by_cases h : has y.acct b = true
    · rw [if_pos h, ih]
      constructor
      · rintro ⟨h1, h2, h3⟩
        exact ⟨h1, h2, by rw [h3, Bool.or_true]⟩
      · rintro ⟨h1, h2, h3⟩
        refine ⟨h1, h2, ?_⟩
        rcases Bool.or_eq_true_iff.1 h3 with e | e
        · rw [of_decide_eq_true e, h2] at h
          cases h
        · exact e
    · rw [if_neg h, List.mem_cons, ih]
      rw [Bool.not_eq_true] at h
      constructor
      · rintro (rfl | ⟨h1, h2, h3⟩)
        · exact ⟨rfl, h, by simp⟩
        · exact ⟨h1, h2, by rw [h3, Bool.or_true]⟩
      · rintro ⟨h1, h2, h3⟩
        rcases Bool.or_eq_true_iff.1 h3 with e | e
        · left
          cases x
          cases y
          simp only at h1 e
          have e' := of_decide_eq_true e
          subst h1 e'
          rfl
        · exact .inr ⟨h1, h2, e⟩
/-- a book with all the accounts that are to be entered -/
structure Opened (b ls M : List Ba.T) : Prop where
  sorted : Sorted M
  has : ∀ c, has c M = (has c b || named c ls)
  val : ∀ c, val c M = val c b
theorem opened_of {b ls M : List Ba.T} (hb : Sorted b) (hM : Sorted M) (h : ∀ x, x ∈ M ↔ x ∈ b ++ news b ls) : Opened b ls M := by
  have hh : ∀ c, Po.has c M = (Po.has c b || named c ls) := fun c => by
    rw [Bool.eq_iff_iff, has_iff hM, Bool.or_eq_true_iff]
    constructor
    · rintro ⟨x, hx, rfl⟩
      rcases List.mem_append.1 ((h x).1 hx) with k | k
      · exact .inl ((has_iff hb _).2 ⟨x, k, rfl⟩)
      · exact .inr (mem_news.1 k).2.2
    · intro k
      cases q : Po.has c b with
      | true =>
        obtain ⟨x, hx, e⟩ := (has_iff hb c).1 q
        exact ⟨x, (h x).2 (List.mem_append.2 (.inl hx)), e⟩
      | false =>
        rw [q] at k
        have k' : named c ls = true := by simpa using k
        exact ⟨⟨c, 0⟩, (h _).2 (List.mem_append.2 (.inr (mem_news.2 ⟨rfl, q, k'⟩))), rfl⟩
  refine ⟨hM, hh, fun c => ?_⟩
  cases q : Po.has c M with
  | true =>
    obtain ⟨x, hx, e⟩ := (has_iff hM c).1 q
    have v1 : Po.val c M = x.amt := by unfold Po.val; rw [(look hM hx e).1]
    rcases List.mem_append.1 ((h x).1 hx) with k | k
    · have v2 : Po.val c b = x.amt := by unfold Po.val; rw [(look hb k e).1]
      rw [v1, v2]
    · obtain ⟨k1, k2, _⟩ := mem_news.1 k
      rw [e] at k2
      rw [v1, k1, val_no k2]
  | false =>
    have k := hh c
    rw [q] at k
    have k2 : Po.has c b = false := by
      cases z : Po.has c b with
      | false => rfl
      | true => rw [z] at k; cases k
    rw [val_no q, val_no k2]
theorem opened_step {b ls M : List Ba.T} (h : Opened b ls M) {x : Ba.T} (hx : named x.acct ls = true) (n : Int) : ∀ c, Po.has c (enter x.acct n M) = (Po.has c b || named c ls) ∧ Po.val c (enter x.acct n M) = Po.val c (enter x.acct n b) := fun c => by
  have h1 := val_enter c x.acct n M
  have h2 := val_enter c x.acct n b
  refine ⟨?_, by rw [h1.1, h2.1, h.val]⟩
  rw [h1.2, h.has]
  by_cases e : x.acct = c
  · subst e
    rw [hx]
    simp
  · rw [decide_eq_false e, Bool.or_false]
/-! ### rows sorted, and those that are the same brought together -/
theorem compact_spec (d : Array Ba.T) (hs : ∀ i j, i < j → j < d.size → lt d[j]!.acct d[i]!.acct = false) (h1 : ∀ i j, i < d.size → j < d.size → d[i]!.acct = d[j]!.acct → d[i]! = d[j]!) :
    ∀ m, m ≤ d.size → Sorted (Lib.compactUpTo d m) ∧ ∀ x, x ∈ Lib.compactUpTo d m ↔ ∃ i, i < m ∧ d[i]! = x
  | 0, _ => ⟨List.Pairwise.nil, fun x => ⟨fun h => (by cases h), fun ⟨i, h, _⟩ => by omega⟩⟩
  | m + 1, hm => by
    obtain ⟨ih1, ih2⟩ := compact_spec d hs h1 m (by omega)
    rw [Lib.compactUpTo_succ]
    by_cases hk : Lib.keeps d m = true
    · rw [if_pos hk]
      refine ⟨List.pairwise_append.2 ⟨ih1, List.pairwise_singleton _ _, ?_⟩, fun x => ?_⟩
      · intro x hx y hy
        obtain rfl := List.mem_singleton.1 hy
        obtain ⟨i, hi, rfl⟩ := (ih2 x).1 hx
        rcases lt_tri d[i]!.acct d[m]!.acct with e | e | e
        · exact e
        · exfalso
          have hne : d[m]! ≠ d[m - 1]! := by
            unfold Lib.keeps at hk
            rcases of_decide_eq_true hk with q | q
            · omega
            · exact q
          apply hne
          apply h1 _ _ (by omega) (by omega)
          rcases Nat.lt_or_ge i (m - 1) with q | q
          · have a1 := hs i (m - 1) q (by omega)
            have a2 := hs (m - 1) m (by omega) (by omega)
            rw [e] at a1
            rcases lt_tri d[m]!.acct d[m - 1]!.acct with z | z | z
            · rw [a2] at z; cases z
            · exact z
            · rw [a1] at z; cases z
          · rw [show m - 1 = i by omega]
            exact e.symm
        · rw [hs i m hi (by omega)] at e
          cases e
      · rw [List.mem_append, ih2 x, List.mem_singleton]
        constructor
        · rintro (⟨i, hi, e⟩ | e)
          · exact ⟨i, by omega, e⟩
          · exact ⟨m, by omega, e.symm⟩
        · rintro ⟨i, hi, e⟩
          rcases Nat.lt_or_ge i m with q | q
          · exact .inl ⟨i, q, e⟩
          · obtain rfl : i = m := by omega
            exact .inr e.symm
    · rw [if_neg hk, List.append_nil]
      refine ⟨ih1, fun x => ?_⟩
      rw [ih2 x]
      constructor
      · rintro ⟨i, hi, e⟩
        exact ⟨i, by omega, e⟩
      · rintro ⟨i, hi, e⟩
        rcases Nat.lt_or_ge i m with q | q
        · exact ⟨i, q, e⟩
        · obtain rfl : i = m := by omega
          unfold Lib.keeps at hk
          rw [decide_eq_true_iff] at hk
          have hm0 : i ≠ 0 := fun h => hk (.inl h)
          have he : d[i]! = d[i - 1]! := Classical.byContradiction fun h => hk (.inr h)
          exact ⟨i - 1, by omega, by rw [← he]; exact e⟩
/-! ### strings.Compare -/
theorem cmp_lt : ∀ a b : List UInt8, decide (Lib.compareBytes a b < 0) = Op.bytesLess a b
  | [], [] => rfl
  | [], _ :: _ => rfl
  | _ :: _, [] => rfl
  | a :: x, b :: y => by
    have ih := cmp_lt x y
    unfold Lib.compareBytes Op.bytesLess
    by_cases h : a < b
    · rw [if_pos h, decide_eq_true h]
      rfl
    · rw [if_neg h, decide_eq_false h, Bool.false_or]
      by_cases k : b < a
      · rw [if_pos k]
        have hne : (a == b) = false := beq_eq_false_iff_ne.2 fun e => by subst e; exact UInt8.lt_irrefl a k
        rw [hne]
        rfl
      · rw [if_neg k, ih]
        have he : a = b := UInt8.le_antisymm (UInt8.not_lt.1 k) (UInt8.not_lt.1 h)
        rw [beq_iff_eq.2 he, Bool.true_and]
end Go.Proofs.Ytgnepgkmjgpkeaa.Po
