/- PLAIN LEAN: sessions, their order, lists of them, who joins, leaves, is looked for and kept; no Go walked here. -/
import Derived.Test.YtfilanbjfnnknaaSnA
set_option linter.unusedVariables false
namespace Go.Proofs.Ytfilanbjfnnknaa.Sp
open Sn (T)

/-! ### ids -/
def lt (a b : Int) : Bool := decide (a < b)
theorem lt_iff {a b : Int} : lt a b = true ↔ a < b := decide_eq_true_iff
theorem lt_trans {a b c : Int} (h : lt a b = true) (k : lt b c = true) : lt a c = true := lt_iff.2 (by have := lt_iff.1 h; have := lt_iff.1 k; omega)
theorem lt_irrefl (a : Int) : lt a a = false := decide_eq_false (by omega)
theorem lt_tri (a b : Int) : lt a b = true ∨ a = b ∨ lt b a = true := by
  rcases Int.lt_trichotomy a b with h | h | h
  · exact .inl (lt_iff.2 h)
  · exact .inr (.inl h)
  · exact .inr (.inr (lt_iff.2 h))
theorem lt_ne {a b : Int} (h : lt a b = true) : a ≠ b := by
  have := lt_iff.1 h
  omega

/-! ### a right list -/
def zeroB (r : T) : Bool := decide (r.why = 0) && (decide (r.num = 0) && decide (r.gross = 0))
theorem zero_iff {r : T} : zeroB r = true ↔ r.why = 0 ∧ r.num = 0 ∧ r.gross = 0 := by
  unfold zeroB
  rw [Bool.and_eq_true, Bool.and_eq_true, decide_eq_true_iff, decide_eq_true_iff, decide_eq_true_iff]
def numB (n : Int) : Bool := decide (1 ≤ n) && decide (n ≤ 1099511627776)
theorem num_iff {n : Int} : numB n = true ↔ 1 ≤ n ∧ n ≤ 1099511627776 := by
  unfold numB
  rw [Bool.and_eq_true, decide_eq_true_iff, decide_eq_true_iff]
def sound (r : T) : Bool := decide (1 ≤ r.id) && (decide (0 ≤ r.last) && (decide (r.last ≤ 1099511627776) && (!(decide (r.last = 0)) || zeroB r)))
theorem sound_iff {r : T} : sound r = true ↔ 1 ≤ r.id ∧ 0 ≤ r.last ∧ r.last ≤ 1099511627776 ∧ (r.last = 0 → r.why = 0 ∧ r.num = 0 ∧ r.gross = 0) := by
  unfold sound
  rw [Bool.and_eq_true, Bool.and_eq_true, Bool.and_eq_true, Bool.or_eq_true, decide_eq_true_iff, decide_eq_true_iff, decide_eq_true_iff, zero_iff, Bool.not_eq_true', decide_eq_false_iff_not]
  constructor
  · rintro ⟨h1, h2, h3, h4⟩
    exact ⟨h1, h2, h3, fun e => h4.resolve_left fun k => k e⟩
  · rintro ⟨h1, h2, h3, h4⟩
    refine ⟨h1, h2, h3, ?_⟩
    by_cases e : r.last = 0
    · exact .inr (h4 e)
    · exact .inl e
theorem sound_no {r : T} (h : r.id < 1 ∨ r.last < 0 ∨ 1099511627776 < r.last ∨ (r.last = 0 ∧ (r.why ≠ 0 ∨ r.num ≠ 0 ∨ r.gross ≠ 0))) : sound r = false := by
  rw [Bool.eq_false_iff]
  intro k
  obtain ⟨k1, k2, k3, k4⟩ := sound_iff.1 k
  rcases h with h | h | h | ⟨h, h'⟩
  · omega
  · omega
  · omega
  · have := k4 h
    omega
def ok (p : Option T) (r : T) : Bool := sound r && (match p with | none => true | some q => lt q.id r.id)
def okAll : Option T → List T → Bool
  | _, [] => true
  | p, r :: l => ok p r && okAll (some r) l
def rightB (l : List T) : Bool := decide (l.length ≤ 8) && okAll none l
def Sorted (l : List T) : Prop := l.Pairwise fun a b => lt a.id b.id = true
theorem okAll_iff : ∀ (l : List T) (p : Option T), okAll p l = true ↔ (∀ r ∈ l, sound r = true) ∧ Sorted l ∧ (∀ q, p = some q → ∀ r ∈ l, lt q.id r.id = true)
  | [], p => by simp [okAll, Sorted]
  | a :: l, p => by
    have ih := okAll_iff l (some a)
    rw [okAll, Bool.and_eq_true, ih]
    unfold ok Sorted
    rw [Bool.and_eq_true, List.pairwise_cons]
    constructor
    · rintro ⟨⟨h1, h2⟩, h3, h4, h5⟩
      refine ⟨?_, ⟨h5 a rfl, h4⟩, ?_⟩
      · intro r hr
        rcases List.mem_cons.1 hr with rfl | hr
        · exact h1
        · exact h3 r hr
      · rintro q rfl r hr
        rcases List.mem_cons.1 hr with rfl | hr
        · exact h2
        · exact lt_trans h2 (h5 a rfl r hr)
    · rintro ⟨h1, ⟨h2, h3⟩, h4⟩
      refine ⟨⟨h1 a (List.mem_cons_self ..), ?_⟩, fun r hr => h1 r (List.mem_cons_of_mem _ hr), h3, ?_⟩
      · cases p with
        | none => rfl
        | some q => exact h4 q rfl a (List.mem_cons_self ..)
      · rintro q ⟨⟩ r hr
        exact h2 r hr
theorem right_iff (l : List T) : rightB l = true ↔ l.length ≤ 8 ∧ (∀ r ∈ l, sound r = true) ∧ Sorted l := by
  unfold rightB
  rw [Bool.and_eq_true, decide_eq_true_iff, okAll_iff]
  simp
theorem right_nil : rightB [] = true := rfl
theorem right_long {l : List T} (h : 8 < l.length) : rightB l = false := by
  unfold rightB
  rw [decide_eq_false (by omega)]
  rfl
theorem right_short {l : List T} (h : l.length ≤ 8) : rightB l = okAll none l := by
  unfold rightB
  rw [decide_eq_true h]
  rfl
/-- the session ahead of a place -/
def prevAt (l : List T) (k : Nat) : Option T := if k = 0 then none else l[k - 1]?
theorem okAll_at (l : List T) (k : Nat) (h : k < l.length) : okAll (prevAt l k) (l.drop k) = (ok (prevAt l k) l[k] && okAll (prevAt l (k + 1)) (l.drop (k + 1))) := by
  rw [List.drop_eq_getElem_cons h, okAll]
  congr 2
  unfold prevAt
  rw [if_neg (by omega), Nat.add_sub_cancel, List.getElem?_eq_getElem h]
theorem prev_at {l : List T} {j : Nat} {q : T} (h : j < l.length) (hq : l[j] = q) : prevAt l (j + 1) = some q := by
  unfold prevAt
  rw [if_neg (by omega), Nat.add_sub_cancel, List.getElem?_eq_getElem h, hq]

/-! ### where an id stands -/
def ix (s : Int) : List T → Nat
  | [] => 0
  | r :: l => if r.id = s then 0 else ix s l + 1
theorem ix_le (s : Int) : ∀ l, ix s l ≤ l.length
  | [] => Nat.le_refl _
  | a :: l => by
    have := ix_le s l
    unfold ix
    split <;> simp
    exact this
theorem ix_none {s : Int} : ∀ {l : List T}, (∀ r ∈ l, r.id ≠ s) → ix s l = l.length
  | [], _ => rfl
  | r :: l, h => by
    unfold ix
    rw [if_neg (h r (by simp)), ix_none (fun x hx => h x (by simp [hx]))]
    rfl
theorem ix_at {s : Int} : ∀ {l : List T} {k : Nat} (hk : k < l.length), (∀ r ∈ l.take k, r.id ≠ s) → l[k].id = s → ix s l = k
  | [], _, hk, _, _ => absurd hk (Nat.not_lt_zero _)
  | r :: l, 0, _, _, h => by
    unfold ix
    exact if_pos h
  | r :: l, k + 1, hk, hn, h => by
    have e := ix_at (l := l) (s := s) (k := k) (by simpa using hk) (fun x hx => hn x (by simp [hx])) (by simpa using h)
    unfold ix
    rw [if_neg (hn r (by simp)), e]
theorem ix_id {s : Int} : ∀ {l : List T} (h : ix s l < l.length), (l[ix s l]).id = s
  | [], h => absurd h (Nat.not_lt_zero _)
  | r :: l, h => by
    by_cases e : r.id = s
    · have h0 : ix s (r :: l) = 0 := if_pos e
      simp only [h0, List.getElem_cons_zero]
      exact e
    · have h0 : ix s (r :: l) = ix s l + 1 := if_neg e
      have h1 : ix s l < l.length := by rw [h0] at h; simpa using h
      simp only [h0, List.getElem_cons_succ]
      exact ix_id h1
theorem ix_mem {s : Int} {l : List T} : ix s l < l.length ↔ ∃ r ∈ l, r.id = s := by
  constructor
  · intro h
    exact ⟨_, List.getElem_mem h, ix_id h⟩
  · rintro ⟨r, hr, rfl⟩
    by_cases h : ix r.id l < l.length
    · exact h
    · exfalso
      have : ∀ (l : List T), r ∈ l → ix r.id l < l.length := by
        intro l
        induction l with
        | nil => intro h; cases h
        | cons a l ih =>
          intro h
          unfold ix
          split
          · simp
          · rename_i e
            rcases List.mem_cons.1 h with rfl | h
            · exact absurd rfl e
            · have := ih h
              simp
              exact this
      exact h (this l hr)
/-- the session of that id; the zero one, if there is none -/
def own (l : List T) (s : Int) : T := (l[ix s l]?).getD Sn.zero
theorem own_at {l : List T} {s : Int} (h : ix s l < l.length) : own l s = l[ix s l] := by
  unfold own
  rw [List.getElem?_eq_getElem h]
  rfl
theorem own_get {l : List T} {s : Int} (h : ix s l < l.length) : l[ix s l]? = some (own l s) := by
  rw [own_at h, List.getElem?_eq_getElem h]
theorem own_zero {l : List T} {s : Int} (h : ¬ ix s l < l.length) : own l s = Sn.zero := by
  unfold own
  rw [List.getElem?_eq_none (by omega)]
  rfl
theorem own_id {l : List T} {s : Int} (h : ix s l < l.length) : (own l s).id = s := by
  rw [own_at h]
  exact ix_id h
theorem own_mem {l : List T} {s : Int} (h : ix s l < l.length) : own l s ∈ l := by
  rw [own_at h]
  exact List.getElem_mem h
theorem sorted_inj {l : List T} (hs : Sorted l) {a b : T} (ha : a ∈ l) (hb : b ∈ l) (h : a.id = b.id) : a = b := by
  induction l with
  | nil => cases ha
  | cons c l ih =>
    unfold Sorted at hs
    rw [List.pairwise_cons] at hs
    rcases List.mem_cons.1 ha with e1 | ha
    · rcases List.mem_cons.1 hb with e2 | hb
      · rw [e1, e2]
      · have := hs.1 b hb
        rw [← e1] at this
        exact absurd h (lt_ne this)
    · rcases List.mem_cons.1 hb with e2 | hb
      · have := hs.1 a ha
        rw [← e2] at this
        exact absurd h.symm (lt_ne this)
      · exact ih hs.2 ha hb
theorem own_of {l : List T} (hs : Sorted l) {r : T} (h : r ∈ l) : ix r.id l < l.length ∧ own l r.id = r := by
  have hi : ix r.id l < l.length := ix_mem.2 ⟨r, h, rfl⟩
  exact ⟨hi, sorted_inj hs (own_mem hi) h (own_id hi)⟩

/-! ### a session that joins -/
def spot (s : Int) : List T → Nat
  | [] => 0
  | a :: l => if lt a.id s = true then spot s l + 1 else 0
theorem spot_le (s : Int) : ∀ l, spot s l ≤ l.length
  | [] => Nat.le_refl _
  | a :: l => by
    have := spot_le s l
    unfold spot
    split
    · simp; omega
    · simp
theorem spot_at (s : Int) (l : List T) (k : Nat) (h : k < l.length) : spot s (l.drop k) = if lt l[k].id s = true then spot s (l.drop (k + 1)) + 1 else 0 := by
  rw [List.drop_eq_getElem_cons h]
  rfl
def openL (l : List T) (r : T) : List T := l.take (spot r.id l) ++ r :: l.drop (spot r.id l)
theorem openL_cons {a : T} {l : List T} {r : T} (h : lt a.id r.id = true) : openL (a :: l) r = a :: openL l r := by
  have e : spot r.id (a :: l) = spot r.id l + 1 := if_pos h
  unfold openL
  rw [e]
  rfl
theorem openL_head {a : T} {l : List T} {r : T} (h : lt a.id r.id = false) : openL (a :: l) r = r :: a :: l := by
  have e : spot r.id (a :: l) = 0 := if_neg (by rw [h]; simp)
  unfold openL
  rw [e]
  rfl
theorem openL_perm (r : T) : ∀ l, (openL l r).Perm (r :: l)
  | [] => List.Perm.refl _
  | a :: l => by
    cases h : lt a.id r.id
    · rw [openL_head h]
    · rw [openL_cons h]
      exact ((openL_perm r l).cons a).trans (List.Perm.swap r a l)
theorem openL_len (r : T) (l : List T) : (openL l r).length = l.length + 1 := by
  have := (openL_perm r l).length_eq
  simpa using this
theorem openL_mem {r : T} {l : List T} {a : T} : a ∈ openL l r ↔ a = r ∨ a ∈ l := by
  rw [(openL_perm r l).mem_iff, List.mem_cons]
theorem openL_sorted (r : T) : ∀ l, Sorted l → (∀ a ∈ l, a.id ≠ r.id) → Sorted (openL l r)
  | [], _, _ => List.pairwise_singleton _ _
  | a :: l, h, k => by
    unfold Sorted at h
    rw [List.pairwise_cons] at h
    cases hl : lt a.id r.id
    · have hra : lt r.id a.id = true := by
        rcases lt_tri a.id r.id with e | e | e
        · rw [hl] at e; cases e
        · exact absurd e (k a (by simp))
        · exact e
      rw [openL_head hl]
      unfold Sorted
      rw [List.pairwise_cons, List.pairwise_cons]
      refine ⟨fun b hb => ?_, h⟩
      rcases List.mem_cons.1 hb with rfl | hb
      · exact hra
      · exact lt_trans hra (h.1 b hb)
    · rw [openL_cons hl]
      unfold Sorted
      rw [List.pairwise_cons]
      refine ⟨fun b hb => ?_, openL_sorted r l h.2 fun b hb => k b (by simp [hb])⟩
      rcases openL_mem.1 hb with rfl | hb
      · exact hl
      · exact h.1 b hb
/-! ### Join -/
def new (i : Int) : T := ⟨i, 0, 0, 0, 0⟩
def joinE (l : List T) (i : Int) : Int := if rightB l = false then 1 else if i < 1 then 1 else if ix i l < l.length then 12 else if 8 ≤ l.length then 14 else 0
def joinR (l : List T) (i : Int) : List T := if joinE l i = 0 then openL l (new i) else []
section
variable {l : List T} {i : Int}
theorem join_arg (h : rightB l = false) : joinE l i = 1 ∧ joinR l i = [] := by
  have e : joinE l i = 1 := if_pos h
  exact ⟨e, by unfold joinR; rw [e]; rfl⟩
theorem join_low (h : rightB l = true) (k : i < 1) : joinE l i = 1 ∧ joinR l i = [] := by
  have e : joinE l i = 1 := by
    unfold joinE
    rw [if_neg (by rw [h]; simp), if_pos k]
  exact ⟨e, by unfold joinR; rw [e]; rfl⟩
theorem join_taken (h : rightB l = true) (k : ¬ i < 1) (m : ix i l < l.length) : joinE l i = 12 ∧ joinR l i = [] := by
  have e : joinE l i = 12 := by
    unfold joinE
    rw [if_neg (by rw [h]; simp), if_neg k, if_pos m]
  exact ⟨e, by unfold joinR; rw [e]; rfl⟩
theorem join_full (h : rightB l = true) (k : ¬ i < 1) (m : ¬ ix i l < l.length) (n : 8 ≤ l.length) : joinE l i = 14 ∧ joinR l i = [] := by
  have e : joinE l i = 14 := by
    unfold joinE
    rw [if_neg (by rw [h]; simp), if_neg k, if_neg m, if_pos n]
  exact ⟨e, by unfold joinR; rw [e]; rfl⟩
theorem join_ok (h : rightB l = true) (k : ¬ i < 1) (m : ¬ ix i l < l.length) (n : l.length < 8) : joinE l i = 0 ∧ joinR l i = openL l (new i) := by
  have e : joinE l i = 0 := by
    unfold joinE
    rw [if_neg (by rw [h]; simp), if_neg k, if_neg m, if_neg (by omega)]
  exact ⟨e, by unfold joinR; rw [e]; rfl⟩
theorem join_right (h : rightB l = true) (k : ¬ i < 1) (m : ¬ ix i l < l.length) (n : l.length < 8) : rightB (openL l (new i)) = true := by
  obtain ⟨h1, h2, h3⟩ := (right_iff l).1 h
  refine (right_iff _).2 ⟨by rw [openL_len]; omega, fun r hr => ?_, openL_sorted _ l h3 fun a ha e => m (ix_mem.2 ⟨a, ha, e⟩)⟩
  rcases openL_mem.1 hr with rfl | hr
  · exact sound_iff.2 ⟨by show 1 ≤ i; omega, by show (0 : Int) ≤ 0; omega, by show (0 : Int) ≤ 1099511627776; omega, fun _ => ⟨rfl, rfl, rfl⟩⟩
  · exact h2 r hr
end
theorem open_own {l : List T} {r : T} (hl : Sorted l) (i : ¬ ix r.id l < l.length) (s : Int) : (ix s (openL l r) < (openL l r).length ↔ s = r.id ∨ ix s l < l.length) ∧ own (openL l r) s = if s = r.id then r else own l s := by
  have hs : Sorted (openL l r) := openL_sorted _ l hl fun a ha e => i (ix_mem.2 ⟨a, ha, e⟩)
  have h1 : ix s (openL l r) < (openL l r).length ↔ s = r.id ∨ ix s l < l.length := by
    rw [ix_mem, ix_mem]
    constructor
    · rintro ⟨a, ha, e⟩
      rcases openL_mem.1 ha with rfl | ha
      · exact .inl e.symm
      · exact .inr ⟨a, ha, e⟩
    · rintro (e | ⟨a, ha, e⟩)
      · exact ⟨r, openL_mem.2 (.inl rfl), e.symm⟩
      · exact ⟨a, openL_mem.2 (.inr ha), e⟩
  refine ⟨h1, ?_⟩
  by_cases e : s = r.id
  · rw [if_pos e, e]
    exact (own_of hs (openL_mem.2 (.inl rfl))).2
  · rw [if_neg e]
    by_cases h : ix s l < l.length
    · have hm := own_of hs (openL_mem.2 (.inr (own_mem h)) : own l s ∈ openL l r)
      rw [own_id h] at hm
      exact hm.2
    · rw [own_zero h, own_zero (fun k => by rcases h1.1 k with k | k; exact e k; exact h k)]

theorem set_mem {l : List T} {s : Int} {r : T} (h : ix s l < l.length) (a : T) (ha : a ∈ l.set (ix s l) r) : a = r ∨ a ∈ l := by
  obtain ⟨j, hj, e⟩ := List.getElem_of_mem ha
  rw [List.getElem_set] at e
  split at e
  · exact .inl e.symm
  · exact .inr (e ▸ List.getElem_mem _)
theorem set_ids {l : List T} {s : Int} {r : T} (h : ix s l < l.length) (hr : r.id = s) : (l.set (ix s l) r).map T.id = l.map T.id := by
  rw [List.map_set, hr]
  apply List.ext_getElem (by simp)
  intro j h1 h2
  rw [List.getElem_set]
  split
  · rename_i e
    subst e
    rw [List.getElem_map, ix_id h]
  · rfl
theorem sorted_ids {l m : List T} (h : l.map T.id = m.map T.id) (hs : Sorted l) : Sorted m := by
  have h1 : (l.map T.id).Pairwise (fun a b => lt a b = true) := List.pairwise_map.2 hs
  rw [h] at h1
  exact List.pairwise_map.1 h1
theorem ix_ids (s : Int) : ∀ {l m : List T}, l.map T.id = m.map T.id → ix s l = ix s m
  | [], [], _ => rfl
  | [], _ :: _, h => by simp at h
  | _ :: _, [], h => by simp at h
  | a :: l, b :: m, h => by
    simp only [List.map_cons, List.cons.injEq] at h
    unfold ix
    rw [h.1, ix_ids s h.2]
theorem set_right {l : List T} {s : Int} {r : T} (hl : rightB l = true) (h : ix s l < l.length) (hr : r.id = s) (k : sound r = true) : rightB (l.set (ix s l) r) = true := by
  obtain ⟨h1, h2, h3⟩ := (right_iff l).1 hl
  refine (right_iff _).2 ⟨by rw [List.length_set]; exact h1, fun a ha => ?_, sorted_ids (set_ids h hr).symm h3⟩
  rcases set_mem h a ha with rfl | ha
  · exact k
  · exact h2 a ha
theorem set_own {l : List T} {s : Int} {r : T} (h : ix s l < l.length) (hr : r.id = s) (t : Int) : (ix t (l.set (ix s l) r) = ix t l) ∧ own (l.set (ix s l) r) t = if t = s then r else own l t := by
  have e := ix_ids t (set_ids h hr)
  refine ⟨e, ?_⟩
  unfold own
  rw [e]
  by_cases ht : t = s
  · rw [if_pos ht, ht, List.getElem?_set_self h]
    rfl
  · rw [if_neg ht]
    by_cases hi : ix t l < l.length
    · have hne : ix s l ≠ ix t l := by
        intro k
        have h1 := ix_id h
        have h2 := ix_id hi
        apply ht
        rw [← h1, ← h2]
        simp only [k]
      rw [List.getElem?_set_ne hne]
    · rw [List.getElem?_eq_none (by rw [List.length_set]; omega), List.getElem?_eq_none (by omega)]
/-! ### Leave -/
def cut (l : List T) (k : Nat) : List T := l.take k ++ l.drop (k + 1)
def leaveE (l : List T) (i : Int) : Int := if rightB l = false then 1 else if l.length ≤ ix i l then 11 else 0
def leaveR (l : List T) (i : Int) : List T := if leaveE l i = 0 then cut l (ix i l) else []
section
variable {l : List T} {i : Int}
theorem leave_arg (h : rightB l = false) : leaveE l i = 1 ∧ leaveR l i = [] := by
  have e : leaveE l i = 1 := if_pos h
  exact ⟨e, by unfold leaveR; rw [e]; rfl⟩
theorem leave_none (h : rightB l = true) (k : ¬ ix i l < l.length) : leaveE l i = 11 ∧ leaveR l i = [] := by
  have e : leaveE l i = 11 := by
    unfold leaveE
    rw [if_neg (by rw [h]; simp), if_pos (by omega)]
  exact ⟨e, by unfold leaveR; rw [e]; rfl⟩
theorem leave_ok (h : rightB l = true) (k : ix i l < l.length) : leaveE l i = 0 ∧ leaveR l i = cut l (ix i l) := by
  have e : leaveE l i = 0 := by
    unfold leaveE
    rw [if_neg (by rw [h]; simp), if_neg (by omega)]
  exact ⟨e, by unfold leaveR; rw [e]; rfl⟩
theorem cut_len (k : ix i l < l.length) : (cut l (ix i l)).length + 1 = l.length := by
  unfold cut
  rw [List.length_append, List.length_take, List.length_drop]
  omega
theorem cut_sub (l : List T) (k : Nat) : (cut l k).Sublist l := by
  unfold cut
  rw [← List.eraseIdx_eq_take_drop_succ]
  exact List.eraseIdx_sublist l k
theorem cut_mem {a : T} {k : Nat} (h : a ∈ cut l k) : a ∈ l := (cut_sub l k).subset h
theorem cut_right (h : rightB l = true) (k : Nat) : rightB (cut l k) = true := by
  obtain ⟨h1, h2, h3⟩ := (right_iff l).1 h
  exact (right_iff _).2 ⟨Nat.le_trans (cut_sub l k).length_le h1, fun r hr => h2 r (cut_mem hr), List.Pairwise.sublist (cut_sub l k) h3⟩
theorem cut_own (hs : Sorted l) (k : ix i l < l.length) (j : Int) : (ix j (cut l (ix i l)) < (cut l (ix i l)).length ↔ j ≠ i ∧ ix j l < l.length) ∧ (j ≠ i → own (cut l (ix i l)) j = own l j) := by
  have hc : Sorted (cut l (ix i l)) := List.Pairwise.sublist (cut_sub l _) hs
  have hmem : ∀ a, a ∈ l → a.id ≠ i → a ∈ cut l (ix i l) := by
    intro a ha hne
    obtain ⟨q, hq, rfl⟩ := List.getElem_of_mem ha
    have hqk : q ≠ ix i l := fun e => hne (by subst e; exact ix_id k)
    unfold cut
    rcases Nat.lt_or_ge q (ix i l) with h | h
    · exact List.mem_append.2 (.inl (List.mem_take_iff_getElem.2 ⟨q, by omega, rfl⟩))
    · refine List.mem_append.2 (.inr (List.mem_drop_iff_getElem.2 ⟨q - (ix i l + 1), by omega, ?_⟩))
      congr 1
      omega
  have hno : ∀ a, a ∈ cut l (ix i l) → a.id ≠ i := by
    intro a ha e
    have hp := List.pairwise_iff_getElem.1 hs
    have hx := ix_id k
    unfold cut at ha
    rcases List.mem_append.1 ha with h | h
    · obtain ⟨q, hq, e2⟩ := List.mem_take_iff_getElem.1 h
      have := lt_ne (hp q (ix i l) (by omega) k (by omega))
      rw [hx] at this
      exact this (by rw [e2]; exact e)
    · obtain ⟨q, hq, e2⟩ := List.mem_drop_iff_getElem.1 h
      have := lt_ne (hp (ix i l) (ix i l + 1 + q) k (by omega) (by omega))
      rw [hx] at this
      exact this (by rw [e2]; exact e.symm)
  have h1 : ix j (cut l (ix i l)) < (cut l (ix i l)).length ↔ j ≠ i ∧ ix j l < l.length := by
    rw [ix_mem, ix_mem]
    constructor
    · rintro ⟨a, ha, e⟩
      exact ⟨fun e2 => hno a ha (e.trans e2), a, cut_mem ha, e⟩
    · rintro ⟨hne, a, ha, e⟩
      exact ⟨a, hmem a ha (by rw [e]; exact hne), e⟩
  refine ⟨h1, fun hne => ?_⟩
  by_cases h : ix j l < l.length
  · have hm := own_of hc (hmem _ (own_mem h) (by rw [own_id h]; exact hne))
    rw [own_id h] at hm
    exact hm.2
  · rw [own_zero h, own_zero (fun q => h (h1.1 q).2)]
end
/-! ### Look, Keep -/
def lookE (l : List T) (i q : Int) : Int := if rightB l = false then 1 else if l.length ≤ ix i l then 15 else if numB q = false then 1 else if q < (own l i).last then 16 else 0
def lookO (l : List T) (i q : Int) : Bool := decide (lookE l i q = 0) && decide (q = (own l i).last)
def lookT (l : List T) (i q : Int) : T := if lookO l i q = true then own l i else Sn.zero
section
variable {l : List T} {i q : Int}
theorem look_arg (h : rightB l = false) : lookE l i q = 1 := if_pos h
theorem look_gone (h : rightB l = true) (k : ¬ ix i l < l.length) : lookE l i q = 15 := by
  unfold lookE
  rw [if_neg (by rw [h]; simp), if_pos (by omega)]
theorem look_seq (h : rightB l = true) (k : ix i l < l.length) (m : numB q = false) : lookE l i q = 1 := by
  unfold lookE
  rw [if_neg (by rw [h]; simp), if_neg (by omega), if_pos m]
theorem look_stale (h : rightB l = true) (k : ix i l < l.length) (m : numB q = true) (n : q < (own l i).last) : lookE l i q = 16 := by
  unfold lookE
  rw [if_neg (by rw [h]; simp), if_neg (by omega), if_neg (by rw [m]; simp), if_pos n]
theorem look_ok (h : rightB l = true) (k : ix i l < l.length) (m : numB q = true) (n : ¬ q < (own l i).last) : lookE l i q = 0 := by
  unfold lookE
  rw [if_neg (by rw [h]; simp), if_neg (by omega), if_neg (by rw [m]; simp), if_neg n]
theorem look_bad (h : lookE l i q ≠ 0) : lookO l i q = false ∧ lookT l i q = Sn.zero := by
  have e : lookO l i q = false := by
    unfold lookO
    rw [decide_eq_false h]
    rfl
  exact ⟨e, by unfold lookT; rw [e]; rfl⟩
theorem look_old (h : lookE l i q = 0) (k : q = (own l i).last) : lookO l i q = true ∧ lookT l i q = own l i := by
  have e : lookO l i q = true := by
    unfold lookO
    rw [decide_eq_true h, decide_eq_true k]
    rfl
  exact ⟨e, by unfold lookT; rw [e]; rfl⟩
theorem look_new (h : lookE l i q = 0) (k : q ≠ (own l i).last) : lookO l i q = false ∧ lookT l i q = Sn.zero := by
  have e : lookO l i q = false := by
    unfold lookO
    rw [decide_eq_false k, Bool.and_false]
  exact ⟨e, by unfold lookT; rw [e]; rfl⟩
theorem look_0 (h : lookE l i q = 0) : rightB l = true ∧ ix i l < l.length ∧ numB q = true ∧ ¬ q < (own l i).last := by
  unfold lookE at h
  cases h1 : rightB l
  · rw [if_pos h1] at h; omega
  · rw [if_neg (by rw [h1]; simp)] at h
    by_cases h2 : l.length ≤ ix i l
    · rw [if_pos h2] at h; omega
    · rw [if_neg h2] at h
      cases h3 : numB q
      · rw [if_pos h3] at h; omega
      · rw [if_neg (by rw [h3]; simp)] at h
        by_cases h4 : q < (own l i).last
        · rw [if_pos h4] at h; omega
        · exact ⟨rfl, by omega, rfl, h4⟩
end
def keepE (l : List T) (i q : Int) : Int := if lookE l i q ≠ 0 then lookE l i q else if lookO l i q = true then 12 else 0
def keepR (l : List T) (i q y n g : Int) : List T := if keepE l i q = 0 then l.set (ix i l) ⟨i, q, y, n, g⟩ else []
section
variable {l : List T} {i q y n g : Int}
theorem keep_bad (h : lookE l i q ≠ 0) : keepE l i q = lookE l i q ∧ keepR l i q y n g = [] := by
  have e : keepE l i q = lookE l i q := if_pos h
  exact ⟨e, by unfold keepR; rw [e, if_neg h]⟩
theorem keep_old (h : lookE l i q = 0) (k : lookO l i q = true) : keepE l i q = 12 ∧ keepR l i q y n g = [] := by
  have e : keepE l i q = 12 := by
    unfold keepE
    rw [if_neg (by rw [h]; simp), if_pos k]
  exact ⟨e, by unfold keepR; rw [e]; rfl⟩
theorem keep_ok (h : lookE l i q = 0) (k : lookO l i q = false) : keepE l i q = 0 ∧ keepR l i q y n g = l.set (ix i l) ⟨i, q, y, n, g⟩ := by
  have e : keepE l i q = 0 := by
    unfold keepE
    rw [if_neg (by rw [h]; simp), if_neg (by rw [k]; simp)]
  exact ⟨e, by unfold keepR; rw [e]; rfl⟩
theorem keep_right (h : lookE l i q = 0) (y n g : Int) : rightB (l.set (ix i l) ⟨i, q, y, n, g⟩) = true := by
  obtain ⟨h1, h2, h3, h4⟩ := look_0 h
  have hi := own_id h2
  have hs := sound_iff.1 (((right_iff l).1 h1).2.1 _ (own_mem h2))
  rw [hi] at hs
  have hq := num_iff.1 h3
  exact set_right h1 h2 rfl (sound_iff.2 ⟨hs.1, by show 0 ≤ q; omega, hq.2, fun e => by have e' : q = 0 := e; omega⟩)
end
end Go.Proofs.Ytfilanbjfnnknaa.Sp
