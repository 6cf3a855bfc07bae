/- PLAIN LEAN: series, their order, lists of them, what is opened, shut, taken and found; no Go walked here. -/
import Derived.Test.YtemifminohdhbaaSrP
import Derived.Test.YtemifminohdhbaaSrA
set_option linter.unusedVariables false
namespace Go.Proofs.Ytemifminohdhbaa.Se
open Sr (T)

/-! ### names byte by byte -/
def lt (a b : ByteArray) : Bool := Op.bytesLess a.toList b.toList
theorem lt_trans {a b c : ByteArray} (h : lt a b = true) (k : lt b c = true) : lt a c = true := Vt.less_trans _ _ _ h k
theorem lt_irrefl (a : ByteArray) : lt a a = false := Vt.less_irrefl _
theorem lt_asymm {a b : ByteArray} (h : lt a b = true) : lt b a = false := by
  rw [Bool.eq_false_iff]
  intro k
  have := lt_trans h k
  rw [lt_irrefl] at this
  cases this
theorem lt_tri (a b : ByteArray) : lt a b = true ∨ a = b ∨ lt b a = true := by
  rcases Vt.less_tri a.toList b.toList with h | h | h
  · exact .inl h
  · exact .inr (.inl (Vt.cat_ext h))
  · exact .inr (.inr h)
theorem lt_ne {a b : ByteArray} (h : lt a b = true) : a ≠ b := by
  rintro rfl
  rw [lt_irrefl] at h
  cases h

/-! ### a right list -/
def lim (n : Int) : Bool := decide (1 ≤ n) && decide (n ≤ 1099511627776)
theorem lim_iff {n : Int} : lim n = true ↔ 1 ≤ n ∧ n ≤ 1099511627776 := by
  unfold lim
  rw [Bool.and_eq_true, decide_eq_true_iff, decide_eq_true_iff]
theorem lim_no {n : Int} : lim n = false ↔ n < 1 ∨ 1099511627776 < n := by
  rw [Bool.eq_false_iff, ne_eq, lim_iff]
  omega
def sound (r : T) : Bool := Rn.name (txt r.name) && (lim r.limit && (decide (1 ≤ r.next) && decide (r.next ≤ r.limit + 1)))
theorem sound_iff {r : T} : sound r = true ↔ Rn.name (txt r.name) = true ∧ lim r.limit = true ∧ 1 ≤ r.next ∧ r.next ≤ r.limit + 1 := by
  unfold sound
  rw [Bool.and_eq_true, Bool.and_eq_true, Bool.and_eq_true, decide_eq_true_iff, decide_eq_true_iff]
theorem sound_no {r : T} (h : Rn.name (txt r.name) = false ∨ lim r.limit = false ∨ r.next < 1 ∨ r.limit + 1 < r.next) : sound r = false := by
  rw [Bool.eq_false_iff]
  intro k
  obtain ⟨k1, k2, k3, k4⟩ := sound_iff.1 k
  rcases h with h | h | h | h
  · rw [k1] at h; cases h
  · rw [k2] at h; cases h
  · omega
  · omega
def ok (p : Option T) (r : T) : Bool := sound r && (match p with | none => true | some q => lt q.name r.name)
def okAll : Option T → List T → Bool
  | _, [] => true
  | p, r :: l => ok p r && okAll (some r) l
def rightB (l : List T) : Bool := decide (l.length ≤ 8) && okAll none l
def Sorted (l : List T) : Prop := l.Pairwise fun a b => lt a.name b.name = true
theorem okAll_iff : ∀ (l : List T) (p : Option T), okAll p l = true ↔ (∀ r ∈ l, sound r = true) ∧ Sorted l ∧ (∀ q, p = some q → ∀ r ∈ l, lt q.name r.name = true)
  | [], p => by simp [okAll, Sorted]
  | a :: l, p => by
    have ih := okAll_iff l (some a)
    rw [okAll, Bool.and_eq_true, ih]
    unfold ok Sorted
    rw [Bool.and_eq_true, List.pairwise_cons]
    constructor
    · rintro ⟨⟨h1, h2⟩, h3, h4, h5⟩
      refine ⟨?_, ⟨h5 a rfl, h4⟩, ?_⟩
      · intro r hr
        rcases List.mem_cons.1 hr with rfl | hr
        · exact h1
        · exact h3 r hr
      · rintro q rfl r hr
        rcases List.mem_cons.1 hr with rfl | hr
        · exact h2
        · exact lt_trans h2 (h5 a rfl r hr)
    · rintro ⟨h1, ⟨h2, h3⟩, h4⟩
      refine ⟨⟨h1 a (List.mem_cons_self ..), ?_⟩, fun r hr => h1 r (List.mem_cons_of_mem _ hr), h3, ?_⟩
      · cases p with
        | none => rfl
        | some q => exact h4 q rfl a (List.mem_cons_self ..)
      · rintro q ⟨⟩ r hr
        exact h2 r hr
theorem right_iff (l : List T) : rightB l = true ↔ l.length ≤ 8 ∧ (∀ r ∈ l, sound r = true) ∧ Sorted l := by
  unfold rightB
  rw [Bool.and_eq_true, decide_eq_true_iff, okAll_iff]
  simp
theorem right_nil : rightB [] = true := rfl
theorem right_long {l : List T} (h : 8 < l.length) : rightB l = false := by
  unfold rightB
  rw [decide_eq_false (by omega)]
  rfl
theorem right_short {l : List T} (h : l.length ≤ 8) : rightB l = okAll none l := by
  unfold rightB
  rw [decide_eq_true h]
  rfl
/-- the series ahead of a place -/
def prevAt (l : List T) (k : Nat) : Option T := if k = 0 then none else l[k - 1]?
theorem okAll_at (l : List T) (k : Nat) (h : k < l.length) : okAll (prevAt l k) (l.drop k) = (ok (prevAt l k) l[k] && okAll (prevAt l (k + 1)) (l.drop (k + 1))) := by
  rw [List.drop_eq_getElem_cons h, okAll]
  congr 2
  unfold prevAt
  rw [if_neg (by omega), Nat.add_sub_cancel, List.getElem?_eq_getElem h]
theorem prev_at {l : List T} {j : Nat} {q : T} (h : j < l.length) (hq : l[j] = q) : prevAt l (j + 1) = some q := by
  unfold prevAt
  rw [if_neg (by omega), Nat.add_sub_cancel, List.getElem?_eq_getElem h, hq]

/-! ### where a name stands -/
def ix (s : ByteArray) : List T → Nat
  | [] => 0
  | r :: l => if r.name = s then 0 else ix s l + 1
theorem ix_le (s : ByteArray) : ∀ l, ix s l ≤ l.length
  | [] => Nat.le_refl _
  | a :: l => by
    have := ix_le s l
    unfold ix
    split <;> simp
    exact this
theorem ix_none {s : ByteArray} : ∀ {l : List T}, (∀ r ∈ l, r.name ≠ s) → ix s l = l.length
  | [], _ => rfl
  | r :: l, h => by
    unfold ix
    rw [if_neg (h r (by simp)), ix_none (fun x hx => h x (by simp [hx]))]
    rfl
theorem ix_at {s : ByteArray} : ∀ {l : List T} {k : Nat} (hk : k < l.length), (∀ r ∈ l.take k, r.name ≠ s) → l[k].name = s → ix s l = k
  | [], _, hk, _, _ => absurd hk (Nat.not_lt_zero _)
  | r :: l, 0, _, _, h => by
    unfold ix
    exact if_pos h
  | r :: l, k + 1, hk, hn, h => by
    have e := ix_at (l := l) (s := s) (k := k) (by simpa using hk) (fun x hx => hn x (by simp [hx])) (by simpa using h)
    unfold ix
    rw [if_neg (hn r (by simp)), e]
theorem ix_name {s : ByteArray} : ∀ {l : List T} (h : ix s l < l.length), (l[ix s l]).name = s
  | [], h => absurd h (Nat.not_lt_zero _)
  | r :: l, h => by
    by_cases e : r.name = s
    · have h0 : ix s (r :: l) = 0 := if_pos e
      simp only [h0, List.getElem_cons_zero]
      exact e
    · have h0 : ix s (r :: l) = ix s l + 1 := if_neg e
      have h1 : ix s l < l.length := by rw [h0] at h; simpa using h
      simp only [h0, List.getElem_cons_succ]
      exact ix_name h1
theorem ix_mem {s : ByteArray} {l : List T} : ix s l < l.length ↔ ∃ r ∈ l, r.name = s := by
  constructor
  · intro h
    exact ⟨_, List.getElem_mem h, ix_name h⟩
  · rintro ⟨r, hr, rfl⟩
    by_cases h : ix r.name l < l.length
    · exact h
    · exfalso
      have : ∀ (l : List T), r ∈ l → ix r.name l < l.length := by
        intro l
        induction l with
        | nil => intro h; cases h
        | cons a l ih =>
          intro h
          unfold ix
          split
          · simp
          · rename_i e
            rcases List.mem_cons.1 h with rfl | h
            · exact absurd rfl e
            · have := ih h
              simp
              exact this
      exact h (this l hr)
theorem fnd_ix (s : ByteArray) : ∀ l : List T, fnd l s = if ix s l < l.length then (ix s l : Int) else -1
  | [] => rfl
  | r :: l => by
    have ih := fnd_ix s l
    by_cases e : r.name = s
    · have h0 : ix s (r :: l) = 0 := if_pos e
      unfold fnd
      rw [if_pos e, h0]
      simp
    · have h0 : ix s (r :: l) = ix s l + 1 := if_neg e
      unfold fnd
      rw [if_neg e, h0, ih]
      by_cases h : ix s l < l.length
      · rw [if_pos h, if_neg (by omega), if_pos (by simp; exact h)]
        rfl
      · rw [if_neg h, if_pos (by omega), if_neg (by simp; omega)]
/-- the series of that name; the zero one, if there is none -/
def own (l : List T) (s : ByteArray) : T := (l[ix s l]?).getD Sr.zero
theorem own_at {l : List T} {s : ByteArray} (h : ix s l < l.length) : own l s = l[ix s l] := by
  unfold own
  rw [List.getElem?_eq_getElem h]
  rfl
theorem own_get {l : List T} {s : ByteArray} (h : ix s l < l.length) : l[ix s l]? = some (own l s) := by
  rw [own_at h, List.getElem?_eq_getElem h]
theorem own_zero {l : List T} {s : ByteArray} (h : ¬ ix s l < l.length) : own l s = Sr.zero := by
  unfold own
  rw [List.getElem?_eq_none (by omega)]
  rfl
theorem own_name {l : List T} {s : ByteArray} (h : ix s l < l.length) : (own l s).name = s := by
  rw [own_at h]
  exact ix_name h
theorem own_mem {l : List T} {s : ByteArray} (h : ix s l < l.length) : own l s ∈ l := by
  rw [own_at h]
  exact List.getElem_mem h
theorem sorted_inj {l : List T} (hs : Sorted l) {a b : T} (ha : a ∈ l) (hb : b ∈ l) (h : a.name = b.name) : a = b := by
  induction l with
  | nil => cases ha
  | cons c l ih =>
    unfold Sorted at hs
    rw [List.pairwise_cons] at hs
    rcases List.mem_cons.1 ha with e1 | ha
    · rcases List.mem_cons.1 hb with e2 | hb
      · rw [e1, e2]
      · have := hs.1 b hb
        rw [← e1] at this
        exact absurd h (lt_ne this)
    · rcases List.mem_cons.1 hb with e2 | hb
      · have := hs.1 a ha
        rw [← e2] at this
        exact absurd h.symm (lt_ne this)
      · exact ih hs.2 ha hb
theorem own_of {l : List T} (hs : Sorted l) {r : T} (h : r ∈ l) : ix r.name l < l.length ∧ own l r.name = r := by
  have hi : ix r.name l < l.length := ix_mem.2 ⟨r, h, rfl⟩
  exact ⟨hi, sorted_inj hs (own_mem hi) h (own_name hi)⟩

/-! ### a series opened -/
def spot (s : ByteArray) : List T → Nat
  | [] => 0
  | a :: l => if lt a.name s = true then spot s l + 1 else 0
theorem spot_le (s : ByteArray) : ∀ l, spot s l ≤ l.length
  | [] => Nat.le_refl _
  | a :: l => by
    have := spot_le s l
    unfold spot
    split
    · simp; omega
    · simp
theorem spot_at (s : ByteArray) (l : List T) (k : Nat) (h : k < l.length) : spot s (l.drop k) = if lt l[k].name s = true then spot s (l.drop (k + 1)) + 1 else 0 := by
  rw [List.drop_eq_getElem_cons h]
  rfl
def openL (l : List T) (r : T) : List T := l.take (spot r.name l) ++ r :: l.drop (spot r.name l)
theorem openL_cons {a : T} {l : List T} {r : T} (h : lt a.name r.name = true) : openL (a :: l) r = a :: openL l r := by
  have e : spot r.name (a :: l) = spot r.name l + 1 := if_pos h
  unfold openL
  rw [e]
  rfl
theorem openL_head {a : T} {l : List T} {r : T} (h : lt a.name r.name = false) : openL (a :: l) r = r :: a :: l := by
  have e : spot r.name (a :: l) = 0 := if_neg (by rw [h]; simp)
  unfold openL
  rw [e]
  rfl
theorem openL_perm (r : T) : ∀ l, (openL l r).Perm (r :: l)
  | [] => List.Perm.refl _
  | a :: l => by
    cases h : lt a.name r.name
    · rw [openL_head h]
    · rw [openL_cons h]
      exact ((openL_perm r l).cons a).trans (List.Perm.swap r a l)
theorem openL_len (r : T) (l : List T) : (openL l r).length = l.length + 1 := by
  have := (openL_perm r l).length_eq
  simpa using this
theorem openL_mem {r : T} {l : List T} {a : T} : a ∈ openL l r ↔ a = r ∨ a ∈ l := by
  rw [(openL_perm r l).mem_iff, List.mem_cons]
theorem openL_sorted (r : T) : ∀ l, Sorted l → (∀ a ∈ l, a.name ≠ r.name) → Sorted (openL l r)
  | [], _, _ => List.pairwise_singleton _ _
  | a :: l, h, k => by
    unfold Sorted at h
    rw [List.pairwise_cons] at h
    cases hl : lt a.name r.name
    · have hra : lt r.name a.name = true := by
        rcases lt_tri a.name r.name with e | e | e
        · rw [hl] at e; cases e
        · exact absurd e (k a (by simp))
        · exact e
      rw [openL_head hl]
      unfold Sorted
      rw [List.pairwise_cons, List.pairwise_cons]
      refine ⟨fun b hb => ?_, h⟩
      rcases List.mem_cons.1 hb with rfl | hb
      · exact hra
      · exact lt_trans hra (h.1 b hb)
    · rw [openL_cons hl]
      unfold Sorted
      rw [List.pairwise_cons]
      refine ⟨fun b hb => ?_, openL_sorted r l h.2 fun b hb => k b (by simp [hb])⟩
      rcases openL_mem.1 hb with rfl | hb
      · exact hl
      · exact h.1 b hb
def openE (l : List T) (s : ByteArray) (n : Int) : Int := if rightB l = false then 1 else if Rn.name (txt s) = false then 8 else if lim n = false then 1 else if ix s l < l.length then 12 else if 8 ≤ l.length then 14 else 0
def openR (l : List T) (s : ByteArray) (n : Int) : List T := if openE l s n = 0 then openL l ⟨s, 1, n, false⟩ else []
theorem open_arg {l : List T} {s : ByteArray} {n : Int} (h : rightB l = false) : openE l s n = 1 ∧ openR l s n = [] := by
  have e : openE l s n = 1 := if_pos h
  exact ⟨e, by unfold openR; rw [e]; rfl⟩
theorem open_name {l : List T} {s : ByteArray} {n : Int} (h : rightB l = true) (k : Rn.name (txt s) = false) : openE l s n = 8 ∧ openR l s n = [] := by
  have e : openE l s n = 8 := by
    unfold openE
    rw [if_neg (by rw [h]; simp), if_pos k]
  exact ⟨e, by unfold openR; rw [e]; rfl⟩
theorem open_lim {l : List T} {s : ByteArray} {n : Int} (h : rightB l = true) (k : Rn.name (txt s) = true) (m : lim n = false) : openE l s n = 1 ∧ openR l s n = [] := by
  have e : openE l s n = 1 := by
    unfold openE
    rw [if_neg (by rw [h]; simp), if_neg (by rw [k]; simp), if_pos m]
  exact ⟨e, by unfold openR; rw [e]; rfl⟩
theorem open_taken {l : List T} {s : ByteArray} {n : Int} (h : rightB l = true) (k : Rn.name (txt s) = true) (m : lim n = true) (i : ix s l < l.length) : openE l s n = 12 ∧ openR l s n = [] := by
  have e : openE l s n = 12 := by
    unfold openE
    rw [if_neg (by rw [h]; simp), if_neg (by rw [k]; simp), if_neg (by rw [m]; simp), if_pos i]
  exact ⟨e, by unfold openR; rw [e]; rfl⟩
theorem open_full {l : List T} {s : ByteArray} {n : Int} (h : rightB l = true) (k : Rn.name (txt s) = true) (m : lim n = true) (i : ¬ ix s l < l.length) (j : 8 ≤ l.length) : openE l s n = 14 ∧ openR l s n = [] := by
  have e : openE l s n = 14 := by
    unfold openE
    rw [if_neg (by rw [h]; simp), if_neg (by rw [k]; simp), if_neg (by rw [m]; simp), if_neg i, if_pos j]
  exact ⟨e, by unfold openR; rw [e]; rfl⟩
theorem open_ok {l : List T} {s : ByteArray} {n : Int} (h : rightB l = true) (k : Rn.name (txt s) = true) (m : lim n = true) (i : ¬ ix s l < l.length) (j : l.length < 8) : openE l s n = 0 ∧ openR l s n = openL l ⟨s, 1, n, false⟩ := by
  have e : openE l s n = 0 := by
    unfold openE
    rw [if_neg (by rw [h]; simp), if_neg (by rw [k]; simp), if_neg (by rw [m]; simp), if_neg i, if_neg (by omega)]
  exact ⟨e, by unfold openR; rw [e]; rfl⟩
theorem open_right {l : List T} {s : ByteArray} {n : Int} (h : rightB l = true) (k : Rn.name (txt s) = true) (m : lim n = true) (i : ¬ ix s l < l.length) (j : l.length < 8) : rightB (openL l ⟨s, 1, n, false⟩) = true := by
  obtain ⟨h1, h2, h3⟩ := (right_iff l).1 h
  refine (right_iff _).2 ⟨by rw [openL_len]; omega, fun r hr => ?_, openL_sorted _ l h3 fun a ha e => i (ix_mem.2 ⟨a, ha, e⟩)⟩
  rcases openL_mem.1 hr with rfl | hr
  · have := lim_iff.1 m
    exact sound_iff.2 ⟨k, m, by show (1 : Int) ≤ 1; omega, by show (1 : Int) ≤ n + 1; omega⟩
  · exact h2 r hr
theorem open_own {l : List T} {r : T} (hl : Sorted l) (i : ¬ ix r.name l < l.length) (s : ByteArray) : (ix s (openL l r) < (openL l r).length ↔ s = r.name ∨ ix s l < l.length) ∧ own (openL l r) s = if s = r.name then r else own l s := by
  have hs : Sorted (openL l r) := openL_sorted _ l hl fun a ha e => i (ix_mem.2 ⟨a, ha, e⟩)
  have h1 : ix s (openL l r) < (openL l r).length ↔ s = r.name ∨ ix s l < l.length := by
    rw [ix_mem, ix_mem]
    constructor
    · rintro ⟨a, ha, e⟩
      rcases openL_mem.1 ha with rfl | ha
      · exact .inl e.symm
      · exact .inr ⟨a, ha, e⟩
    · rintro (e | ⟨a, ha, e⟩)
      · exact ⟨r, openL_mem.2 (.inl rfl), e.symm⟩
      · exact ⟨a, openL_mem.2 (.inr ha), e⟩
  refine ⟨h1, ?_⟩
  by_cases e : s = r.name
  · rw [if_pos e, e]
    exact (own_of hs (openL_mem.2 (.inl rfl))).2
  · rw [if_neg e]
    by_cases h : ix s l < l.length
    · have hm := own_of hs (openL_mem.2 (.inr (own_mem h)) : own l s ∈ openL l r)
      rw [own_name h] at hm
      exact hm.2
    · rw [own_zero h, own_zero (fun k => by rcases h1.1 k with k | k; exact e k; exact h k)]

/-! ### shut, taken -/
def shutT (r : T) : T := ⟨r.name, r.next, r.limit, true⟩
def nextT (r : T) : T := ⟨r.name, r.next + 1, r.limit, r.shut⟩
def unE (l : List T) (s : ByteArray) : Int := if rightB l = false then 1 else if l.length ≤ ix s l then 11 else if (own l s).shut = true then 13 else 0
def shutR (l : List T) (s : ByteArray) : List T := if unE l s = 0 then l.set (ix s l) (shutT (own l s)) else []
def takeE (l : List T) (s : ByteArray) : Int := if unE l s ≠ 0 then unE l s else if (own l s).limit < (own l s).next then 14 else 0
def takeN (l : List T) (s : ByteArray) : Int := if takeE l s = 0 then (own l s).next else 0
def takeR (l : List T) (s : ByteArray) : List T := if takeE l s = 0 then l.set (ix s l) (nextT (own l s)) else []
theorem un_arg {l : List T} {s : ByteArray} (h : rightB l = false) : unE l s = 1 := if_pos h
theorem un_none {l : List T} {s : ByteArray} (h : rightB l = true) (k : ¬ ix s l < l.length) : unE l s = 11 := by
  unfold unE
  rw [if_neg (by rw [h]; simp), if_pos (by omega)]
theorem un_shut {l : List T} {s : ByteArray} (h : rightB l = true) (k : ix s l < l.length) (m : (own l s).shut = true) : unE l s = 13 := by
  unfold unE
  rw [if_neg (by rw [h]; simp), if_neg (by omega), if_pos m]
theorem un_ok {l : List T} {s : ByteArray} (h : rightB l = true) (k : ix s l < l.length) (m : (own l s).shut = false) : unE l s = 0 := by
  unfold unE
  rw [if_neg (by rw [h]; simp), if_neg (by omega), if_neg (by rw [m]; simp)]
theorem un_0 {l : List T} {s : ByteArray} (h : unE l s = 0) : rightB l = true ∧ ix s l < l.length ∧ (own l s).shut = false := by
  unfold unE at h
  cases h1 : rightB l
  · rw [if_pos h1] at h; omega
  · rw [if_neg (by rw [h1]; simp)] at h
    by_cases h2 : l.length ≤ ix s l
    · rw [if_pos h2] at h; omega
    · rw [if_neg h2] at h
      cases h3 : (own l s).shut
      · exact ⟨rfl, by omega, rfl⟩
      · rw [if_pos h3] at h; omega
theorem shut_no {l : List T} {s : ByteArray} (h : unE l s ≠ 0) : shutR l s = [] := if_neg h
theorem shut_yes {l : List T} {s : ByteArray} (h : unE l s = 0) : shutR l s = l.set (ix s l) (shutT (own l s)) := if_pos h
theorem take_un {l : List T} {s : ByteArray} (h : unE l s ≠ 0) : takeE l s = unE l s ∧ takeN l s = 0 ∧ takeR l s = [] := by
  have e : takeE l s = unE l s := if_pos h
  exact ⟨e, by unfold takeN; rw [e, if_neg h], by unfold takeR; rw [e, if_neg h]⟩
theorem take_full {l : List T} {s : ByteArray} (h : unE l s = 0) (k : (own l s).limit < (own l s).next) : takeE l s = 14 ∧ takeN l s = 0 ∧ takeR l s = [] := by
  have e : takeE l s = 14 := by
    unfold takeE
    rw [if_neg (by rw [h]; simp), if_pos k]
  exact ⟨e, by unfold takeN; rw [e]; rfl, by unfold takeR; rw [e]; rfl⟩
theorem take_ok {l : List T} {s : ByteArray} (h : unE l s = 0) (k : ¬ (own l s).limit < (own l s).next) : takeE l s = 0 ∧ takeN l s = (own l s).next ∧ takeR l s = l.set (ix s l) (nextT (own l s)) := by
  have e : takeE l s = 0 := by
    unfold takeE
    rw [if_neg (by rw [h]; simp), if_neg k]
  exact ⟨e, by unfold takeN; rw [e]; rfl, by unfold takeR; rw [e]; rfl⟩
theorem set_mem {l : List T} {s : ByteArray} {r : T} (h : ix s l < l.length) (a : T) (ha : a ∈ l.set (ix s l) r) : a = r ∨ a ∈ l := by
  obtain ⟨j, hj, e⟩ := List.getElem_of_mem ha
  rw [List.getElem_set] at e
  split at e
  · exact .inl e.symm
  · exact .inr (e ▸ List.getElem_mem _)
theorem set_names {l : List T} {s : ByteArray} {r : T} (h : ix s l < l.length) (hr : r.name = s) : (l.set (ix s l) r).map T.name = l.map T.name := by
  rw [List.map_set, hr]
  apply List.ext_getElem (by simp)
  intro j h1 h2
  rw [List.getElem_set]
  split
  · rename_i e
    subst e
    rw [List.getElem_map, ix_name h]
  · rfl
theorem sorted_names {l m : List T} (h : l.map T.name = m.map T.name) (hs : Sorted l) : Sorted m := by
  have h1 : (l.map T.name).Pairwise (fun a b => lt a b = true) := List.pairwise_map.2 hs
  rw [h] at h1
  exact List.pairwise_map.1 h1
theorem ix_names (s : ByteArray) : ∀ {l m : List T}, l.map T.name = m.map T.name → ix s l = ix s m
  | [], [], _ => rfl
  | [], _ :: _, h => by simp at h
  | _ :: _, [], h => by simp at h
  | a :: l, b :: m, h => by
    simp only [List.map_cons, List.cons.injEq] at h
    unfold ix
    rw [h.1, ix_names s h.2]
theorem set_right {l : List T} {s : ByteArray} {r : T} (hl : rightB l = true) (h : ix s l < l.length) (hr : r.name = s) (k : sound r = true) : rightB (l.set (ix s l) r) = true := by
  obtain ⟨h1, h2, h3⟩ := (right_iff l).1 hl
  refine (right_iff _).2 ⟨by rw [List.length_set]; exact h1, fun a ha => ?_, sorted_names (set_names h hr).symm h3⟩
  rcases set_mem h a ha with rfl | ha
  · exact k
  · exact h2 a ha
theorem set_own {l : List T} {s : ByteArray} {r : T} (h : ix s l < l.length) (hr : r.name = s) (t : ByteArray) : (ix t (l.set (ix s l) r) = ix t l) ∧ own (l.set (ix s l) r) t = if t = s then r else own l t := by
  have e := ix_names t (set_names h hr)
  refine ⟨e, ?_⟩
  unfold own
  rw [e]
  by_cases ht : t = s
  · rw [if_pos ht, ht, List.getElem?_set_self h]
    rfl
  · rw [if_neg ht]
    by_cases hi : ix t l < l.length
    · have hne : ix s l ≠ ix t l := by
        intro k
        have h1 := ix_name h
        have h2 := ix_name hi
        apply ht
        rw [← h1, ← h2]
        simp only [k]
      rw [List.getElem?_set_ne hne]
    · rw [List.getElem?_eq_none (by rw [List.length_set]; omega), List.getElem?_eq_none (by omega)]
theorem shut_right {l : List T} {s : ByteArray} (h : unE l s = 0) : rightB (shutR l s) = true := by
  obtain ⟨h1, h2, h3⟩ := un_0 h
  rw [shut_yes h]
  have k := sound_iff.1 (((right_iff l).1 h1).2.1 _ (own_mem h2))
  exact set_right h1 h2 (own_name h2) (sound_iff.2 k)
theorem take_right {l : List T} {s : ByteArray} (h : unE l s = 0) (k : ¬ (own l s).limit < (own l s).next) : rightB (takeR l s) = true := by
  obtain ⟨h1, h2, h3⟩ := un_0 h
  rw [(take_ok h k).2.2]
  obtain ⟨k1, k2, k3, k4⟩ := sound_iff.1 (((right_iff l).1 h1).2.1 _ (own_mem h2))
  exact set_right h1 h2 (own_name h2) (sound_iff.2 ⟨k1, k2, by show 1 ≤ (own l s).next + 1; omega, by show (own l s).next + 1 ≤ (own l s).limit + 1; omega⟩)
end Go.Proofs.Ytemifminohdhbaa.Se
