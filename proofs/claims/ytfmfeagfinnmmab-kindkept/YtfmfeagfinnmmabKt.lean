/- PLAIN LEAN: things, told flat, and made of values; no Go walked here. -/
import Derived.Test.YtfmfeagfinnmmabKd
namespace Go.Proofs.Ytfmfeagfinnmmab
open Vl (T)

/-- what a thing may hold -/
inductive Th where
  | none
  | num (n : Int)
  | text (s : ByteArray)
  | flag (b : Bool)
  | day (y m d : Int)
  | list (l : List Th)
namespace Th
/-- the things that a list holds -/
def kids : Th → List Th
  | .list l => l
  | _ => []
/-- its kind -/
def kind : Th → Int
  | .none => 0
  | .num _ => 1
  | .text _ => 2
  | .flag _ => 3
  | .day _ _ _ => 4
  | .list _ => 5
/-- the value that it begins with -/
def head : Th → T
  | .none => ⟨0, 0, .empty, 0, 0, 0⟩
  | .num n => ⟨1, n, .empty, 0, 0, 0⟩
  | .text s => ⟨2, 0, s, 0, 0, 0⟩
  | .flag b => ⟨3, if b then 1 else 0, .empty, 0, 0, 0⟩
  | .day y m d => ⟨4, 0, .empty, y, m, d⟩
  | .list l => ⟨5, l.length, .empty, 0, 0, 0⟩
mutual
/-- told flat -/
def flat : Th → List T
  | .list l => ⟨5, l.length, .empty, 0, 0, 0⟩ :: flats l
  | .none => [⟨0, 0, .empty, 0, 0, 0⟩]
  | .num n => [⟨1, n, .empty, 0, 0, 0⟩]
  | .text s => [⟨2, 0, s, 0, 0, 0⟩]
  | .flag b => [⟨3, if b then 1 else 0, .empty, 0, 0, 0⟩]
  | .day y m d => [⟨4, 0, .empty, y, m, d⟩]
def flats : List Th → List T
  | [] => []
  | t :: l => flat t ++ flats l
end
mutual
/-- no list of it stands within sixteen others -/
def okD : Th → Nat → Prop
  | .list l, k => k < 16 ∧ okDs l (k + 1)
  | .none, _ => True
  | .num _, _ => True
  | .text _, _ => True
  | .flag _, _ => True
  | .day _ _ _, _ => True
def okDs : List Th → Nat → Prop
  | [], _ => True
  | t :: l, k => okD t k ∧ okDs l k
end
theorem flat_eq (t : Th) : flat t = head t :: flats (kids t) := by
  cases t <;> simp [flat, head, kids, flats]
theorem flats_app : ∀ a b : List Th, flats (a ++ b) = flats a ++ flats b
  | [], b => by simp [flats]
  | t :: a, b => by simp [flats, flats_app a b, List.append_assoc]
theorem flats_one (t : Th) : flats [t] = flat t := by simp [flats]
theorem mem_flats {r : T} : ∀ {l : List Th}, r ∈ flats l ↔ ∃ t ∈ l, r ∈ flat t
  | [] => by simp [flats]
  | t :: l => by simp [flats, mem_flats (l := l)]
theorem okDs_iff {k : Nat} : ∀ {l : List Th}, okDs l k ↔ ∀ t ∈ l, okD t k
  | [] => by simp [okDs]
  | t :: l => by simp [okDs, okDs_iff (l := l)]
theorem okD_kids {t : Th} {k : Nat} (h : okD t k) : ∀ s ∈ kids t, okD s (k + 1) := by
  cases t <;> simp [kids]
  rw [okD] at h
  exact fun s hs => okDs_iff.1 h.2 s hs
theorem okD_of {t : Th} {k : Nat} (h : kind t = 5 → k < 16) (hk : ∀ s ∈ kids t, okD s (k + 1)) : okD t k := by
  cases t <;> simp [okD]
  exact ⟨h rfl, okDs_iff.2 hk⟩
theorem okD_deep {t : Th} {k : Nat} (h : kind t = 5) (hk : 16 ≤ k) : ¬ okD t k := by
  cases t <;> simp [kind] at h
  simp [okD]
  omega
theorem head_kind (t : Th) : (head t).kind = kind t := by cases t <;> rfl
theorem flats_take {l : List Th} {j : Nat} (h : j < l.length) : flats (l.take (j + 1)) = flats (l.take j) ++ flat l[j] := by
  rw [List.take_add_one, List.getElem?_eq_getElem h, Option.toList_some, flats_app, flats_one]
theorem flats_split {l : List Th} {j : Nat} (h : j < l.length) : flats l = flats (l.take j) ++ (flat l[j] ++ flats (l.drop (j + 1))) := by
  have e : l = l.take j ++ l[j] :: l.drop (j + 1) := by rw [← List.drop_eq_getElem_cons h, List.take_append_drop]
  conv => lhs; rw [e]
  rw [flats_app, flats]
/-- may it be laid, within so many lists, behind so many values? -/
def fits (t : Th) (within before : Nat) : Prop := okD t within ∧ before + (flat t).length ≤ 200
theorem not_fits_kid {t : Th} {within before j : Nat} (h : j < (kids t).length) (k : ¬ fits (kids t)[j] (within + 1) (before + 1 + (flats ((kids t).take j)).length)) : ¬ fits t within before := by
  rintro ⟨h1, h2⟩
  apply k
  refine ⟨okD_kids h1 _ (List.getElem_mem h), ?_⟩
  rw [flat_eq, List.length_cons, flats_split h, List.length_append, List.length_append] at h2
  omega
theorem not_fits_deep {t : Th} {within before : Nat} (h : kind t = 5) (hk : 16 ≤ within) : ¬ fits t within before := fun k => okD_deep h hk k.1
theorem flat_pos (t : Th) : 1 ≤ (flat t).length := by rw [flat_eq, List.length_cons]; omega
theorem not_fits_full {t : Th} {within before : Nat} (h : 200 ≤ before) : ¬ fits t within before := by
  rintro ⟨_, h2⟩
  have := flat_pos t
  omega
theorem fits_of {t : Th} {within before : Nat} (h5 : kind t = 5 → within < 16) (hk : ∀ s ∈ kids t, okD s (within + 1)) (hl : before + 1 + (flats (kids t)).length ≤ 200) : fits t within before :=
  ⟨okD_of h5 hk, by rw [flat_eq, List.length_cons]; omega⟩
theorem kids_none {t : Th} (h : kind t ≠ 5) : kids t = [] := by cases t <;> first | rfl | exact absurd rfl h
/-- the thing of a value that is no list -/
def one (x : T) : Th := if x.kind = 1 then .num x.n else if x.kind = 2 then .text x.text else if x.kind = 3 then .flag (x.n == 1) else if x.kind = 4 then .day x.y x.m x.d else .none
/-- so many things, one behind the other, behind those that are there -/
def manyA (g : List T → Int ⊕ (Th × List T)) : Nat → List Th → List T → Int ⊕ (List Th × List T)
  | 0, acc, l => .inr (acc, l)
  | k + 1, acc, l => match g l with
    | .inl e => .inl e
    | .inr p => manyA g k (acc ++ [p.1]) p.2
/-- one thing; f: 17 less the lists that it stands within -/
def tk : Nat → List T → Int ⊕ (Th × List T)
  | 0, _ => .inl 2
  | _ + 1, [] => .inl 3
  | f + 1, x :: l => if Kd.chk x (16 - f) ≠ 0 then .inl (Kd.chk x (16 - f)) else if x.kind = 5 then (match manyA (tk f) x.n.toNat [] l with
    | .inl e => .inl e
    | .inr p => .inr (.list p.1, p.2)) else .inr (one x, l)
theorem tk_none (f : Nat) : tk (f + 1) [] = .inl 3 := rfl
theorem tk_bad {f : Nat} {x : T} {l : List T} (h : Kd.chk x (16 - f) ≠ 0) : tk (f + 1) (x :: l) = .inl (Kd.chk x (16 - f)) := by
  rw [tk, if_pos h]
theorem tk_one {f : Nat} {x : T} {l : List T} (h : Kd.chk x (16 - f) = 0) (k : x.kind ≠ 5) : tk (f + 1) (x :: l) = .inr (one x, l) := by
  rw [tk, if_neg (by rw [h]; simp), if_neg k]
theorem tk_list {f : Nat} {x : T} {l : List T} (h : Kd.chk x (16 - f) = 0) (k : x.kind = 5) : tk (f + 1) (x :: l) = (match manyA (tk f) x.n.toNat [] l with
    | .inl e => .inl e
    | .inr p => .inr (.list p.1, p.2)) := by
  rw [tk, if_neg (by rw [h]; simp), if_pos k]
theorem manyA_bad {g : List T → Int ⊕ (Th × List T)} {k : Nat} {acc : List Th} {l : List T} {e : Int} (h : g l = .inl e) : manyA g (k + 1) acc l = .inl e := by
  rw [manyA, h]
theorem manyA_step {g : List T → Int ⊕ (Th × List T)} {k : Nat} {acc : List Th} {l r : List T} {t : Th} (h : g l = .inr (t, r)) : manyA g (k + 1) acc l = manyA g k (acc ++ [t]) r := by
  rw [manyA, h]
/-- the walk alone -/
def back : Int ⊕ (Th × List T) → Int ⊕ List T
  | .inl e => .inl e
  | .inr p => .inr p.2
theorem many_walk {g : List T → Int ⊕ List T} {h : List T → Int ⊕ (Th × List T)} (e : ∀ l, g l = back (h l)) : ∀ (k : Nat) (acc : List Th) (l : List T), Kd.many g k l = (match manyA h k acc l with
    | .inl e => .inl e
    | .inr p => .inr p.2)
  | 0, acc, l => rfl
  | k + 1, acc, l => by
    have e' := e l
    cases hr : h l with
    | inl c =>
      rw [hr] at e'
      rw [Kd.many_bad e', manyA_bad hr]
    | inr p =>
      obtain ⟨t, r⟩ := p
      rw [hr] at e'
      rw [Kd.many_step e', manyA_step hr]
      exact many_walk e k _ _
theorem walk_tk : ∀ (f : Nat) (l : List T), Kd.walkL f l = back (tk f l)
  | 0, _ => rfl
  | f + 1, [] => rfl
  | f + 1, x :: l => by
    by_cases hc : Kd.chk x (16 - f) = 0
    · by_cases hk : x.kind = 5
      · rw [Kd.walk_list hc hk, tk_list hc hk, many_walk (walk_tk f) _ []]
        cases manyA (tk f) x.n.toNat [] l <;> rfl
      · rw [Kd.walk_one hc hk, tk_one hc hk]
        rfl
    · rw [Kd.walk_bad hc, tk_bad hc]
      rfl
theorem chk_zero {x : T} {deep : Nat} (h : Kd.chk x deep = 0) : ¬ (x.kind = 5 ∧ 16 ≤ deep) ∧ Kd.good x := by
  by_cases h1 : x.kind = 5 ∧ 16 ≤ deep
  · rw [Kd.chk_deep h1.1 h1.2] at h
    omega
  · refine ⟨h1, ?_⟩
    by_cases h2 : x.kind < 0 ∨ 5 < x.kind
    · rw [Kd.chk_kind h2] at h
      omega
    · by_cases h3 : Kd.good x
      · exact h3
      · rw [Kd.chk_bad h1 (by omega) (by omega) h3] at h
        omega
theorem one_head {x : T} (h : Kd.good x) (k : x.kind ≠ 5) : flat (one x) = [x] ∧ kind (one x) = x.kind := by
  obtain ⟨kd, n, text, y, m, d⟩ := x
  unfold Kd.good at h
  dsimp only at h k
  rcases h with ⟨rfl, rfl, rfl, rfl, rfl, rfl⟩ | ⟨rfl, rfl, rfl, rfl, rfl⟩ | ⟨rfl, rfl, rfl, rfl, rfl⟩ | ⟨rfl, h, rfl, rfl, rfl, rfl⟩ | ⟨rfl, rfl, rfl⟩ | ⟨rfl, _⟩
  · simp [one, flat, kind]
  · simp [one, flat, kind]
  · simp [one, flat, kind]
  · rcases h with rfl | rfl <;> simp [one, flat, kind]
  · simp [one, flat, kind]
  · exact absurd rfl k
theorem manyA_flat {f : Nat} (ih : ∀ l t r, tk f l = .inr (t, r) → l = flat t ++ r ∧ okD t (17 - f)) : ∀ (k : Nat) (acc : List Th) (l : List T) (ts : List Th) (r : List T), manyA (tk f) k acc l = .inr (ts, r) → ∃ s, ts = acc ++ s ∧ s.length = k ∧ l = flats s ++ r ∧ ∀ t ∈ s, okD t (17 - f)
  | 0, acc, l, ts, r, h => by
    rw [manyA] at h
    injection h with h
    injection h with h1 h2
    exact ⟨[], by simp [h1], rfl, by simp [flats, h2], by simp⟩
  | k + 1, acc, l, ts, r, h => by
    cases hr : tk f l with
    | inl c =>
      rw [manyA_bad hr] at h
      cases h
    | inr p =>
      obtain ⟨t, r1⟩ := p
      rw [manyA_step hr] at h
      obtain ⟨s, e1, e2, e3, e4⟩ := manyA_flat ih k _ _ _ _ h
      obtain ⟨f1, f2⟩ := ih _ _ _ hr
      refine ⟨t :: s, by rw [e1, List.append_assoc]; rfl, by simp [e2], by rw [f1, e3, flats, List.append_assoc], ?_⟩
      intro x hx
      rcases List.mem_cons.1 hx with rfl | hx
      · exact f2
      · exact e4 x hx
theorem tk_flat : ∀ (f : Nat), f ≤ 17 → ∀ (l : List T) (t : Th) (r : List T), tk f l = .inr (t, r) → l = flat t ++ r ∧ okD t (17 - f)
  | 0, _, _, _, _, h => by
    rw [tk] at h
    cases h
  | f + 1, _, [], _, _, h => by
    rw [tk_none] at h
    cases h
  | f + 1, hf, x :: l, t, r, h => by
    by_cases hc : Kd.chk x (16 - f) = 0
    · obtain ⟨h1, h2⟩ := chk_zero hc
      by_cases hk : x.kind = 5
      · rw [tk_list hc hk] at h
        cases hm : manyA (tk f) x.n.toNat [] l with
        | inl e =>
          rw [hm] at h
          cases h
        | inr p =>
          obtain ⟨ts, r'⟩ := p
          rw [hm] at h
          injection h with h
          injection h with e1 e2
          subst e1 e2
          obtain ⟨s, rfl, e2, e3, e4⟩ := manyA_flat (tk_flat f (by omega)) _ _ _ _ _ hm
          dsimp only
          obtain ⟨kd, n, text, y, m, d⟩ := x
          unfold Kd.good at h2
          dsimp only at h2 hk h1 e2
          subst hk
          simp at h2
          obtain ⟨h0, rfl, rfl, rfl, rfl⟩ := h2
          refine ⟨?_, ?_⟩
          · rw [flat, e3, e2, show ((n.toNat : Nat) : Int) = n by omega]
            rfl
          · rw [okD]
            refine ⟨by omega, okDs_iff.2 ?_⟩
            rw [show 17 - (f + 1) + 1 = 17 - f by simp at h1; omega]
            exact e4
      · rw [tk_one hc hk] at h
        injection h with h
        injection h with e1 e2
        subst e1 e2
        obtain ⟨g1, g2⟩ := one_head h2 hk
        refine ⟨by rw [g1]; rfl, okD_of (fun k => absurd (g2.symm.trans k) hk) ?_⟩
        rw [kids_none (by rw [g2]; exact hk)]
        simp
    · rw [tk_bad hc] at h
      cases h
theorem tk_ne {f : Nat} {l : List T} {e : Int} (h : tk f l = .inl e) : e ≠ 0 ∧ Kd.walkL f l = .inl e := by
  have h1 : Kd.walkL f l = .inl e := by rw [walk_tk, h]; rfl
  refine ⟨?_, h1⟩
  clear h1
  revert l e
  induction f with
  | zero =>
    intro l e h
    rw [tk] at h
    injection h with h
    omega
  | succ f ih =>
    intro l e h
    cases l with
    | nil =>
      rw [tk_none] at h
      injection h with h
      omega
    | cons x l =>
      by_cases hc : Kd.chk x (16 - f) = 0
      · by_cases hk : x.kind = 5
        · rw [tk_list hc hk] at h
          have hm : ∀ (k : Nat) (acc : List Th) (l : List T) (e : Int), manyA (tk f) k acc l = .inl e → e ≠ 0 := by
            intro k
            induction k with
            | zero =>
              intro acc l e h
              rw [manyA] at h
              cases h
            | succ k ihk =>
              intro acc l e h
              cases hr : tk f l with
              | inl c =>
                rw [manyA_bad hr] at h
                injection h with h
                exact h ▸ ih hr
              | inr p =>
                obtain ⟨t, r⟩ := p
                rw [manyA_step hr] at h
                exact ihk _ _ _ h
          cases hq : manyA (tk f) x.n.toNat [] l with
          | inl c =>
            rw [hq] at h
            injection h with h
            exact h ▸ hm _ _ _ _ hq
          | inr p =>
            rw [hq] at h
            cases h
        · rw [tk_one hc hk] at h
          cases h
      · rw [tk_bad hc] at h
        injection h with h
        omega
/-- what the values make, where they are a thing and nothing behind it -/
theorem ofE_zero {l : List T} (h : Kd.ofE l = 0) : ∃ t, tk 17 l = .inr (t, []) ∧ l = flat t ∧ okD t 0 ∧ l.length ≤ 200 := by
  unfold Kd.ofE at h
  by_cases h2 : 200 < l.length
  · rw [if_pos h2] at h
    omega
  · rw [if_neg h2] at h
    cases hr : tk 17 l with
    | inl e =>
      obtain ⟨k1, k2⟩ := tk_ne hr
      rw [k2] at h
      exact absurd h k1
    | inr p =>
      obtain ⟨t, r⟩ := p
      have hw := walk_tk 17 l
      rw [hr] at hw
      rw [hw] at h
      cases r with
      | nil =>
        obtain ⟨e1, e2⟩ := tk_flat 17 (by omega) _ _ _ hr
        rw [List.append_nil] at e1
        exact ⟨t, rfl, e1, e2, by omega⟩
      | cons a b =>
        simp [back] at h
end Th
end Go.Proofs.Ytfmfeagfinnmmab
