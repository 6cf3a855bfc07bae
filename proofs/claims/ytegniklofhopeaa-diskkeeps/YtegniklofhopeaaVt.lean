/- PLAIN LEAN: rows of rates, their order, tables, what is put into one and found in it; no Go walked here. -/
import Derived.Test.YtegniklofhopeaaDtTxt
import Derived.Test.YtegniklofhopeaaTxtN
import Derived.Test.YtegniklofhopeaaRune
namespace Go.Proofs.Ytegniklofhopeaa.Vt

/-! ### texts byte by byte -/
theorem less_irrefl : ∀ l : List UInt8, Op.bytesLess l l = false
  | [] => rfl
  | a :: l => by
    have h := less_irrefl l
    rw [Bool.eq_false_iff]
    intro k
    rw [Dt.less_same, h] at k
    cases k
theorem less_trans : ∀ a b c : List UInt8, Op.bytesLess a b = true → Op.bytesLess b c = true → Op.bytesLess a c = true
  | _, _, [], _, h => by rw [Dt.less_nil] at h; cases h
  | _, [], _ :: _, h, _ => by rw [Dt.less_nil] at h; cases h
  | [], _ :: _, _ :: _, _, _ => rfl
  | x :: a, y :: b, z :: c, h, k => by
    rw [Dt.less_cons] at h k ⊢
    rcases h with h | ⟨rfl, h⟩
    · rcases k with k | ⟨rfl, k⟩
      · exact .inl (UInt8.lt_trans h k)
      · exact .inl h
    · rcases k with k | ⟨rfl, k⟩
      · exact .inl k
      · exact .inr ⟨rfl, less_trans a b c h k⟩
theorem less_tri : ∀ a b : List UInt8, Op.bytesLess a b = true ∨ a = b ∨ Op.bytesLess b a = true
  | [], [] => .inr (.inl rfl)
  | [], _ :: _ => .inl rfl
  | _ :: _, [] => .inr (.inr rfl)
  | x :: a, y :: b => by
    rw [Dt.less_cons, Dt.less_cons]
    have h3 : x.toNat < y.toNat ∨ x.toNat = y.toNat ∨ y.toNat < x.toNat := by omega
    rcases h3 with h | h | h
    · exact .inl (.inl (UInt8.lt_iff_toNat_lt.2 h))
    · obtain rfl : x = y := UInt8.toNat_inj.1 h
      rcases less_tri a b with k | rfl | k
      · exact .inl (.inr ⟨rfl, k⟩)
      · exact .inr (.inl rfl)
      · exact .inr (.inr (.inr ⟨rfl, k⟩))
    · exact .inr (.inr (.inl (UInt8.lt_iff_toNat_lt.2 h)))

/-! ### rows -/
structure Rt where
  cat : ByteArray
  y : Int
  m : Int
  d : Int
  bp : Int
def dy (r : Rt) : Int := Dt.days r.y r.m r.d
def lt (a b : Rt) : Bool := if a.cat = b.cat then decide (dy a < dy b) else Op.bytesLess a.cat.toList b.cat.toList
theorem lt_same {a b : Rt} (h : a.cat = b.cat) : lt a b = decide (dy a < dy b) := if_pos h
theorem lt_other {a b : Rt} (h : a.cat ≠ b.cat) : lt a b = Op.bytesLess a.cat.toList b.cat.toList := if_neg h
theorem cat_ext {a b : ByteArray} (h : a.toList = b.toList) : a = b := txt_ext (by rw [← tl, ← tl]; exact h)
theorem lt_trans {a b c : Rt} (h : lt a b = true) (k : lt b c = true) : lt a c = true := by
  by_cases e : a.cat = b.cat
  · rw [lt_same e, decide_eq_true_iff] at h
    by_cases f : b.cat = c.cat
    · rw [lt_same f, decide_eq_true_iff] at k
      rw [lt_same (e.trans f), decide_eq_true_iff]
      omega
    · rw [lt_other f] at k
      rw [lt_other (by rw [e]; exact f), e]
      exact k
  · rw [lt_other e] at h
    by_cases f : b.cat = c.cat
    · rw [lt_other (by rw [← f]; exact e), ← f]
      exact h
    · rw [lt_other f] at k
      have t := less_trans _ _ _ h k
      rw [lt_other]
      · exact t
      · intro g
        rw [g] at h
        have := less_trans _ _ _ h k
        rw [less_irrefl] at this
        cases this
theorem lt_irrefl (a : Rt) : lt a a = false := by
  rw [lt_same rfl]
  exact decide_eq_false (by omega)
theorem lt_asymm {a b : Rt} (h : lt a b = true) : lt b a = false := by
  rw [Bool.eq_false_iff]
  intro k
  have := lt_trans h k
  rw [lt_irrefl] at this
  cases this
theorem lt_tri (a b : Rt) : lt a b = true ∨ (a.cat = b.cat ∧ dy a = dy b) ∨ lt b a = true := by
  by_cases e : a.cat = b.cat
  · rw [lt_same e, lt_same e.symm, decide_eq_true_iff, decide_eq_true_iff]
    have : dy a < dy b ∨ dy a = dy b ∨ dy b < dy a := by omega
    rcases this with h | h | h
    · exact .inl h
    · exact .inr (.inl ⟨e, h⟩)
    · exact .inr (.inr h)
  · rw [lt_other e, lt_other fun k => e k.symm]
    rcases less_tri a.cat.toList b.cat.toList with h | h | h
    · exact .inl h
    · exact absurd (cat_ext h) e
    · exact .inr (.inr h)
/-- what a row is refused for -/
def rowE (r : Rt) : Int := if Rn.name (txt r.cat) = false then 8 else if Dt.rightB r.y r.m r.d = false then 9 else if r.bp < 0 ∨ 100000 < r.bp then 10 else 0
theorem rowE_0 {r : Rt} : rowE r = 0 ↔ Rn.name (txt r.cat) = true ∧ Dt.rightB r.y r.m r.d = true ∧ 0 ≤ r.bp ∧ r.bp ≤ 100000 := by
  unfold rowE
  cases Rn.name (txt r.cat)
  · simp
  · cases Dt.rightB r.y r.m r.d
    · simp
    · simp
theorem rowE_name {r : Rt} (h : Rn.name (txt r.cat) = false) : rowE r = 8 := if_pos h
theorem rowE_day {r : Rt} (h : Rn.name (txt r.cat) = true) (k : Dt.rightB r.y r.m r.d = false) : rowE r = 9 := by
  unfold rowE
  rw [if_neg (by rw [h]; simp), if_pos k]
theorem rowE_bp {r : Rt} (h : Rn.name (txt r.cat) = true) (k : Dt.rightB r.y r.m r.d = true) (l : r.bp < 0 ∨ 100000 < r.bp) : rowE r = 10 := by
  unfold rowE
  rw [if_neg (by rw [h]; simp), if_neg (by rw [k]; simp), if_pos l]
theorem rowE_bd (r : Rt) : 0 ≤ rowE r ∧ rowE r ≤ 10 := by
  unfold rowE
  split
  · omega
  · split
    · omega
    · split <;> omega

/-! ### tables -/
def ok (p : Option Rt) (r : Rt) : Bool := decide (rowE r = 0) && (match p with | none => true | some q => lt q r)
def okAll : Option Rt → List Rt → Bool
  | _, [] => true
  | p, r :: l => ok p r && okAll (some r) l
def tableB (l : List Rt) : Bool := decide (l.length ≤ 24) && okAll none l
def Sorted (l : List Rt) : Prop := l.Pairwise fun a b => lt a b = true
theorem okAll_iff : ∀ (l : List Rt) (p : Option Rt), okAll p l = true ↔ (∀ r ∈ l, rowE r = 0) ∧ Sorted l ∧ (∀ q, p = some q → ∀ r ∈ l, lt q r = true)
  | [], p => by simp [okAll, Sorted]
  | a :: l, p => by
    have ih := okAll_iff l (some a)
    rw [okAll, Bool.and_eq_true, ih]
    unfold ok Sorted
    rw [Bool.and_eq_true, decide_eq_true_iff, List.pairwise_cons]
    constructor
    · rintro ⟨⟨h1, h2⟩, h3, h4, h5⟩
      refine ⟨?_, ⟨h5 a rfl, h4⟩, ?_⟩
      · intro r hr
        rcases List.mem_cons.1 hr with rfl | hr
        · exact h1
        · exact h3 r hr
      · rintro q rfl r hr
        rcases List.mem_cons.1 hr with rfl | hr
        · exact h2
        · exact lt_trans h2 (h5 a rfl r hr)
    · rintro ⟨h1, ⟨h2, h3⟩, h4⟩
      refine ⟨⟨h1 a (List.mem_cons_self ..), ?_⟩, fun r hr => h1 r (List.mem_cons_of_mem _ hr), h3, ?_⟩
      · cases p with
        | none => rfl
        | some q => exact h4 q rfl a (List.mem_cons_self ..)
      · rintro q ⟨⟩ r hr
        exact h2 r hr
theorem table_iff (l : List Rt) : tableB l = true ↔ l.length ≤ 24 ∧ (∀ r ∈ l, rowE r = 0) ∧ Sorted l := by
  unfold tableB
  rw [Bool.and_eq_true, decide_eq_true_iff, okAll_iff]
  simp
theorem table_nil : tableB [] = true := rfl
theorem table_long {l : List Rt} (h : 24 < l.length) : tableB l = false := by
  unfold tableB
  rw [decide_eq_false (by omega)]
  rfl
theorem table_short {l : List Rt} (h : l.length ≤ 24) : tableB l = okAll none l := by
  unfold tableB
  rw [decide_eq_true h]
  rfl
/-- the row ahead of a place -/
def prevAt (l : List Rt) (k : Nat) : Option Rt := if k = 0 then none else l[k - 1]?
theorem okAll_at (l : List Rt) (k : Nat) (h : k < l.length) : okAll (prevAt l k) (l.drop k) = (ok (prevAt l k) l[k] && okAll (prevAt l (k + 1)) (l.drop (k + 1))) := by
  rw [List.drop_eq_getElem_cons h, okAll]
  congr 2
  unfold prevAt
  rw [if_neg (by omega), Nat.add_sub_cancel, List.getElem?_eq_getElem h]

/-! ### a row put into a table -/
def spot (r : Rt) : List Rt → Nat
  | [] => 0
  | a :: l => if lt a r = true then spot r l + 1 else 0
theorem spot_le (r : Rt) : ∀ l, spot r l ≤ l.length
  | [] => Nat.le_refl _
  | a :: l => by
    have := spot_le r l
    unfold spot
    split
    · simp; omega
    · simp
def putL (l : List Rt) (r : Rt) : List Rt := l.take (spot r l) ++ r :: l.drop (spot r l)
/-- is there a row of that category and day? -/
def taken (l : List Rt) (r : Rt) : Bool := match l[spot r l]? with | none => false | some a => !(lt r a)
def putE (l : List Rt) (r : Rt) : Int := if tableB l = false then 1 else if rowE r ≠ 0 then rowE r else if taken l r = true then 12 else if 24 ≤ l.length then 2 else 0
def putR (l : List Rt) (r : Rt) : List Rt := if putE l r = 0 then putL l r else []
theorem putE_0 {l : List Rt} {r : Rt} (h : putE l r = 0) : tableB l = true ∧ rowE r = 0 ∧ taken l r = false ∧ l.length < 24 := by
  unfold putE at h
  cases ht : tableB l
  · rw [if_pos ht] at h; omega
  · rw [if_neg (by rw [ht]; simp)] at h
    by_cases hr : rowE r = 0
    · rw [if_neg (by simpa using hr)] at h
      cases hk : taken l r
      · rw [if_neg (by rw [hk]; simp)] at h
        by_cases hl : 24 ≤ l.length
        · rw [if_pos hl] at h; omega
        · exact ⟨rfl, hr, rfl, by omega⟩
      · rw [if_pos hk] at h; omega
    · rw [if_pos hr] at h
      exact absurd h hr
theorem putL_cons {a : Rt} {l : List Rt} {r : Rt} (h : lt a r = true) : putL (a :: l) r = a :: putL l r := by
  have e : spot r (a :: l) = spot r l + 1 := if_pos h
  unfold putL
  rw [e]
  rfl
theorem putL_head {a : Rt} {l : List Rt} {r : Rt} (h : lt a r = false) : putL (a :: l) r = r :: a :: l := by
  have e : spot r (a :: l) = 0 := if_neg (by rw [h]; simp)
  unfold putL
  rw [e]
  rfl
theorem putL_perm (r : Rt) : ∀ l, (putL l r).Perm (r :: l)
  | [] => List.Perm.refl _
  | a :: l => by
    cases h : lt a r
    · rw [putL_head h]
    · rw [putL_cons h]
      exact ((putL_perm r l).cons a).trans (List.Perm.swap r a l)
theorem putL_len (r : Rt) (l : List Rt) : (putL l r).length = l.length + 1 := by
  have := (putL_perm r l).length_eq
  simpa using this
theorem taken_cons {a : Rt} {l : List Rt} {r : Rt} (h : lt a r = true) : taken (a :: l) r = taken l r := by
  have e : spot r (a :: l) = spot r l + 1 := if_pos h
  unfold taken
  rw [e]
  rfl
theorem taken_head {a : Rt} {l : List Rt} {r : Rt} (h : lt a r = false) : taken (a :: l) r = !(lt r a) := by
  have e : spot r (a :: l) = 0 := if_neg (by rw [h]; simp)
  unfold taken
  rw [e]
  rfl
theorem putL_sorted (r : Rt) : ∀ l, Sorted l → taken l r = false → Sorted (putL l r)
  | [], _, _ => List.pairwise_singleton _ _
  | a :: l, h, k => by
    unfold Sorted at h
    rw [List.pairwise_cons] at h
    cases hl : lt a r
    · rw [taken_head hl] at k
      have hra : lt r a = true := by simpa using k
      rw [putL_head hl]
      unfold Sorted
      rw [List.pairwise_cons, List.pairwise_cons]
      refine ⟨fun b hb => ?_, h⟩
      rcases List.mem_cons.1 hb with rfl | hb
      · exact hra
      · exact lt_trans hra (h.1 b hb)
    · rw [taken_cons hl] at k
      rw [putL_cons hl]
      unfold Sorted
      rw [List.pairwise_cons]
      refine ⟨fun b hb => ?_, putL_sorted r l h.2 k⟩
      rcases List.mem_cons.1 ((putL_perm r l).mem_iff.1 hb) with rfl | hb
      · exact hl
      · exact h.1 b hb
theorem put_table {l : List Rt} {r : Rt} (h : putE l r = 0) : tableB (putL l r) = true := by
  obtain ⟨h1, h2, h3, h4⟩ := putE_0 h
  obtain ⟨k1, k2, k3⟩ := (table_iff l).1 h1
  refine (table_iff _).2 ⟨by rw [putL_len]; omega, fun b hb => ?_, putL_sorted r l k3 h3⟩
  rcases List.mem_cons.1 ((putL_perm r l).mem_iff.1 hb) with rfl | hb
  · exact h2
  · exact k2 b hb

/-! ### what is found -/
def hit (c : ByteArray) (n : Int) (r : Rt) : Bool := decide (r.cat = c) && decide (dy r ≤ n)
def last (c : ByteArray) (n : Int) : Int × Bool → List Rt → Int × Bool
  | acc, [] => acc
  | acc, r :: l => last c n (if hit c n r = true then (r.bp, true) else acc) l
def find (l : List Rt) (c : ByteArray) (y m d : Int) : Int × Bool := if (tableB l && Dt.rightB y m d) = true then last c (Dt.days y m d) (0, false) l else (0, false)
theorem last_app (c : ByteArray) (n : Int) : ∀ (a b : List Rt) (acc : Int × Bool), last c n acc (a ++ b) = last c n (last c n acc a) b
  | [], _, _ => rfl
  | _ :: a, b, _ => last_app c n a b _
theorem last_none (c : ByteArray) (n : Int) : ∀ (l : List Rt) (acc : Int × Bool), (∀ r ∈ l, hit c n r = false) → last c n acc l = acc
  | [], _, _ => rfl
  | r :: l, acc, h => by
    rw [last, if_neg (by rw [h r (List.mem_cons_self ..)]; simp)]
    exact last_none c n l acc fun b hb => h b (List.mem_cons_of_mem _ hb)
theorem last_skip (c : ByteArray) (n : Int) (acc : Int × Bool) {r : Rt} (h : hit c n r = false) (a b : List Rt) : last c n acc (a ++ r :: b) = last c n acc (a ++ b) := by
  rw [last_app, last_app, last, if_neg (by rw [h]; simp)]
theorem find_right {l : List Rt} {c : ByteArray} {y m d : Int} (h : tableB l = true) (k : Dt.rightB y m d = true) : find l c y m d = last c (Dt.days y m d) (0, false) l := by
  unfold find
  rw [h, k]
  rfl
theorem find_not {l : List Rt} {c : ByteArray} {y m d : Int} (h : tableB l = false ∨ Dt.rightB y m d = false) : find l c y m d = (0, false) := by
  unfold find
  rw [if_neg]
  intro k
  rw [Bool.and_eq_true] at k
  rcases h with h | h
  · rw [h] at k; cases k.1
  · rw [h] at k; cases k.2
theorem find_other {l : List Rt} {r : Rt} (h : putE l r = 0) {c : ByteArray} (hc : r.cat ≠ c) (y m d : Int) : find (putL l r) c y m d = find l c y m d := by
  have h1 := put_table h
  have h2 := (putE_0 h).1
  cases k : Dt.rightB y m d
  · rw [find_not (.inr k), find_not (.inr k)]
  · rw [find_right h1 k, find_right h2 k]
    unfold putL
    rw [last_skip _ _ _ (by unfold hit; rw [decide_eq_false hc]; rfl), List.take_append_drop]
theorem last_sorted (c : ByteArray) (n : Int) : ∀ (l : List Rt) (acc : Int × Bool) (r : Rt), Sorted l → r ∈ l → hit c n r = true → (∀ b ∈ l, hit c n b = true → dy b ≤ dy r) → last c n acc l = (r.bp, true)
  | a :: l, acc, r, hs, hm, hh, hb => by
    unfold Sorted at hs
    rw [List.pairwise_cons] at hs
    rw [last]
    rcases List.mem_cons.1 hm with rfl | hm
    · rw [if_pos hh]
      refine last_none c n l _ fun b hbm => ?_
      rw [Bool.eq_false_iff]
      intro hbh
      have h1 := hs.1 b hbm
      have h2 := hb b (List.mem_cons_of_mem _ hbm) hbh
      unfold hit at hh hbh
      rw [Bool.and_eq_true, decide_eq_true_iff] at hh hbh
      rw [lt_same (hh.1.trans hbh.1.symm), decide_eq_true_iff] at h1
      omega
    · exact last_sorted c n l _ r hs.2 hm hh fun b hbm => hb b (List.mem_cons_of_mem _ hbm)
theorem find_own {l : List Rt} {r : Rt} (h : putE l r = 0) : find (putL l r) r.cat r.y r.m r.d = (r.bp, true) := by
  have h1 := put_table h
  obtain ⟨_, h2, _, _⟩ := putE_0 h
  rw [rowE_0] at h2
  rw [find_right h1 h2.2.1]
  refine last_sorted _ _ _ _ r ((table_iff _).1 h1).2.2 ((putL_perm r l).mem_iff.2 (List.mem_cons_self ..)) ?_ ?_
  · unfold hit dy
    simp
  · intro b _ hb
    unfold hit at hb
    rw [Bool.and_eq_true, decide_eq_true_iff, decide_eq_true_iff] at hb
    exact hb.2

/-! ### rows put one by one -/
def tab : List Rt → List Rt → List Rt
  | t, [] => t
  | t, r :: l => tab (if putE t r = 0 then putL t r else t) l
theorem tab_table : ∀ (l t : List Rt), tableB t = true → tableB (tab t l) = true
  | [], _, h => h
  | r :: l, t, h => by
    rw [tab]
    by_cases k : putE t r = 0
    · rw [if_pos k]
      exact tab_table l _ (put_table k)
    · rw [if_neg k]
      exact tab_table l _ h
theorem tab_len : ∀ (l t : List Rt), (tab t l).length ≤ t.length + l.length
  | [], _ => Nat.le_refl _
  | r :: l, t => by
    rw [tab]
    by_cases k : putE t r = 0
    · rw [if_pos k]
      have := tab_len l (putL t r)
      rw [putL_len] at this
      simp only [List.length_cons]
      omega
    · rw [if_neg k]
      have := tab_len l t
      simp only [List.length_cons]
      omega
theorem tab_perm : ∀ (l t : List Rt), (tab t l).length = t.length + l.length → (tab t l).Perm (l ++ t)
  | [], _, _ => List.Perm.refl _
  | r :: l, t, h => by
    rw [tab] at h ⊢
    by_cases k : putE t r = 0
    · rw [if_pos k] at h ⊢
      have h1 := tab_perm l (putL t r) (by rw [putL_len, h, List.length_cons]; omega)
      refine h1.trans (((putL_perm r t).append_left l).trans ?_)
      exact List.perm_middle
    · rw [if_neg k] at h
      have := tab_len l t
      rw [List.length_cons] at h
      omega
theorem tab_app : ∀ (l k t : List Rt), tab t (l ++ k) = tab (tab t l) k
  | [], _, _ => rfl
  | r :: l, k, t => by
    rw [List.cons_append, tab, tab]
    exact tab_app l k _
theorem tab_snoc (t l : List Rt) (r : Rt) : tab t (l ++ [r]) = if putE (tab t l) r = 0 then putL (tab t l) r else tab t l := by
  rw [tab_app]
  rfl
theorem tab_mem : ∀ (l t : List Rt) (r : Rt), r ∈ tab t l → r ∈ t ∨ r ∈ l
  | [], _, _, h => .inl h
  | a :: l, t, r, h => by
    rw [tab] at h
    by_cases k : putE t a = 0
    · rw [if_pos k] at h
      rcases tab_mem l _ r h with h | h
      · rcases List.mem_cons.1 ((putL_perm a t).mem_iff.1 h) with rfl | h
        · exact .inr (List.mem_cons_self ..)
        · exact .inl h
      · exact .inr (List.mem_cons_of_mem _ h)
    · rw [if_neg k] at h
      rcases tab_mem l _ r h with h | h
      · exact .inl h
      · exact .inr (List.mem_cons_of_mem _ h)
theorem putR_mem {l : List Rt} {a r : Rt} (h : r ∈ putR l a) : r = a ∨ r ∈ l := by
  unfold putR at h
  by_cases k : putE l a = 0
  · rw [if_pos k] at h
    exact List.mem_cons.1 ((putL_perm a l).mem_iff.1 h)
  · rw [if_neg k] at h
    cases h
theorem sorted_eq : ∀ (a b : List Rt), Sorted a → Sorted b → a.Perm b → a = b
  | [], b, _, _, h => (List.nil_perm.1 h).symm
  | x :: a, [], _, _, h => by
    have := h.length_eq
    simp at this
  | x :: a, y :: b, hs, ht, h => by
    unfold Sorted at hs ht
    rw [List.pairwise_cons] at hs ht
    have e : x = y := by
      rcases List.mem_cons.1 (h.mem_iff.1 (List.mem_cons_self ..)) with e | hx
      · exact e
      · rcases List.mem_cons.1 (h.mem_iff.2 (List.mem_cons_self ..)) with e | hy
        · exact e.symm
        · have h1 := lt_asymm (hs.1 y hy)
          rw [ht.1 x hx] at h1
          cases h1
    subst e
    rw [sorted_eq a b hs.2 ht.2 (List.perm_cons x |>.1 h)]
end Go.Proofs.Ytegniklofhopeaa.Vt
