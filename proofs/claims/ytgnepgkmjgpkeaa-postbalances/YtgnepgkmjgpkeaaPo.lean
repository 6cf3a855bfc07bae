/- PLAIN LEAN: books of accounts: rows entered, sums; no Go walked here. -/
import Derived.Test.YtgnepgkmjgpkeaaBaS
import Derived.Test.YtgnepgkmjgpkeaaMnyN
import Derived.Test.YtgnepgkmjgpkeaaVt
set_option linter.unusedVariables false
namespace Go.Proofs.Ytgnepgkmjgpkeaa.Po

/-! ### accounts byte by byte -/
def lt (a b : ByteArray) : Bool := Op.bytesLess a.toList b.toList
theorem lt_trans {a b c : ByteArray} (h : lt a b = true) (k : lt b c = true) : lt a c = true := Vt.less_trans _ _ _ h k
theorem lt_irrefl (a : ByteArray) : lt a a = false := Vt.less_irrefl _
theorem lt_tri (a b : ByteArray) : lt a b = true ∨ a = b ∨ lt b a = true := by
  rcases Vt.less_tri a.toList b.toList with h | h | h
  · exact .inl h
  · exact .inr (.inl (Vt.cat_ext h))
  · exact .inr (.inr h)
theorem lt_ne {a b : ByteArray} (h : lt a b = true) : a ≠ b := by
  rintro rfl
  rw [lt_irrefl] at h
  cases h
theorem lt_asymm {a b : ByteArray} (h : lt a b = true) : lt b a = false := by
  rw [Bool.eq_false_iff]
  intro k
  have := lt_trans h k
  rw [lt_irrefl] at this
  cases this

/-! ### books that are right -/
def Sorted (l : List Ba.T) : Prop := l.Pairwise fun a b => lt a.acct b.acct = true
def rightB : List Ba.T → Bool
  | a :: b :: l => lt a.acct b.acct && rightB (b :: l)
  | _ => true
theorem right_iff : ∀ l : List Ba.T, rightB l = true ↔ Sorted l
  | [] => ⟨fun _ => List.Pairwise.nil, fun _ => rfl⟩
  | [a] => ⟨fun _ => List.pairwise_singleton _ _, fun _ => rfl⟩
  | a :: b :: l => by
    have ih := right_iff (b :: l)
    rw [rightB, Bool.and_eq_true, ih]
    constructor
    · rintro ⟨h1, h2⟩
      refine List.pairwise_cons.2 ⟨fun x hx => ?_, h2⟩
      rcases List.mem_cons.1 hx with rfl | hx
      · exact h1
      · exact lt_trans h1 ((List.pairwise_cons.1 h2).1 x hx)
    · intro h
      have h1 := List.pairwise_cons.1 h
      exact ⟨h1.1 b (by simp), h1.2⟩
theorem right_yes {l : List Ba.T} (h : ∀ i, (hi : i + 1 < l.length) → lt l[i].acct l[i + 1].acct = true) : rightB l = true := by
  induction l with
  | nil => rfl
  | cons a l ih =>
    cases l with
    | nil => rfl
    | cons b l =>
      rw [rightB, Bool.and_eq_true]
      exact ⟨h 0 (by simp), ih fun i hi => h (i + 1) (by simpa using hi)⟩
theorem right_no {l : List Ba.T} {i : Nat} (hi : i + 1 < l.length) (h : lt l[i].acct l[i + 1].acct = false) : rightB l = false := by
  rw [Bool.eq_false_iff]
  intro k
  have := List.pairwise_iff_getElem.1 ((right_iff l).1 k) i (i + 1) (by omega) hi (by omega)
  rw [h] at this
  cases this

/-! ### where an account stands -/
def spot (c : ByteArray) : List Ba.T → Nat
  | [] => 0
  | a :: l => if lt a.acct c = true then spot c l + 1 else 0
theorem spot_le (c : ByteArray) : ∀ l, spot c l ≤ l.length
  | [] => Nat.le_refl _
  | a :: l => by
    have := spot_le c l
    unfold spot
    split
    · simp; omega
    · simp
theorem spot_at (c : ByteArray) (l : List Ba.T) (k : Nat) (h : k < l.length) : spot c (l.drop k) = if lt l[k].acct c = true then spot c (l.drop (k + 1)) + 1 else 0 := by
  rw [List.drop_eq_getElem_cons h]
  rfl
def has (c : ByteArray) : List Ba.T → Bool
  | [] => false
  | a :: l => if lt a.acct c = true then has c l else decide (a.acct = c)
theorem has_spot (c : ByteArray) : ∀ l : List Ba.T, has c l = match l[spot c l]? with | none => false | some a => decide (a.acct = c)
  | [] => rfl
  | a :: l => by
    unfold has spot
    by_cases h : lt a.acct c = true
    · rw [if_pos h, if_pos h, has_spot c l, List.getElem?_cons_succ]
    · rw [if_neg h, if_neg h]
      rfl
/-- the row of that account, if there is none a new one -/
def part (c : ByteArray) : List Ba.T → Ba.T
  | [] => ⟨c, 0⟩
  | a :: l => if lt a.acct c = true then part c l else if a.acct = c then a else ⟨c, 0⟩
def ins (c : ByteArray) : List Ba.T → List Ba.T
  | [] => [⟨c, 0⟩]
  | a :: l => if lt a.acct c = true then a :: ins c l else if a.acct = c then a :: l else ⟨c, 0⟩ :: a :: l
theorem ins_has {c : ByteArray} : ∀ {l : List Ba.T}, has c l = true → ins c l = l
  | [], h => by cases h
  | a :: l, h => by
    unfold has at h
    unfold ins
    by_cases k : lt a.acct c = true
    · rw [if_pos k] at h ⊢
      rw [ins_has h]
    · rw [if_neg k] at h ⊢
      rw [if_pos (of_decide_eq_true h)]
theorem ins_new {c : ByteArray} : ∀ {l : List Ba.T}, has c l = false → ins c l = l.take (spot c l) ++ ⟨c, 0⟩ :: l.drop (spot c l)
  | [], _ => rfl
  | a :: l, h => by
    unfold has at h
    unfold ins spot
    by_cases k : lt a.acct c = true
    · rw [if_pos k] at h ⊢
      rw [if_pos k, ins_new h]
      rfl
    · rw [if_neg k] at h ⊢
      rw [if_neg k, if_neg (of_decide_eq_false h)]
      rfl
theorem ins_at {c : ByteArray} : ∀ (l : List Ba.T), (ins c l)[spot c l]? = some (part c l)
  | [] => rfl
  | a :: l => by
    unfold ins spot part
    by_cases k : lt a.acct c = true
    · rw [if_pos k, if_pos k, if_pos k, List.getElem?_cons_succ, ins_at l]
    · rw [if_neg k, if_neg k, if_neg k]
      by_cases e : a.acct = c
      · rw [if_pos e, if_pos e]
        rfl
      · rw [if_neg e, if_neg e]
        rfl
theorem ins_len {c : ByteArray} : ∀ (l : List Ba.T), (ins c l).length ≤ l.length + 1
  | [] => Nat.le_refl _
  | a :: l => by
    have := ins_len (c := c) l
    unfold ins
    split
    · simp; omega
    · split <;> simp
theorem ins_lt {c : ByteArray} (l : List Ba.T) : spot c l < (ins c l).length := by
  have := ins_at (c := c) l
  obtain ⟨h, _⟩ := List.getElem?_eq_some_iff.1 this
  exact h
theorem part_acct {c : ByteArray} : ∀ (l : List Ba.T), (part c l).acct = c
  | [] => rfl
  | a :: l => by
    unfold part
    split
    · exact part_acct l
    · split
      · assumption
      · rfl
/-- a row with so much more -/
def more (p : Ba.T) (n : Int) : Ba.T := ⟨p.acct, p.amt + n⟩
def enter (c : ByteArray) (n : Int) (l : List Ba.T) : List Ba.T := (ins c l).set (spot c l) (more (part c l) n)
def enterE (c : ByteArray) (n : Int) (l : List Ba.T) : Int := Mn.err ((part c l).amt + n)
theorem enter_len {c : ByteArray} {n : Int} (l : List Ba.T) : (enter c n l).length ≤ l.length + 1 := by
  unfold enter
  rw [List.length_set]
  exact ins_len l
theorem enter_nil (c : ByteArray) (n : Int) : enter c n [] = [⟨c, 0 + n⟩] := rfl
theorem enter_cons (c : ByteArray) (n : Int) (a : Ba.T) (l : List Ba.T) : enter c n (a :: l) = if lt a.acct c = true then a :: enter c n l else if a.acct = c then more a n :: l else ⟨c, 0 + n⟩ :: a :: l := by
  unfold enter
  rw [ins, spot, part]
  by_cases h : lt a.acct c = true
  · rw [if_pos h, if_pos h, if_pos h, if_pos h]
    rfl
  · rw [if_neg h, if_neg h, if_neg h, if_neg h]
    by_cases k : a.acct = c
    · rw [if_pos k, if_pos k, if_pos k]
      rfl
    · rw [if_neg k, if_neg k, if_neg k]
      rfl
section
variable {c : ByteArray} {n : Int} {a : Ba.T} {l : List Ba.T}
theorem enter_lt (h : lt a.acct c = true) : enter c n (a :: l) = a :: enter c n l := by rw [enter_cons, if_pos h]
theorem enter_eq (h : a.acct = c) : enter c n (a :: l) = more a n :: l := by
  rw [enter_cons, if_neg (by rw [h, lt_irrefl]; simp), if_pos h]
theorem enter_gt (h : lt c a.acct = true) : enter c n (a :: l) = ⟨c, 0 + n⟩ :: a :: l := by
  rw [enter_cons, if_neg (by rw [lt_asymm h]; simp), if_neg (fun k => lt_ne h k.symm)]
end
/-! ### rows entered one behind the other -/
def goE : List Ba.T → List Ba.T → Int
  | [], _ => 0
  | x :: l, b => if enterE x.acct x.amt b ≠ 0 then 7 else goE l (enter x.acct x.amt b)
def goL : List Ba.T → List Ba.T → List Ba.T
  | [], b => b
  | x :: l, b => goL l (enter x.acct x.amt b)
theorem goE_at (ls b : List Ba.T) (k : Nat) (h : k < ls.length) : goE (ls.drop k) b = if enterE ls[k].acct ls[k].amt b ≠ 0 then 7 else goE (ls.drop (k + 1)) (enter ls[k].acct ls[k].amt b) := by
  rw [List.drop_eq_getElem_cons h, goE]
theorem goL_at (ls b : List Ba.T) (k : Nat) (h : k < ls.length) : goL (ls.drop k) b = goL (ls.drop (k + 1)) (enter ls[k].acct ls[k].amt b) := by
  rw [List.drop_eq_getElem_cons h, goL]
theorem goL_app : ∀ (l m b : List Ba.T), goL (l ++ m) b = goL m (goL l b)
  | [], _, _ => rfl
  | x :: l, m, b => by rw [List.cons_append, goL, goL, goL_app l m]
def entE (b l : List Ba.T) : Int := if rightB b = false then 1 else goE l b
def entL (b l : List Ba.T) : List Ba.T := if entE b l = 0 then goL l b else []
theorem ent_arg {b l : List Ba.T} (h : rightB b = false) : entE b l = 1 ∧ entL b l = [] := by
  have e : entE b l = 1 := if_pos h
  exact ⟨e, by unfold entL; rw [e]; rfl⟩
theorem ent_go {b l : List Ba.T} (h : rightB b = true) : entE b l = goE l b := by
  unfold entE
  rw [if_neg (by rw [h]; simp)]
/-! ### accounts rise -/
theorem enter_accts {c : ByteArray} {n : Int} : ∀ {l : List Ba.T} {x : Ba.T}, x ∈ enter c n l → x.acct = c ∨ ∃ a ∈ l, x.acct = a.acct
  | [], x, h => by
    rw [enter_nil] at h
    obtain rfl := List.mem_singleton.1 h
    exact .inl rfl
  | a :: l, x, h => by
    rcases lt_tri a.acct c with k | k | k
    · rw [enter_lt k] at h
      rcases List.mem_cons.1 h with rfl | h
      · exact .inr ⟨x, by simp, rfl⟩
      · rcases enter_accts h with h | ⟨b, hb, e⟩
        · exact .inl h
        · exact .inr ⟨b, by simp [hb], e⟩
    · rw [enter_eq k] at h
      rcases List.mem_cons.1 h with rfl | h
      · exact .inl k
      · exact .inr ⟨x, by simp [h], rfl⟩
    · rw [enter_gt k] at h
      rcases List.mem_cons.1 h with rfl | h
      · exact .inl rfl
      · exact .inr ⟨x, h, rfl⟩
theorem enter_sorted {c : ByteArray} {n : Int} : ∀ {l : List Ba.T}, Sorted l → Sorted (enter c n l)
  | [], _ => by
    rw [enter_nil]
    exact List.pairwise_singleton _ _
  | a :: l, h => by
    have h1 := (List.pairwise_cons.1 h).1
    have h2 := (List.pairwise_cons.1 h).2
    rcases lt_tri a.acct c with k | k | k
    · rw [enter_lt k]
      refine List.pairwise_cons.2 ⟨fun x hx => ?_, enter_sorted h2⟩
      rcases enter_accts hx with e | ⟨b, hb, e⟩
      · rw [e]; exact k
      · rw [e]; exact h1 b hb
    · rw [enter_eq k]
      exact List.pairwise_cons.2 ⟨h1, h2⟩
    · rw [enter_gt k]
      refine List.pairwise_cons.2 ⟨fun x hx => ?_, h⟩
      rcases List.mem_cons.1 hx with rfl | hx
      · exact k
      · exact lt_trans k (h1 x hx)
theorem goL_sorted : ∀ (ls : List Ba.T) {b : List Ba.T}, Sorted b → Sorted (goL ls b)
  | [], _, h => h
  | _ :: l, _, h => goL_sorted l (enter_sorted h)
/-! ### sums, exactly -/
def sumA : List Ba.T → Int
  | [] => 0
  | a :: l => a.amt + sumA l
def balB (l : List Ba.T) : Bool := decide (sumA l = 0)
theorem sum_app : ∀ l m : List Ba.T, sumA (l ++ m) = sumA l + sumA m
  | [], m => by rw [List.nil_append]; show _ = 0 + _; omega
  | a :: l, m => by
    rw [List.cons_append, sumA, sumA, sum_app l m]
    omega
theorem enter_sum (c : ByteArray) (n : Int) : ∀ l : List Ba.T, sumA (enter c n l) = sumA l + n
  | [] => by
    rw [enter_nil, sumA, sumA]
    show 0 + n + 0 = 0 + n
    omega
  | a :: l => by
    rcases lt_tri a.acct c with k | k | k
    · rw [enter_lt k, sumA, sumA, enter_sum c n l]
      omega
    · rw [enter_eq k, sumA, sumA]
      show a.amt + n + _ = _
      omega
    · rw [enter_gt k, sumA]
      show 0 + n + _ = _
      omega
theorem goL_sum : ∀ (ls b : List Ba.T), sumA (goL ls b) = sumA b + sumA ls
  | [], b => by show _ = _ + 0; rw [goL]; omega
  | x :: l, b => by
    rw [goL, goL_sum l, enter_sum, sumA]
    omega
/-! ### what an account has -/
def val (c : ByteArray) (l : List Ba.T) : Int := (part c l).amt
/-- the sum of an account's rows -/
def rows (c : ByteArray) : List Ba.T → Int
  | [] => 0
  | x :: l => (if x.acct = c then x.amt else 0) + rows c l
def named (c : ByteArray) (l : List Ba.T) : Bool := l.any fun x => decide (x.acct = c)
theorem part_cons (c : ByteArray) (a : Ba.T) (l : List Ba.T) : part c (a :: l) = if lt a.acct c = true then part c l else if a.acct = c then a else ⟨c, 0⟩ := rfl
theorem has_cons (c : ByteArray) (a : Ba.T) (l : List Ba.T) : has c (a :: l) = if lt a.acct c = true then has c l else decide (a.acct = c) := rfl
theorem val_enter (c e : ByteArray) (n : Int) : ∀ l : List Ba.T, val c (enter e n l) = val c l + (if e = c then n else 0) ∧ has c (enter e n l) = (has c l || decide (e = c))
  | [] => by
    rw [enter_nil]
    unfold val
    rw [part_cons, has_cons]
    rcases lt_tri e c with k | k | k
    · rw [if_pos k, if_pos k, if_neg (lt_ne k), decide_eq_false (lt_ne k)]
      exact ⟨by show (0 : Int) = 0 + 0; omega, rfl⟩
    · subst k
      rw [if_neg (by rw [lt_irrefl]; simp), if_pos rfl, if_pos rfl, if_neg (by rw [lt_irrefl]; simp)]
      exact ⟨rfl, by simp [has]⟩
    · have hne : e ≠ c := fun h => lt_ne k h.symm
      rw [if_neg (by rw [lt_asymm k]; simp), if_neg hne, if_neg hne, if_neg (by rw [lt_asymm k]; simp), decide_eq_false hne]
      exact ⟨by show (0 : Int) = 0 + 0; omega, rfl⟩
  | a :: l => by
    have ih := val_enter c e n l
    unfold val at ih ⊢
    rcases lt_tri a.acct e with k | k | k
    · rw [enter_lt k, part_cons, part_cons, has_cons, has_cons]
      by_cases h : lt a.acct c = true
      · rw [if_pos h, if_pos h, if_pos h, if_pos h]
        exact ih
      · rw [if_neg h, if_neg h, if_neg h, if_neg h]
        have hne : e ≠ c := by
          rintro rfl
          exact h k
        rw [if_neg hne, decide_eq_false hne, Bool.or_false]
        exact ⟨by omega, rfl⟩
    · rw [enter_eq k, part_cons, part_cons, has_cons, has_cons]
      subst k
      show (if lt a.acct c = true then part c l else if a.acct = c then more a n else ⟨c, 0⟩).amt = _ ∧ (if lt a.acct c = true then has c l else decide (a.acct = c)) = _
      by_cases h : lt a.acct c = true
      · rw [if_pos h, if_pos h, if_pos h, if_neg (lt_ne h), decide_eq_false (lt_ne h), Bool.or_false]
        exact ⟨by omega, rfl⟩
      · rw [if_neg h, if_neg h, if_neg h]
        by_cases e' : a.acct = c
        · rw [if_pos e', if_pos e', if_pos e']
          exact ⟨rfl, by simp [e']⟩
        · rw [if_neg e', if_neg e', if_neg e']
          exact ⟨by omega, by simp [e']⟩
    · rw [enter_gt k, part_cons, has_cons]
      show (if lt e c = true then part c (a :: l) else if e = c then ⟨e, 0 + n⟩ else ⟨c, 0⟩).amt = _ ∧ (if lt e c = true then has c (a :: l) else decide (e = c)) = _
      rcases lt_tri e c with h | h | h
      · rw [if_pos h, if_pos h, if_neg (lt_ne h), decide_eq_false (lt_ne h), Bool.or_false]
        exact ⟨by omega, rfl⟩
      · subst h
        rw [if_neg (by rw [lt_irrefl]; simp), if_pos rfl, if_pos rfl, if_neg (by rw [lt_irrefl]; simp), part_cons, if_neg (by rw [lt_asymm k]; simp), if_neg (fun q => lt_ne k q.symm)]
        exact ⟨rfl, by simp⟩
      · have hne : e ≠ c := fun q => lt_ne h q.symm
        have hca : lt c a.acct = true := lt_trans h k
        rw [if_neg (by rw [lt_asymm h]; simp), if_neg hne, if_neg hne, if_neg (by rw [lt_asymm h]; simp), part_cons, has_cons, if_neg (by rw [lt_asymm hca]; simp), if_neg (fun q => lt_ne hca q.symm), if_neg (by rw [lt_asymm hca]; simp), decide_eq_false hne, decide_eq_false (fun q => lt_ne hca q.symm)]
        exact ⟨by show (0 : Int) = 0 + 0; omega, rfl⟩
theorem val_goL (c : ByteArray) : ∀ (ls b : List Ba.T), val c (goL ls b) = val c b + rows c ls ∧ has c (goL ls b) = (has c b || named c ls)
  | [], b => by
    refine ⟨by show _ = _ + 0; rw [goL]; omega, ?_⟩
    rw [goL]
    show _ = (_ || false)
    rw [Bool.or_false]
  | x :: l, b => by
    have h1 := val_goL c l (enter x.acct x.amt b)
    have h2 := val_enter c x.acct x.amt b
    rw [goL, h1.1, h1.2, h2.1, h2.2]
    refine ⟨by rw [rows]; omega, ?_⟩
    show _ = (_ || (decide (x.acct = c) || named c l))
    rw [Bool.or_assoc]
/-- in a book that is right the row of an account is its one row -/
theorem look {c : ByteArray} : ∀ {l : List Ba.T}, Sorted l → ∀ {x : Ba.T}, x ∈ l → x.acct = c → part c l = x ∧ has c l = true
  | a :: l, h, x, hx, e => by
    have h1 := (List.pairwise_cons.1 h).1
    have h2 := (List.pairwise_cons.1 h).2
    rw [part_cons, has_cons]
    rcases List.mem_cons.1 hx with rfl | hx
    · rw [if_neg (by rw [e, lt_irrefl]; simp), if_pos e, if_neg (by rw [e, lt_irrefl]; simp)]
      exact ⟨rfl, decide_eq_true e⟩
    · have := h1 x hx
      rw [e] at this
      rw [if_pos this, if_pos this]
      exact look h2 hx e
theorem has_mem {c : ByteArray} : ∀ {l : List Ba.T}, has c l = true → ∃ x ∈ l, x.acct = c
  | a :: l, h => by
    rw [has_cons] at h
    by_cases k : lt a.acct c = true
    · rw [if_pos k] at h
      obtain ⟨x, hx, e⟩ := has_mem h
      exact ⟨x, by simp [hx], e⟩
    · rw [if_neg k] at h
      exact ⟨a, by simp, of_decide_eq_true h⟩
theorem val_no {c : ByteArray} : ∀ {l : List Ba.T}, has c l = false → val c l = 0
  | [], _ => rfl
  | a :: l, h => by
    unfold val
    rw [has_cons] at h
    rw [part_cons]
    by_cases k : lt a.acct c = true
    · rw [if_pos k] at h ⊢
      exact val_no h
    · rw [if_neg k] at h ⊢
      rw [if_neg (of_decide_eq_false h)]
end Go.Proofs.Ytgnepgkmjgpkeaa.Po
