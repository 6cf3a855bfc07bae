import Derived.Maps.AppendAt
import Derived.Laws.AppendOwnNone
import Derived.Laws.Rows
import Derived.RegionTactic
import Derived.Test.YtjpfpojbalepeaaGreatZG1
set_option linter.unusedVariables false
namespace Go.Proofs.YtjpfpojbalepeaaGreat.Po
def lt (a b : ByteArray) : Bool := Op.bytesLess a.toList b.toList
theorem lt_trans {a b c : ByteArray} (h : lt a b = true) (k : lt b c = true) : lt a c = true := Vt.less_trans _ _ _ h k
theorem lt_irrefl (a : ByteArray) : lt a a = false := Vt.less_irrefl _
theorem lt_tri (a b : ByteArray) : lt a b = true ∨ a = b ∨ lt b a = true := by
 rcases Vt.less_tri a.toList b.toList with h | h | h
 · exact .inl h
 · exact .inr (.inl (Vt.cat_ext h))
 · exact .inr (.inr h)
theorem lt_ne {a b : ByteArray} (h : lt a b = true) : a ≠ b := by
 rintro rfl
 rw [lt_irrefl] at h
 cases h
theorem lt_asymm {a b : ByteArray} (h : lt a b = true) : lt b a = false := by
 rw [Bool.eq_false_iff]
 intro k
 have := lt_trans h k
 rw [lt_irrefl] at this
 cases this
def Sorted (l : List Ba.T) : Prop := l.Pairwise fun a b => lt a.acct b.acct = true
def rightB : List Ba.T → Bool
 | a :: b :: l => lt a.acct b.acct && rightB (b :: l)
 | _ => true
theorem right_iff : ∀ l : List Ba.T,rightB l = true ↔ Sorted l
 | [] => ⟨fun _ => List.Pairwise.nil,fun _ => rfl⟩
 | [a] => ⟨fun _ => List.pairwise_singleton _ _,fun _ => rfl⟩
 | a :: b :: l => by
  have ih := right_iff (b :: l)
  rw [rightB,Bool.and_eq_true,ih]
  constructor
  ·
   rintro ⟨h1,h2⟩
   refine List.pairwise_cons.2 ⟨fun x hx => ?_,h2⟩
   rcases List.mem_cons.1 hx with rfl | hx
   · exact h1
   · exact lt_trans h1 ((List.pairwise_cons.1 h2).1 x hx)
  ·
   intro h
   have h1 := List.pairwise_cons.1 h
   exact ⟨h1.1 b (by simp),h1.2⟩
theorem right_yes {l : List Ba.T} (h : ∀ i,(hi : i + 1 < l.length) → lt l[i].acct l[i + 1].acct = true) : rightB l = true := by
 induction l with
 | nil => rfl
 | cons a l ih =>
  cases l with
  | nil => rfl
  | cons b l =>
   rw [rightB,Bool.and_eq_true]
   exact ⟨h 0 (by simp),ih fun i hi => h (i + 1) (by simpa using hi)⟩
theorem right_no {l : List Ba.T} {i : Nat} (hi : i + 1 < l.length) (h : lt l[i].acct l[i + 1].acct = false) : rightB l = false := by
 rw [Bool.eq_false_iff]
 intro k
 have := List.pairwise_iff_getElem.1 ((right_iff l).1 k) i (i + 1) (by omega) hi (by omega)
 rw [h] at this
 cases this
def spot (c : ByteArray) : List Ba.T → Nat
 | [] => 0
 | a :: l => if lt a.acct c = true then spot c l + 1 else 0
theorem spot_le (c : ByteArray) : ∀ l,spot c l ≤ l.length
 | [] => Nat.le_refl _
 | a :: l => by
  have := spot_le c l
  unfold spot
  split
  · simp; omega
  · simp
def has (c : ByteArray) : List Ba.T → Bool
 | [] => false
 | a :: l => if lt a.acct c = true then has c l else decide (a.acct = c)
theorem has_spot (c : ByteArray) : ∀ l : List Ba.T,has c l = match l[spot c l]? with | none => false | some a => decide (a.acct = c)
 | [] => rfl
 | a :: l => by
  unfold has spot
  by_cases h : lt a.acct c = true
  · rw [if_pos h,if_pos h,has_spot c l,List.getElem?_cons_succ]
  ·
   rw [if_neg h,if_neg h]
   rfl
def part (c : ByteArray) : List Ba.T → Ba.T
 | [] => ⟨c,0⟩
 | a :: l => if lt a.acct c = true then part c l else if a.acct = c then a else ⟨c,0⟩
def ins (c : ByteArray) : List Ba.T → List Ba.T
 | [] => [⟨c,0⟩]
 | a :: l => if lt a.acct c = true then a :: ins c l else if a.acct = c then a :: l else ⟨c,0⟩ :: a :: l
theorem ins_has {c : ByteArray} : ∀ {l : List Ba.T},has c l = true → ins c l = l
 | [],h => by cases h
 | a :: l,h => by
  unfold has at h
  unfold ins
  by_cases k : lt a.acct c = true
  ·
   rw [if_pos k] at h ⊢
   rw [ins_has h]
  ·
   rw [if_neg k] at h ⊢
   rw [if_pos (of_decide_eq_true h)]
theorem ins_new {c : ByteArray} : ∀ {l : List Ba.T},has c l = false → ins c l = l.take (spot c l) ++ ⟨c,0⟩ :: l.drop (spot c l)
 | [],_ => rfl
 | a :: l,h => by
  unfold has at h
  unfold ins spot
  by_cases k : lt a.acct c = true
  ·
   rw [if_pos k] at h ⊢
   rw [if_pos k,ins_new h]
   rfl
  ·
   rw [if_neg k] at h ⊢
   rw [if_neg k,if_neg (of_decide_eq_false h)]
   rfl
theorem ins_at {c : ByteArray} : ∀ (l : List Ba.T),(ins c l)[spot c l]? = some (part c l)
 | [] => rfl
 | a :: l => by
  unfold ins spot part
  by_cases k : lt a.acct c = true
  · rw [if_pos k,if_pos k,if_pos k,List.getElem?_cons_succ,ins_at l]
  ·
   rw [if_neg k,if_neg k,if_neg k]
   by_cases e : a.acct = c
   ·
    rw [if_pos e,if_pos e]
    rfl
   ·
    rw [if_neg e,if_neg e]
    rfl
theorem ins_len {c : ByteArray} : ∀ (l : List Ba.T),(ins c l).length ≤ l.length + 1
 | [] => Nat.le_refl _
 | a :: l => by
  have := ins_len (c := c) l
  unfold ins
  split
  · simp; omega
  · split <;> simp
theorem ins_lt {c : ByteArray} (l : List Ba.T) : spot c l < (ins c l).length := by
 have := ins_at (c := c) l
 obtain ⟨h,_⟩ := List.getElem?_eq_some_iff.1 this
 exact h
def more (p : Ba.T) (n : Int) : Ba.T := ⟨p.acct,p.amt + n⟩
def enter (c : ByteArray) (n : Int) (l : List Ba.T) : List Ba.T := (ins c l).set (spot c l) (more (part c l) n)
def enterE (c : ByteArray) (n : Int) (l : List Ba.T) : Int := Mn.err ((part c l).amt + n)
theorem enter_len {c : ByteArray} {n : Int} (l : List Ba.T) : (enter c n l).length ≤ l.length + 1 := by
 unfold enter
 rw [List.length_set]
 exact ins_len l
theorem enter_nil (c : ByteArray) (n : Int) : enter c n [] = [⟨c,0 + n⟩] := rfl
theorem enter_cons (c : ByteArray) (n : Int) (a : Ba.T) (l : List Ba.T) : enter c n (a :: l) = if lt a.acct c = true then a :: enter c n l else if a.acct = c then more a n :: l else ⟨c,0 + n⟩ :: a :: l := by
 unfold enter
 rw [ins,spot,part]
 by_cases h : lt a.acct c = true
 ·
  rw [if_pos h,if_pos h,if_pos h,if_pos h]
  rfl
 ·
  rw [if_neg h,if_neg h,if_neg h,if_neg h]
  by_cases k : a.acct = c
  ·
   rw [if_pos k,if_pos k,if_pos k]
   rfl
  ·
   rw [if_neg k,if_neg k,if_neg k]
   rfl
section
variable {c : ByteArray} {n : Int} {a : Ba.T} {l : List Ba.T}
theorem enter_lt (h : lt a.acct c = true) : enter c n (a :: l) = a :: enter c n l := by rw [enter_cons,if_pos h]
theorem enter_eq (h : a.acct = c) : enter c n (a :: l) = more a n :: l := by
 rw [enter_cons,if_neg (by rw [h,lt_irrefl]; simp),if_pos h]
theorem enter_gt (h : lt c a.acct = true) : enter c n (a :: l) = ⟨c,0 + n⟩ :: a :: l := by
 rw [enter_cons,if_neg (by rw [lt_asymm h]; simp),if_neg (fun k => lt_ne h k.symm)]
end
def goE : List Ba.T → List Ba.T → Int
 | [],_ => 0
 | x :: l,b => if enterE x.acct x.amt b ≠ 0 then 7 else goE l (enter x.acct x.amt b)
def goL : List Ba.T → List Ba.T → List Ba.T
 | [],b => b
 | x :: l,b => goL l (enter x.acct x.amt b)
theorem goE_at (ls b : List Ba.T) (k : Nat) (h : k < ls.length) : goE (ls.drop k) b = if enterE ls[k].acct ls[k].amt b ≠ 0 then 7 else goE (ls.drop (k + 1)) (enter ls[k].acct ls[k].amt b) := by
 rw [List.drop_eq_getElem_cons h,goE]
theorem goL_at (ls b : List Ba.T) (k : Nat) (h : k < ls.length) : goL (ls.drop k) b = goL (ls.drop (k + 1)) (enter ls[k].acct ls[k].amt b) := by
 rw [List.drop_eq_getElem_cons h,goL]
theorem goL_app : ∀ (l m b : List Ba.T),goL (l ++ m) b = goL m (goL l b)
 | [],_,_ => rfl
 | x :: l,m,b => by rw [List.cons_append,goL,goL,goL_app l m]
def entE (b l : List Ba.T) : Int := if rightB b = false then 1 else goE l b
def entL (b l : List Ba.T) : List Ba.T := if entE b l = 0 then goL l b else []
theorem ent_arg {b l : List Ba.T} (h : rightB b = false) : entE b l = 1 ∧ entL b l = [] := by
 have e : entE b l = 1 := if_pos h
 exact ⟨e,by unfold entL; rw [e]; rfl⟩
theorem ent_go {b l : List Ba.T} (h : rightB b = true) : entE b l = goE l b := by
 unfold entE
 rw [if_neg (by rw [h]; simp)]
theorem enter_accts {c : ByteArray} {n : Int} : ∀ {l : List Ba.T} {x : Ba.T},x ∈ enter c n l → x.acct = c ∨ ∃ a ∈ l,x.acct = a.acct
 | [],x,h => by
  rw [enter_nil] at h
  obtain rfl := List.mem_singleton.1 h
  exact .inl rfl
 | a :: l,x,h => by
  rcases lt_tri a.acct c with k | k | k
  ·
   rw [enter_lt k] at h
   rcases List.mem_cons.1 h with rfl | h
   · exact .inr ⟨x,by simp,rfl⟩
   ·
    rcases enter_accts h with h | ⟨b,hb,e⟩
    · exact .inl h
    · exact .inr ⟨b,by simp [hb],e⟩
  ·
   rw [enter_eq k] at h
   rcases List.mem_cons.1 h with rfl | h
   · exact .inl k
   · exact .inr ⟨x,by simp [h],rfl⟩
  ·
   rw [enter_gt k] at h
   rcases List.mem_cons.1 h with rfl | h
   · exact .inl rfl
   · exact .inr ⟨x,h,rfl⟩
theorem enter_sorted {c : ByteArray} {n : Int} : ∀ {l : List Ba.T},Sorted l → Sorted (enter c n l)
 | [],_ => by
  rw [enter_nil]
  exact List.pairwise_singleton _ _
 | a :: l,h => by
  have h1 := (List.pairwise_cons.1 h).1
  have h2 := (List.pairwise_cons.1 h).2
  rcases lt_tri a.acct c with k | k | k
  ·
   rw [enter_lt k]
   refine List.pairwise_cons.2 ⟨fun x hx => ?_,enter_sorted h2⟩
   rcases enter_accts hx with e | ⟨b,hb,e⟩
   · rw [e]; exact k
   · rw [e]; exact h1 b hb
  ·
   rw [enter_eq k]
   exact List.pairwise_cons.2 ⟨h1,h2⟩
  ·
   rw [enter_gt k]
   refine List.pairwise_cons.2 ⟨fun x hx => ?_,h⟩
   rcases List.mem_cons.1 hx with rfl | hx
   · exact k
   · exact lt_trans k (h1 x hx)
theorem goL_sorted : ∀ (ls : List Ba.T) {b : List Ba.T},Sorted b → Sorted (goL ls b)
 | [],_,h => h
 | _ :: l,_,h => goL_sorted l (enter_sorted h)
def sumA : List Ba.T → Int
 | [] => 0
 | a :: l => a.amt + sumA l
theorem sum_app : ∀ l m : List Ba.T,sumA (l ++ m) = sumA l + sumA m
 | [],m => by rw [List.nil_append]; show _ = 0 + _; omega
 | a :: l,m => by
  rw [List.cons_append,sumA,sumA,sum_app l m]
  omega
def val (c : ByteArray) (l : List Ba.T) : Int := (part c l).amt
def rows (c : ByteArray) : List Ba.T → Int
 | [] => 0
 | x :: l => (if x.acct = c then x.amt else 0) + rows c l
def named (c : ByteArray) (l : List Ba.T) : Bool := l.any fun x => decide (x.acct = c)
theorem part_cons (c : ByteArray) (a : Ba.T) (l : List Ba.T) : part c (a :: l) = if lt a.acct c = true then part c l else if a.acct = c then a else ⟨c,0⟩ := rfl
theorem has_cons (c : ByteArray) (a : Ba.T) (l : List Ba.T) : has c (a :: l) = if lt a.acct c = true then has c l else decide (a.acct = c) := rfl
theorem val_enter (c e : ByteArray) (n : Int) : ∀ l : List Ba.T,val c (enter e n l) = val c l + (if e = c then n else 0) ∧ has c (enter e n l) = (has c l || decide (e = c))
 | [] => by
  rw [enter_nil]
  unfold val
  rw [part_cons,has_cons]
  rcases lt_tri e c with k | k | k
  ·
   rw [if_pos k,if_pos k,if_neg (lt_ne k),decide_eq_false (lt_ne k)]
   exact ⟨by show (0 : Int) = 0 + 0; omega,rfl⟩
  ·
   subst k
   rw [if_neg (by rw [lt_irrefl]; simp),if_pos rfl,if_pos rfl,if_neg (by rw [lt_irrefl]; simp)]
   exact ⟨rfl,by simp [has]⟩
  ·
   have hne : e ≠ c := fun h => lt_ne k h.symm
   rw [if_neg (by rw [lt_asymm k]; simp),if_neg hne,if_neg hne,if_neg (by rw [lt_asymm k]; simp),decide_eq_false hne]
   exact ⟨by show (0 : Int) = 0 + 0; omega,rfl⟩
 | a :: l => by
  have ih := val_enter c e n l
  unfold val at ih ⊢
  rcases lt_tri a.acct e with k | k | k
  ·
   rw [enter_lt k,part_cons,part_cons,has_cons,has_cons]
   by_cases h : lt a.acct c = true
   ·
    rw [if_pos h,if_pos h,if_pos h,if_pos h]
    exact ih
   ·
    rw [if_neg h,if_neg h,if_neg h,if_neg h]
    have hne : e ≠ c := by
     rintro rfl
     exact h k
    rw [if_neg hne,decide_eq_false hne,Bool.or_false]
    exact ⟨by omega,rfl⟩
  ·
   rw [enter_eq k,part_cons,part_cons,has_cons,has_cons]
   subst k
   show (if lt a.acct c = true then part c l else if a.acct = c then more a n else ⟨c,0⟩).amt = _ ∧ (if lt a.acct c = true then has c l else decide (a.acct = c)) = _
   by_cases h : lt a.acct c = true
   ·
    rw [if_pos h,if_pos h,if_pos h,if_neg (lt_ne h),decide_eq_false (lt_ne h),Bool.or_false]
    exact ⟨by omega,rfl⟩
   ·
    rw [if_neg h,if_neg h,if_neg h]
    by_cases e' : a.acct = c
    ·
     rw [if_pos e',if_pos e',if_pos e']
     exact ⟨rfl,by simp [e']⟩
    ·
     rw [if_neg e',if_neg e',if_neg e']
     exact ⟨by omega,by simp [e']⟩
  ·
   rw [enter_gt k,part_cons,has_cons]
   show (if lt e c = true then part c (a :: l) else if e = c then ⟨e,0 + n⟩ else ⟨c,0⟩).amt = _ ∧ (if lt e c = true then has c (a :: l) else decide (e = c)) = _
   rcases lt_tri e c with h | h | h
   ·
    rw [if_pos h,if_pos h,if_neg (lt_ne h),decide_eq_false (lt_ne h),Bool.or_false]
    exact ⟨by omega,rfl⟩
   ·
    subst h
    rw [if_neg (by rw [lt_irrefl]; simp),if_pos rfl,if_pos rfl,if_neg (by rw [lt_irrefl]; simp),part_cons,if_neg (by rw [lt_asymm k]; simp),if_neg (fun q => lt_ne k q.symm)]
    exact ⟨rfl,by simp⟩
   ·
    have hne : e ≠ c := fun q => lt_ne h q.symm
    have hca : lt c a.acct = true := lt_trans h k
    rw [if_neg (by rw [lt_asymm h]; simp),if_neg hne,if_neg hne,if_neg (by rw [lt_asymm h]; simp),part_cons,has_cons,if_neg (by rw [lt_asymm hca]; simp),if_neg (fun q => lt_ne hca q.symm),if_neg (by rw [lt_asymm hca]; simp),decide_eq_false hne,decide_eq_false (fun q => lt_ne hca q.symm)]
    exact ⟨by show (0 : Int) = 0 + 0; omega,rfl⟩
theorem val_goL (c : ByteArray) : ∀ (ls b : List Ba.T),val c (goL ls b) = val c b + rows c ls ∧ has c (goL ls b) = (has c b || named c ls)
 | [],b => by
  refine ⟨by show _ = _ + 0; rw [goL]; omega,?_⟩
  rw [goL]
  show _ = (_ || false)
  rw [Bool.or_false]
 | x :: l,b => by
  have h1 := val_goL c l (enter x.acct x.amt b)
  have h2 := val_enter c x.acct x.amt b
  rw [goL,h1.1,h1.2,h2.1,h2.2]
  refine ⟨by rw [rows]; omega,?_⟩
  show _ = (_ || (decide (x.acct = c) || named c l))
  rw [Bool.or_assoc]
theorem look {c : ByteArray} : ∀ {l : List Ba.T},Sorted l → ∀ {x : Ba.T},x ∈ l → x.acct = c → part c l = x ∧ has c l = true
 | a :: l,h,x,hx,e => by
  have h1 := (List.pairwise_cons.1 h).1
  have h2 := (List.pairwise_cons.1 h).2
  rw [part_cons,has_cons]
  rcases List.mem_cons.1 hx with rfl | hx
  ·
   rw [if_neg (by rw [e,lt_irrefl]; simp),if_pos e,if_neg (by rw [e,lt_irrefl]; simp)]
   exact ⟨rfl,decide_eq_true e⟩
  ·
   have := h1 x hx
   rw [e] at this
   rw [if_pos this,if_pos this]
   exact look h2 hx e
theorem has_mem {c : ByteArray} : ∀ {l : List Ba.T},has c l = true → ∃ x ∈ l,x.acct = c
 | a :: l,h => by
  rw [has_cons] at h
  by_cases k : lt a.acct c = true
  ·
   rw [if_pos k] at h
   obtain ⟨x,hx,e⟩ := has_mem h
   exact ⟨x,by simp [hx],e⟩
  ·
   rw [if_neg k] at h
   exact ⟨a,by simp,of_decide_eq_true h⟩
theorem val_no {c : ByteArray} : ∀ {l : List Ba.T},has c l = false → val c l = 0
 | [],_ => rfl
 | a :: l,h => by
  unfold val
  rw [has_cons] at h
  rw [part_cons]
  by_cases k : lt a.acct c = true
  ·
   rw [if_pos k] at h ⊢
   exact val_no h
  ·
   rw [if_neg k] at h ⊢
   rw [if_neg (of_decide_eq_false h)]
end Go.Proofs.YtjpfpojbalepeaaGreat.Po
namespace Go.Proofs.YtjpfpojbalepeaaGreat.Po
def owedA : ByteArray := ⟨#[111,119,101,100]⟩
def netA : ByteArray := ⟨#[110,101,116,47]⟩
def taxA : ByteArray := ⟨#[116,97,120,47]⟩
def rowsOf (p : Pt.T) : List Ba.T := [⟨netA ++ p.cat,-p.net⟩,⟨taxA ++ p.cat,-p.tax⟩]
def entrL (g : Int) (ps : List Pt.T) : List Ba.T := ⟨owedA,g⟩ :: ps.flatMap rowsOf
def badE (p : Pt.T) : Bool := decide (Mn.err (-p.net) ≠ 0 ∨ Mn.err (-p.tax) ≠ 0)
def entrE (ps : List Pt.T) : Int := if ps.any badE = true then 7 else 0
def entrR (g : Int) (ps : List Pt.T) : List Ba.T := if entrE ps = 0 then entrL g ps else []
theorem entr_bad {ps : List Pt.T} {p : Pt.T} (g : Int) (hp : p ∈ ps) (h : badE p = true) : entrE ps = 7 ∧ entrR g ps = [] := by
 have e : entrE ps = 7 := if_pos (List.any_eq_true.2 ⟨p,hp,h⟩)
 exact ⟨e,by unfold entrR; rw [e]; rfl⟩
theorem entr_ok {ps : List Pt.T} (g : Int) (h : ∀ p ∈ ps,badE p = false) : entrE ps = 0 ∧ entrR g ps = entrL g ps := by
 have e : entrE ps = 0 := if_neg (by rw [Bool.not_eq_true,List.any_eq_false]; intro p hp; rw [h p hp]; simp)
 exact ⟨e,by unfold entrR; rw [e]; rfl⟩
theorem bad_no {p : Pt.T} (h1 : Mn.err (-p.net) = 0) (h2 : Mn.err (-p.tax) = 0) : badE p = false := decide_eq_false (by rw [h1,h2]; simp)
theorem bad_yes {p : Pt.T} (h : Mn.err (-p.net) ≠ 0 ∨ Mn.err (-p.tax) ≠ 0) : badE p = true := decide_eq_true h
theorem entr_step (g : Int) (ps : List Pt.T) (k : Nat) (h : k < ps.length) : entrL g (ps.take (k + 1)) = entrL g (ps.take k) ++ rowsOf ps[k] := by
 unfold entrL
 rw [List.take_succ_eq_append_getElem h,List.flatMap_append,List.cons_append]
 simp
end Go.Proofs.YtjpfpojbalepeaaGreat.Po
namespace Go.Proofs.YtjpfpojbalepeaaGreat.Sn
open Go.RowKit
open Mem
structure T where
 id : Int
 last : Int
 why : Int
 num : Int
 gross : Int
def val (r : T) : Value := .agg #[.int .i64 r.id,.int .i64 r.last,.int .i64 r.why,.int .i64 r.num,.int .i64 r.gross]
def Short (r : T) : Prop := Fit r.id ∧ Fit r.last ∧ Fit r.why ∧ Fit r.num ∧ Fit r.gross
def box (w : World) (r : T) : World := w.alloc (.cells #[.int .i64 r.id,.int .i64 r.last,.int .i64 r.why,.int .i64 r.num,.int .i64 r.gross] 82)
def C (u : World) (b : Nat) (r : T) : Prop :=
 u.cell? ⟨b,0,none⟩ = some (.int .i64 r.id) ∧ u.cell? ⟨b,1,none⟩ = some (.int .i64 r.last) ∧ u.cell? ⟨b,2,none⟩ = some (.int .i64 r.why) ∧ u.cell? ⟨b,3,none⟩ = some (.int .i64 r.num) ∧ u.cell? ⟨b,4,none⟩ = some (.int .i64 r.gross)
theorem C.below {u v : World} {b : Nat} {r : T} (h : C u b r) (k : Below u.heap.size u v) : C v b r := by
 obtain ⟨h0,h1,h2,h3,h4⟩ := h
 have hl := cell_lt h0
 unfold C
 rw [(bcell k).1 _ _ hl,(bcell k).1 _ _ hl,(bcell k).1 _ _ hl,(bcell k).1 _ _ hl,(bcell k).1 _ _ hl]
 exact ⟨h0,h1,h2,h3,h4⟩
theorem c_box (w : World) (r : T) : C (box w r) w.heap.size r := by
 unfold box C
 simp [go_sem]
theorem below_own (w : World) (r : T) : Below w.heap.size w (box w r) := (Below.refl _ _).alloc (Nat.le_refl _) _
theorem boxed1 (w : World) (a : T) : ∃ W,w.alloc (.cells #[.int .i64 a.id,.int .i64 a.last,.int .i64 a.why,.int .i64 a.num,.int .i64 a.gross] 82) = W ∧ Below w.heap.size w W ∧ C W w.heap.size a :=
 ⟨_,rfl,below_own w a,c_box w a⟩
end Go.Proofs.YtjpfpojbalepeaaGreat.Sn
namespace Go.Proofs.YtjpfpojbalepeaaGreat.Sn
open Go.RowKit
open Mem
structure At (u : World) (b o : Nat) (r : T) : Prop where
 c0 : u.cell? ⟨b,o,none⟩ = some (.int .i64 r.id)
 c1 : u.cell? ⟨b,o + 1,none⟩ = some (.int .i64 r.last)
 c2 : u.cell? ⟨b,o + 2,none⟩ = some (.int .i64 r.why)
 c3 : u.cell? ⟨b,o + 3,none⟩ = some (.int .i64 r.num)
 c4 : u.cell? ⟨b,o + 4,none⟩ = some (.int .i64 r.gross)
theorem At.below {u v : World} {b o : Nat} {r : T} (h : At u b o r) (k : Below u.heap.size u v) : At v b o r := by
 have hl := cell_lt h.c0
 exact ⟨by rw [(bcell k).1 _ _ hl]; exact h.c0,by rw [(bcell k).1 _ _ hl]; exact h.c1,by rw [(bcell k).1 _ _ hl]; exact h.c2,by rw [(bcell k).1 _ _ hl]; exact h.c3,by rw [(bcell k).1 _ _ hl]; exact h.c4⟩
def Seg (w : World) (ao : Option Addr) (rs : List T) : Prop := rs = [] ∨ ∃ b off,ao = some ⟨b,off,none⟩ ∧ ∀ (k : Nat) (hk : k < rs.length),At w b (off + k * 5) rs[k]
theorem Seg.below {w v : World} {ao : Option Addr} {rs : List T} (h : Seg w ao rs) (k : Below w.heap.size w v) : Seg v ao rs := by
 rcases h with h | ⟨b,off,e,h⟩
 · exact .inl h
 · exact .inr ⟨b,off,e,fun i hi => (h i hi).below k⟩
structure Ls (w : World) (ao : Option Addr) (n cap : Nat) (rs : List T) : Prop where
 len : n = rs.length
 fits : n ≤ cap
 reach : cap ≤ 9223372036854775807
 nil : ao = none → cap = 0
 seg : Seg w ao rs
 short : ∀ r ∈ rs,Short r
theorem Ls.below {w v : World} {ao : Option Addr} {n cap : Nat} {rs : List T} (h : Ls w ao n cap rs) (k : Below w.heap.size w v) : Ls v ao n cap rs :=
 ⟨h.len,h.fits,h.reach,h.nil,h.seg.below k,h.short⟩
theorem Ls.at {w : World} {ao : Option Addr} {n cap : Nat} {rs : List T} (h : Ls w ao n cap rs) (hn : 0 < n) : ∃ b off,ao = some ⟨b,off,none⟩ := by
 rcases h.seg with e | ⟨b,off,e,_⟩
 ·
  have := h.len
  rw [e] at this
  simp at this
  omega
 · exact ⟨b,off,e⟩
theorem Ls.row {w : World} {b off n cap : Nat} {rs : List T} (h : Ls w (some ⟨b,off,none⟩) n cap rs) (k : Nat) (hk : k < rs.length) : At w b (off + k * 5) rs[k] := by
 rcases h.seg with e | ⟨b',off',e,hs⟩
 ·
  subst e
  simp at hk
 ·
  cases e
  exact hs k hk
theorem ls_nil (w : World) : Ls w none 0 0 [] := ⟨rfl,Nat.le_refl _,by omega,fun _ => rfl,.inl rfl,by simp⟩
theorem und : Tryz.prog.underlying 40 = some (.slice (Tryz.prog.elem 40)) := by kernel_rfl
theorem size (u : World) : (sizeOf (Tryz.prog.elem 40)).run Tryz.prog u = .ok 5 u := by
 have h : (Tryz.prog.info? (Tryz.prog.elem 40)).map (·.size) = some 5 := by kernel_rfl
 obtain ⟨i,hi,hs⟩ := Option.map_eq_some_iff.1 h
 simp [sizeOf,typeInfo,hi,hs]
theorem Ls.to {w : World} {ao : Option Addr} {n cap : Nat} {rs : List T} (h : Ls w ao n cap rs) (k : Nat) (hk : k ≤ n) :
  (∀ u,(Instr.slice 40 (.slice ao n cap) none (some (.int .i64 (k : Int))) none).run Tryz.prog u = .ok (.slice ao k cap) u) ∧ Ls w ao k cap (rs.take k) := by
 have hl := h.len
 have hf := h.fits
 refine ⟨fun u => ?_,⟨by rw [List.length_take]; omega,by omega,h.reach,h.nil,?_,fun r hr => h.short r (List.mem_of_mem_take hr)⟩⟩
 ·
  rw [run_slice_h u 40 ao n cap und .i64 k (by omega) (by omega),size]
  have e : Option.map (fun x : Addr => x.add 0) ao = ao := by cases ao <;> simp [Addr.add]
  simp [Result.andThen,sliced,e]
 ·
  rcases h.seg with e | ⟨b,off,e,hc⟩
  · exact .inl (by rw [e]; simp)
  ·
   refine .inr ⟨b,off,e,fun j hj => ?_⟩
   rw [List.length_take] at hj
   rw [List.getElem_take]
   exact hc j (by omega)
theorem Ls.from {w : World} {ao : Option Addr} {n cap : Nat} {rs : List T} (h : Ls w ao n cap rs) (k : Nat) (hk : k ≤ n) :
  ∃ ao2 cap2,(∀ u,(Instr.slice 40 (.slice ao n cap) (some (.int .i64 (k : Int))) none none).run Tryz.prog u = .ok (.slice ao2 (n - k) cap2) u) ∧ Ls w ao2 (n - k) cap2 (rs.drop k) := by
 have hl := h.len
 have hf := h.fits
 refine ⟨if cap = k then ao else ao.map (·.add (k * 5)),cap - k,fun u => ?_,⟨by rw [List.length_drop]; omega,by omega,by have := h.reach; omega,?_,?_,fun r hr => h.short r (List.mem_of_mem_drop hr)⟩⟩
 ·
  rw [run_slice_l u 40 ao n cap und .i64 k (by omega) (by omega),size]
  simp [Result.andThen,sliced]
 ·
  by_cases e : cap = k
  · omega
  ·
   rw [if_neg e]
   cases ao with
   | none => have := h.nil rfl; omega
   | some a => exact fun k => by cases k
 ·
  by_cases hkn : k = n
  · exact .inl (List.drop_eq_nil_of_le (by omega))
  ·
   rcases h.seg with e | ⟨b,off,rfl,hc⟩
   · exact .inl (by rw [e]; simp)
   ·
    refine .inr ⟨b,off + k * 5,?_,fun j hj => ?_⟩
    ·
     rw [if_neg (by omega)]
     unfold Addr.add
     simp only [Option.map_some,Option.some.injEq]
     split
     ·
      rename_i e
      rw [e]
      rfl
     · rfl
    ·
     rw [List.length_drop] at hj
     rw [List.getElem_drop,show off + k * 5 + j * 5 = off + (k + j) * 5 by omega]
     exact hc (k + j) (by omega)
end Go.Proofs.YtjpfpojbalepeaaGreat.Sn
namespace Go.Proofs.YtjpfpojbalepeaaGreat.Sn
open Go.RowKit
open Mem
def rv (r : T) : List Value := [.int .i64 r.id,.int .i64 r.last,.int .i64 r.why,.int .i64 r.num,.int .i64 r.gross]
theorem rv_len (r : T) : (rv r).length = 5 := rfl
theorem flat_len : ∀ rs : List T,(rs.flatMap rv).length = rs.length * 5
 | [] => rfl
 | r :: l => by
  rw [List.flatMap_cons,List.length_append,rv_len,flat_len l,List.length_cons]
  omega
theorem flat_at : ∀ (rs : List T) (k p : Nat) (hk : k < rs.length),p < 5 → (rs.flatMap rv)[k * 5 + p]? = (rv rs[k])[p]?
 | r :: l,0,p,_,hp => by
  rw [List.flatMap_cons,List.getElem?_append_left (by rw [rv_len]; omega),Nat.zero_mul,Nat.zero_add]
  rfl
 | r :: l,k + 1,p,hk,hp => by
  rw [List.flatMap_cons,List.getElem?_append_right (by rw [rv_len]; omega),rv_len,show (k + 1) * 5 + p - 5 = k * 5 + p by omega]
  exact flat_at l k p (by simpa using hk) hp
theorem one_cell (rs : List T) : ∀ v ∈ rs.flatMap rv,v.oneCell' = true := by
 intro v hv
 obtain ⟨r,_,h⟩ := List.mem_flatMap.1 hv
 unfold rv at h
 simp only [List.mem_cons,List.not_mem_nil,or_false] at h
 rcases h with rfl | rfl | rfl | rfl | rfl <;> rfl
theorem news_of {w : World} {b off : Nat} {rs : List T} (h : ∀ (k : Nat) (hk : k < rs.length),At w b (off + k * 5) rs[k]) (j : Nat) (u : Value) (hu : (rs.flatMap rv)[j]? = some u) : w.cell? ((⟨b,off,none⟩ : Addr).add j) = some u := by
 have hj : j < (rs.flatMap rv).length := by
  obtain ⟨hj,_⟩ := List.getElem?_eq_some_iff.1 hu
  exact hj
 rw [flat_len] at hj
 obtain ⟨k,p,rfl,hp⟩ : ∃ k p,j = k * 5 + p ∧ p < 5 := ⟨j / 5,j % 5,by omega,by omega⟩
 have hk : k < rs.length := by omega
 rw [flat_at rs k p hk hp] at hu
 have ha : (⟨b,off,none⟩ : Addr).add (k * 5 + p) = ⟨b,off + k * 5 + p,none⟩ := by
  unfold Addr.add
  split
  ·
   rename_i e
   simp only [Addr.mk.injEq,true_and,and_true]
   omega
  ·
   simp only [Addr.mk.injEq,true_and,and_true]
   omega
 rw [ha]
 obtain ⟨c0,c1,c2,c3,c4⟩ := h k hk
 have hp' : p = 0 ∨ p = 1 ∨ p = 2 ∨ p = 3 ∨ p = 4 := by omega
 unfold rv at hu
 rcases hp' with rfl | rfl | rfl | rfl | rfl
 all_goals simp at hu
 all_goals subst hu
 · exact c0
 · exact c1
 · exact c2
 · exact c3
 · exact c4
def Own (w : World) (B : Nat) (v : Value) (xs : List T) : Prop := w.ownsRow B 82 5 v xs.length (xs.flatMap rv)
theorem own_nil (w : World) (B : Nat) : Own w B (.slice none 0 0) [] := ⟨rfl,.inl ⟨rfl,rfl⟩⟩
theorem own_ls {w : World} {B : Nat} {v : Value} {xs : List T} (h : Own w B v xs) (hs : ∀ r ∈ xs,Short r) : ∃ ao cap,v = .slice ao xs.length cap ∧ Ls w ao xs.length cap xs ∧ (∀ ad,ao = some ad → ∃ g,ad = ⟨g,0,none⟩ ∧ B ≤ g) := by
 rcases h.2 with ⟨h',h2⟩ | ⟨g,cap,cur,h',hb,hg,hnc,hcm,hcs,htake⟩
 ·
  have e : xs = [] := List.length_eq_zero_iff.1 h2
  subst e
  exact ⟨none,0,h',⟨rfl,Nat.le_refl _,by omega,fun _ => rfl,.inl rfl,hs⟩,fun ad k => by cases k⟩
 ·
  refine ⟨some ⟨g,0,none⟩,cap,h',⟨rfl,hnc,hcm,fun k => (by cases k),.inr ⟨g,0,rfl,fun k hk => ?_⟩,hs⟩,fun ad k => by cases k; exact ⟨g,rfl,hb⟩⟩
  have hcell : ∀ p,p < 5 → w.cell? ⟨g,0 + k * 5 + p,none⟩ = (rv xs[k])[p]? := by
   intro p hp
   rw [Nat.zero_add,cell_of_row w g _ _ _ _ hg,← flat_at xs k p hk hp,← htake,List.getElem?_take_of_lt (by omega)]
   simp
  exact ⟨hcell 0 (by omega),hcell 1 (by omega),hcell 2 (by omega),hcell 3 (by omega),hcell 4 (by omega)⟩
def zero : T := ⟨0,0,0,0,0⟩
def zeroV : Value := .agg #[.int .i64 0,.int .i64 0,.int .i64 0,.int .i64 0,.int .i64 0]
theorem info : (Tryz.prog.info? 82).map (fun i => (i.zero,i.size,i.bytes)) = some (some zeroV,5,40) := by kernel_rfl
theorem wp_append {o : Oper} {a : Act} {K : Act → World → Prop} {Q : Exit → Act → World → Prop} (w : World) (s x : Operand)
  (ho : o.op = .call { callee := .builtin .append,args := #[s,x],argTypes := #[40,40] })
  (B : Nat) (v : Value) (xs : List T) (hs : a.eval s = v) (hown : Own w B v xs)
  (ao : Option Addr) (n cap : Nat) (zs : List T) (hx : a.eval x = .slice ao n cap) (hn : n = zs.length) (hnil : ao = none → cap = 0) (hsrc : Seg w ao zs) (hl : (xs.length + n) * 40 ≤ 140737488355328) (hb : B ≤ w.heap.size)
  (h : ∀ v' w1,Own w1 B v' (xs ++ zs) → w.grownBy w1 v.ownBlock → (v'.ownBlock = v.ownBlock ∨ v'.ownBlock = some w.heap.size) → K (a.put o.dst v') w1) : o.wp Tryz.prog a w K Q := by
 have hzs : zeroV.cells.size = 5 := rfl
 obtain ⟨i0,hi,hz0,hz1,hz2⟩ := info_parts info
 have hmx : maxLen = 9223372036854775807 := rfl
 have empty : zs = [] → n = 0 → Own w B v (xs ++ zs) := by
  intro e _
  rw [e,List.append_nil]
  exact hown
 cases ao with
 | none =>
  obtain rfl : cap = 0 := hnil rfl
  rcases hsrc with e | ⟨b,off,e,_⟩
  ·
   obtain rfl : n = 0 := by rw [hn,e]; rfl
   have hrun := run_append_owned_none (P := Tryz.prog) (w := w) B 40 o.type 82 i0 5 Tryz.underlying40 hi v _ _ hown
   unfold Oper.wp
   simp [execOp,ho,resolve,invoke,builtin,hs,hx,hrun,Result.andThen]
   exact h v w (empty e rfl) ⟨rfl,rfl,rfl,Nat.le_refl _,fun _ _ _ => rfl⟩ (.inl rfl)
  · cases e
 | some ad =>
  obtain ⟨v',w',hr,h2,h3,_,h5⟩ := run_append_own_at (P := Tryz.prog) w B 40 o.type 82 i0 zeroV 5 40 Tryz.underlying40 hi hz0 hz1 hz2 hzs (by omega) v xs.length (xs.flatMap rv) hown ad n cap (zs.flatMap rv) (by rw [flat_len,hn]) (by
   rcases hsrc with e | ⟨b,off,e,hc⟩
   ·
    rw [e]
    intro j u hu
    simp at hu
   ·
    cases e
    exact fun j u hu => news_of hc j u hu) (one_cell zs) (by omega) hl hb
  unfold Oper.wp execOp
  simp only [ho,resolve,invoke,builtin,Sem.run_bind,Sem.run_pure,Result.andThen_ok,List.map_toArray,List.map_cons,List.map_nil,hs,hx,hr]
  refine h v' w' ?_ h3 h5
  unfold Own
  rw [List.flatMap_append,List.length_append,← hn]
  exact h2
theorem wpList_append {ops : Array Oper} {rest : List Oper} {o : Oper} {a : Act} {Q : Exit → Act → World → Prop} (w : World) (hgd : o.guard = none) (s x : Operand)
  (ho : o.op = .call { callee := .builtin .append,args := #[s,x],argTypes := #[40,40] })
  (B : Nat) (v : Value) (xs : List T) (hs : a.eval s = v) (hown : Own w B v xs)
  (ao : Option Addr) (n cap : Nat) (zs : List T) (hx : a.eval x = .slice ao n cap) (hn : n = zs.length) (hnil : ao = none → cap = 0) (hsrc : Seg w ao zs) (hl : (xs.length + n) * 40 ≤ 140737488355328) (hb : B ≤ w.heap.size)
  (h : ∀ v' w1,Own w1 B v' (xs ++ zs) → w.grownBy w1 v.ownBlock → (v'.ownBlock = v.ownBlock ∨ v'.ownBlock = some w.heap.size) → wpList Tryz.prog ops Q rest (a.put o.dst v') w1) : wpList Tryz.prog ops Q (o :: rest) a w :=
 wpList_plain hgd fun _ hK => wp_append w s x ho B v xs hs hown ao n cap zs hx hn hnil hsrc hl hb fun v' w1 h1 h2 h3 => hK _ _ (h v' w1 h1 h2 h3)
theorem own_ge {w : World} {B : Nat} {v : Value} {xs : List T} (h : Own w B v xs) : ∀ k,v.ownBlock = some k → B ≤ k := by
 intro k hk
 rcases h.2 with ⟨h',_⟩ | ⟨g,cap,cur,h',hb,_⟩
 ·
  rw [h'] at hk
  cases hk
 ·
  rw [h'] at hk
  simp only [Value.ownBlock,Option.some.injEq] at hk
  omega
theorem own_mono {w : World} {B C : Nat} {v : Value} {xs : List T} (h : Own w B v xs) (hc : C ≤ B) : Own w C v xs := by
 obtain ⟨h1,h2⟩ := h
 refine ⟨h1,?_⟩
 rcases h2 with h2 | ⟨g,cap,cur,h',hb,h3⟩
 · exact .inl h2
 · exact .inr ⟨g,cap,cur,h',by omega,h3⟩
theorem own_alloc {w : World} {B : Nat} {v : Value} {xs : List T} (h : Own w B v xs) (o : Obj) : Own (w.alloc o) B v xs := World.ownsRow.alloc h o
def block (r : T) : Obj := .cells #[.int .i64 r.id,.int .i64 r.last,.int .i64 r.why,.int .i64 r.num,.int .i64 r.gross] 82 (0,0)
theorem seg_block {X : World} {g : Nat} {r : T} (h : X.heap[g]? = some (block r)) : Seg X (some ⟨g,0,none⟩) [r] := by
 refine .inr ⟨g,0,rfl,fun k hk => ?_⟩
 obtain rfl : k = 0 := by simpa using hk
 unfold block at h
 refine ⟨?_,?_,?_,?_,?_⟩
 all_goals rw [cell_of_row X g _ _ _ _ h]
 all_goals rfl
end Go.Proofs.YtjpfpojbalepeaaGreat.Sn
namespace Go.Proofs.YtjpfpojbalepeaaGreat.Sp
open Sn (T)
def lt (a b : Int) : Bool := decide (a < b)
theorem lt_iff {a b : Int} : lt a b = true ↔ a < b := decide_eq_true_iff
theorem lt_trans {a b c : Int} (h : lt a b = true) (k : lt b c = true) : lt a c = true := lt_iff.2 (by have := lt_iff.1 h; have := lt_iff.1 k; omega)
theorem lt_ne {a b : Int} (h : lt a b = true) : a ≠ b := by
 have := lt_iff.1 h
 omega
def zeroB (r : T) : Bool := decide (r.why = 0) && (decide (r.num = 0) && decide (r.gross = 0))
theorem zero_iff {r : T} : zeroB r = true ↔ r.why = 0 ∧ r.num = 0 ∧ r.gross = 0 := by
 unfold zeroB
 rw [Bool.and_eq_true,Bool.and_eq_true,decide_eq_true_iff,decide_eq_true_iff,decide_eq_true_iff]
def numB (n : Int) : Bool := decide (1 ≤ n) && decide (n ≤ 1099511627776)
theorem num_iff {n : Int} : numB n = true ↔ 1 ≤ n ∧ n ≤ 1099511627776 := by
 unfold numB
 rw [Bool.and_eq_true,decide_eq_true_iff,decide_eq_true_iff]
def sound (r : T) : Bool := decide (1 ≤ r.id) && (decide (0 ≤ r.last) && (decide (r.last ≤ 1099511627776) && (!(decide (r.last = 0)) || zeroB r)))
theorem sound_iff {r : T} : sound r = true ↔ 1 ≤ r.id ∧ 0 ≤ r.last ∧ r.last ≤ 1099511627776 ∧ (r.last = 0 → r.why = 0 ∧ r.num = 0 ∧ r.gross = 0) := by
 unfold sound
 rw [Bool.and_eq_true,Bool.and_eq_true,Bool.and_eq_true,Bool.or_eq_true,decide_eq_true_iff,decide_eq_true_iff,decide_eq_true_iff,zero_iff,Bool.not_eq_true',decide_eq_false_iff_not]
 constructor
 ·
  rintro ⟨h1,h2,h3,h4⟩
  exact ⟨h1,h2,h3,fun e => h4.resolve_left fun k => k e⟩
 ·
  rintro ⟨h1,h2,h3,h4⟩
  refine ⟨h1,h2,h3,?_⟩
  by_cases e : r.last = 0
  · exact .inr (h4 e)
  · exact .inl e
def ok (p : Option T) (r : T) : Bool := sound r && (match p with | none => true | some q => lt q.id r.id)
def okAll : Option T → List T → Bool
 | _,[] => true
 | p,r :: l => ok p r && okAll (some r) l
def rightB (l : List T) : Bool := decide (l.length ≤ 8) && okAll none l
def Sorted (l : List T) : Prop := l.Pairwise fun a b => lt a.id b.id = true
theorem okAll_iff : ∀ (l : List T) (p : Option T),okAll p l = true ↔ (∀ r ∈ l,sound r = true) ∧ Sorted l ∧ (∀ q,p = some q → ∀ r ∈ l,lt q.id r.id = true)
 | [],p => by simp [okAll,Sorted]
 | a :: l,p => by
  have ih := okAll_iff l (some a)
  rw [okAll,Bool.and_eq_true,ih]
  unfold ok Sorted
  rw [Bool.and_eq_true,List.pairwise_cons]
  constructor
  ·
   rintro ⟨⟨h1,h2⟩,h3,h4,h5⟩
   refine ⟨?_,⟨h5 a rfl,h4⟩,?_⟩
   ·
    intro r hr
    rcases List.mem_cons.1 hr with rfl | hr
    · exact h1
    · exact h3 r hr
   ·
    rintro q rfl r hr
    rcases List.mem_cons.1 hr with rfl | hr
    · exact h2
    · exact lt_trans h2 (h5 a rfl r hr)
  ·
   rintro ⟨h1,⟨h2,h3⟩,h4⟩
   refine ⟨⟨h1 a (List.mem_cons_self ..),?_⟩,fun r hr => h1 r (List.mem_cons_of_mem _ hr),h3,?_⟩
   ·
    cases p with
    | none => rfl
    | some q => exact h4 q rfl a (List.mem_cons_self ..)
   ·
    rintro q ⟨⟩ r hr
    exact h2 r hr
theorem right_iff (l : List T) : rightB l = true ↔ l.length ≤ 8 ∧ (∀ r ∈ l,sound r = true) ∧ Sorted l := by
 unfold rightB
 rw [Bool.and_eq_true,decide_eq_true_iff,okAll_iff]
 simp
theorem right_long {l : List T} (h : 8 < l.length) : rightB l = false := by
 unfold rightB
 rw [decide_eq_false (by omega)]
 rfl
theorem right_short {l : List T} (h : l.length ≤ 8) : rightB l = okAll none l := by
 unfold rightB
 rw [decide_eq_true h]
 rfl
def prevAt (l : List T) (k : Nat) : Option T := if k = 0 then none else l[k - 1]?
theorem okAll_at (l : List T) (k : Nat) (h : k < l.length) : okAll (prevAt l k) (l.drop k) = (ok (prevAt l k) l[k] && okAll (prevAt l (k + 1)) (l.drop (k + 1))) := by
 rw [List.drop_eq_getElem_cons h,okAll]
 congr 2
 unfold prevAt
 rw [if_neg (by omega),Nat.add_sub_cancel,List.getElem?_eq_getElem h]
theorem prev_at {l : List T} {j : Nat} {q : T} (h : j < l.length) (hq : l[j] = q) : prevAt l (j + 1) = some q := by
 unfold prevAt
 rw [if_neg (by omega),Nat.add_sub_cancel,List.getElem?_eq_getElem h,hq]
def ix (s : Int) : List T → Nat
 | [] => 0
 | r :: l => if r.id = s then 0 else ix s l + 1
theorem ix_le (s : Int) : ∀ l,ix s l ≤ l.length
 | [] => Nat.le_refl _
 | a :: l => by
  have := ix_le s l
  unfold ix
  split <;> simp
  exact this
theorem ix_none {s : Int} : ∀ {l : List T},(∀ r ∈ l,r.id ≠ s) → ix s l = l.length
 | [],_ => rfl
 | r :: l,h => by
  unfold ix
  rw [if_neg (h r (by simp)),ix_none (fun x hx => h x (by simp [hx]))]
  rfl
theorem ix_at {s : Int} : ∀ {l : List T} {k : Nat} (hk : k < l.length),(∀ r ∈ l.take k,r.id ≠ s) → l[k].id = s → ix s l = k
 | [],_,hk,_,_ => absurd hk (Nat.not_lt_zero _)
 | r :: l,0,_,_,h => by
  unfold ix
  exact if_pos h
 | r :: l,k + 1,hk,hn,h => by
  have e := ix_at (l := l) (s := s) (k := k) (by simpa using hk) (fun x hx => hn x (by simp [hx])) (by simpa using h)
  unfold ix
  rw [if_neg (hn r (by simp)),e]
theorem ix_id {s : Int} : ∀ {l : List T} (h : ix s l < l.length),(l[ix s l]).id = s
 | [],h => absurd h (Nat.not_lt_zero _)
 | r :: l,h => by
  by_cases e : r.id = s
  ·
   have h0 : ix s (r :: l) = 0 := if_pos e
   simp only [h0,List.getElem_cons_zero]
   exact e
  ·
   have h0 : ix s (r :: l) = ix s l + 1 := if_neg e
   have h1 : ix s l < l.length := by rw [h0] at h; simpa using h
   simp only [h0,List.getElem_cons_succ]
   exact ix_id h1
theorem ix_mem {s : Int} {l : List T} : ix s l < l.length ↔ ∃ r ∈ l,r.id = s := by
 constructor
 ·
  intro h
  exact ⟨_,List.getElem_mem h,ix_id h⟩
 ·
  rintro ⟨r,hr,rfl⟩
  by_cases h : ix r.id l < l.length
  · exact h
  ·
   exfalso
   have : ∀ (l : List T),r ∈ l → ix r.id l < l.length := by
    intro l
    induction l with
    | nil => intro h; cases h
    | cons a l ih =>
     intro h
     unfold ix
     split
     · simp
     ·
      rename_i e
      rcases List.mem_cons.1 h with rfl | h
      · exact absurd rfl e
      ·
       have := ih h
       simp
       exact this
   exact h (this l hr)
def own (l : List T) (s : Int) : T := (l[ix s l]?).getD Sn.zero
theorem own_at {l : List T} {s : Int} (h : ix s l < l.length) : own l s = l[ix s l] := by
 unfold own
 rw [List.getElem?_eq_getElem h]
 rfl
theorem own_zero {l : List T} {s : Int} (h : ¬ ix s l < l.length) : own l s = Sn.zero := by
 unfold own
 rw [List.getElem?_eq_none (by omega)]
 rfl
theorem own_id {l : List T} {s : Int} (h : ix s l < l.length) : (own l s).id = s := by
 rw [own_at h]
 exact ix_id h
theorem own_mem {l : List T} {s : Int} (h : ix s l < l.length) : own l s ∈ l := by
 rw [own_at h]
 exact List.getElem_mem h
theorem sorted_inj {l : List T} (hs : Sorted l) {a b : T} (ha : a ∈ l) (hb : b ∈ l) (h : a.id = b.id) : a = b := by
 induction l with
 | nil => cases ha
 | cons c l ih =>
  unfold Sorted at hs
  rw [List.pairwise_cons] at hs
  rcases List.mem_cons.1 ha with e1 | ha
  ·
   rcases List.mem_cons.1 hb with e2 | hb
   · rw [e1,e2]
   ·
    have := hs.1 b hb
    rw [← e1] at this
    exact absurd h (lt_ne this)
  ·
   rcases List.mem_cons.1 hb with e2 | hb
   ·
    have := hs.1 a ha
    rw [← e2] at this
    exact absurd h.symm (lt_ne this)
   · exact ih hs.2 ha hb
theorem own_of {l : List T} (hs : Sorted l) {r : T} (h : r ∈ l) : ix r.id l < l.length ∧ own l r.id = r := by
 have hi : ix r.id l < l.length := ix_mem.2 ⟨r,h,rfl⟩
 exact ⟨hi,sorted_inj hs (own_mem hi) h (own_id hi)⟩
def spot (s : Int) : List T → Nat
 | [] => 0
 | a :: l => if lt a.id s = true then spot s l + 1 else 0
theorem spot_at (s : Int) (l : List T) (k : Nat) (h : k < l.length) : spot s (l.drop k) = if lt l[k].id s = true then spot s (l.drop (k + 1)) + 1 else 0 := by
 rw [List.drop_eq_getElem_cons h]
 rfl
def openL (l : List T) (r : T) : List T := l.take (spot r.id l) ++ r :: l.drop (spot r.id l)
theorem openL_cons {a : T} {l : List T} {r : T} (h : lt a.id r.id = true) : openL (a :: l) r = a :: openL l r := by
 have e : spot r.id (a :: l) = spot r.id l + 1 := if_pos h
 unfold openL
 rw [e]
 rfl
theorem openL_head {a : T} {l : List T} {r : T} (h : lt a.id r.id = false) : openL (a :: l) r = r :: a :: l := by
 have e : spot r.id (a :: l) = 0 := if_neg (by rw [h]; simp)
 unfold openL
 rw [e]
 rfl
theorem openL_perm (r : T) : ∀ l,(openL l r).Perm (r :: l)
 | [] => List.Perm.refl _
 | a :: l => by
  cases h : lt a.id r.id
  · rw [openL_head h]
  ·
   rw [openL_cons h]
   exact ((openL_perm r l).cons a).trans (List.Perm.swap r a l)
theorem openL_mem {r : T} {l : List T} {a : T} : a ∈ openL l r ↔ a = r ∨ a ∈ l := by
 rw [(openL_perm r l).mem_iff,List.mem_cons]
def new (i : Int) : T := ⟨i,0,0,0,0⟩
def joinE (l : List T) (i : Int) : Int := if rightB l = false then 1 else if i < 1 then 1 else if ix i l < l.length then 12 else if 8 ≤ l.length then 14 else 0
def joinR (l : List T) (i : Int) : List T := if joinE l i = 0 then openL l (new i) else []
section
variable {l : List T} {i : Int}
theorem join_arg (h : rightB l = false) : joinE l i = 1 ∧ joinR l i = [] := by
 have e : joinE l i = 1 := if_pos h
 exact ⟨e,by unfold joinR; rw [e]; rfl⟩
theorem join_low (h : rightB l = true) (k : i < 1) : joinE l i = 1 ∧ joinR l i = [] := by
 have e : joinE l i = 1 := by
  unfold joinE
  rw [if_neg (by rw [h]; simp),if_pos k]
 exact ⟨e,by unfold joinR; rw [e]; rfl⟩
theorem join_taken (h : rightB l = true) (k : ¬ i < 1) (m : ix i l < l.length) : joinE l i = 12 ∧ joinR l i = [] := by
 have e : joinE l i = 12 := by
  unfold joinE
  rw [if_neg (by rw [h]; simp),if_neg k,if_pos m]
 exact ⟨e,by unfold joinR; rw [e]; rfl⟩
theorem join_full (h : rightB l = true) (k : ¬ i < 1) (m : ¬ ix i l < l.length) (n : 8 ≤ l.length) : joinE l i = 14 ∧ joinR l i = [] := by
 have e : joinE l i = 14 := by
  unfold joinE
  rw [if_neg (by rw [h]; simp),if_neg k,if_neg m,if_pos n]
 exact ⟨e,by unfold joinR; rw [e]; rfl⟩
theorem join_ok (h : rightB l = true) (k : ¬ i < 1) (m : ¬ ix i l < l.length) (n : l.length < 8) : joinE l i = 0 ∧ joinR l i = openL l (new i) := by
 have e : joinE l i = 0 := by
  unfold joinE
  rw [if_neg (by rw [h]; simp),if_neg k,if_neg m,if_neg (by omega)]
 exact ⟨e,by unfold joinR; rw [e]; rfl⟩
end
theorem set_mem {l : List T} {s : Int} {r : T} (h : ix s l < l.length) (a : T) (ha : a ∈ l.set (ix s l) r) : a = r ∨ a ∈ l := by
 obtain ⟨j,hj,e⟩ := List.getElem_of_mem ha
 rw [List.getElem_set] at e
 split at e
 · exact .inl e.symm
 · exact .inr (e ▸ List.getElem_mem _)
theorem set_ids {l : List T} {s : Int} {r : T} (h : ix s l < l.length) (hr : r.id = s) : (l.set (ix s l) r).map T.id = l.map T.id := by
 rw [List.map_set,hr]
 apply List.ext_getElem (by simp)
 intro j h1 h2
 rw [List.getElem_set]
 split
 ·
  rename_i e
  subst e
  rw [List.getElem_map,ix_id h]
 · rfl
theorem sorted_ids {l m : List T} (h : l.map T.id = m.map T.id) (hs : Sorted l) : Sorted m := by
 have h1 : (l.map T.id).Pairwise (fun a b => lt a b = true) := List.pairwise_map.2 hs
 rw [h] at h1
 exact List.pairwise_map.1 h1
theorem set_right {l : List T} {s : Int} {r : T} (hl : rightB l = true) (h : ix s l < l.length) (hr : r.id = s) (k : sound r = true) : rightB (l.set (ix s l) r) = true := by
 obtain ⟨h1,h2,h3⟩ := (right_iff l).1 hl
 refine (right_iff _).2 ⟨by rw [List.length_set]; exact h1,fun a ha => ?_,sorted_ids (set_ids h hr).symm h3⟩
 rcases set_mem h a ha with rfl | ha
 · exact k
 · exact h2 a ha
def cut (l : List T) (k : Nat) : List T := l.take k ++ l.drop (k + 1)
def leaveE (l : List T) (i : Int) : Int := if rightB l = false then 1 else if l.length ≤ ix i l then 11 else 0
def leaveR (l : List T) (i : Int) : List T := if leaveE l i = 0 then cut l (ix i l) else []
section
variable {l : List T} {i : Int}
theorem leave_arg (h : rightB l = false) : leaveE l i = 1 ∧ leaveR l i = [] := by
 have e : leaveE l i = 1 := if_pos h
 exact ⟨e,by unfold leaveR; rw [e]; rfl⟩
theorem leave_none (h : rightB l = true) (k : ¬ ix i l < l.length) : leaveE l i = 11 ∧ leaveR l i = [] := by
 have e : leaveE l i = 11 := by
  unfold leaveE
  rw [if_neg (by rw [h]; simp),if_pos (by omega)]
 exact ⟨e,by unfold leaveR; rw [e]; rfl⟩
theorem leave_ok (h : rightB l = true) (k : ix i l < l.length) : leaveE l i = 0 ∧ leaveR l i = cut l (ix i l) := by
 have e : leaveE l i = 0 := by
  unfold leaveE
  rw [if_neg (by rw [h]; simp),if_neg (by omega)]
 exact ⟨e,by unfold leaveR; rw [e]; rfl⟩
theorem cut_sub (l : List T) (k : Nat) : (cut l k).Sublist l := by
 unfold cut
 rw [← List.eraseIdx_eq_take_drop_succ]
 exact List.eraseIdx_sublist l k
theorem cut_mem {a : T} {k : Nat} (h : a ∈ cut l k) : a ∈ l := (cut_sub l k).subset h
theorem cut_right (h : rightB l = true) (k : Nat) : rightB (cut l k) = true := by
 obtain ⟨h1,h2,h3⟩ := (right_iff l).1 h
 exact (right_iff _).2 ⟨Nat.le_trans (cut_sub l k).length_le h1,fun r hr => h2 r (cut_mem hr),List.Pairwise.sublist (cut_sub l k) h3⟩
theorem cut_own (hs : Sorted l) (k : ix i l < l.length) (j : Int) : (ix j (cut l (ix i l)) < (cut l (ix i l)).length ↔ j ≠ i ∧ ix j l < l.length) ∧ (j ≠ i → own (cut l (ix i l)) j = own l j) := by
 have hc : Sorted (cut l (ix i l)) := List.Pairwise.sublist (cut_sub l _) hs
 have hmem : ∀ a,a ∈ l → a.id ≠ i → a ∈ cut l (ix i l) := by
  intro a ha hne
  obtain ⟨q,hq,rfl⟩ := List.getElem_of_mem ha
  have hqk : q ≠ ix i l := fun e => hne (by subst e; exact ix_id k)
  unfold cut
  rcases Nat.lt_or_ge q (ix i l) with h | h
  · exact List.mem_append.2 (.inl (List.mem_take_iff_getElem.2 ⟨q,by omega,rfl⟩))
  ·
   refine List.mem_append.2 (.inr (List.mem_drop_iff_getElem.2 ⟨q - (ix i l + 1),by omega,?_⟩))
   congr 1
   omega
 have hno : ∀ a,a ∈ cut l (ix i l) → a.id ≠ i := by
  intro a ha e
  have hp := List.pairwise_iff_getElem.1 hs
  have hx := ix_id k
  unfold cut at ha
  rcases List.mem_append.1 ha with h | h
  ·
   obtain ⟨q,hq,e2⟩ := List.mem_take_iff_getElem.1 h
   have := lt_ne (hp q (ix i l) (by omega) k (by omega))
   rw [hx] at this
   exact this (by rw [e2]; exact e)
  ·
   obtain ⟨q,hq,e2⟩ := List.mem_drop_iff_getElem.1 h
   have := lt_ne (hp (ix i l) (ix i l + 1 + q) k (by omega) (by omega))
   rw [hx] at this
   exact this (by rw [e2]; exact e.symm)
 have h1 : ix j (cut l (ix i l)) < (cut l (ix i l)).length ↔ j ≠ i ∧ ix j l < l.length := by
  rw [ix_mem,ix_mem]
  constructor
  ·
   rintro ⟨a,ha,e⟩
   exact ⟨fun e2 => hno a ha (e.trans e2),a,cut_mem ha,e⟩
  ·
   rintro ⟨hne,a,ha,e⟩
   exact ⟨a,hmem a ha (by rw [e]; exact hne),e⟩
 refine ⟨h1,fun hne => ?_⟩
 by_cases h : ix j l < l.length
 ·
  have hm := own_of hc (hmem _ (own_mem h) (by rw [own_id h]; exact hne))
  rw [own_id h] at hm
  exact hm.2
 · rw [own_zero h,own_zero (fun q => h (h1.1 q).2)]
end
def lookE (l : List T) (i q : Int) : Int := if rightB l = false then 1 else if l.length ≤ ix i l then 15 else if numB q = false then 1 else if q < (own l i).last then 16 else 0
def lookO (l : List T) (i q : Int) : Bool := decide (lookE l i q = 0) && decide (q = (own l i).last)
def lookT (l : List T) (i q : Int) : T := if lookO l i q = true then own l i else Sn.zero
section
variable {l : List T} {i q : Int}
theorem look_arg (h : rightB l = false) : lookE l i q = 1 := if_pos h
theorem look_gone (h : rightB l = true) (k : ¬ ix i l < l.length) : lookE l i q = 15 := by
 unfold lookE
 rw [if_neg (by rw [h]; simp),if_pos (by omega)]
theorem look_seq (h : rightB l = true) (k : ix i l < l.length) (m : numB q = false) : lookE l i q = 1 := by
 unfold lookE
 rw [if_neg (by rw [h]; simp),if_neg (by omega),if_pos m]
theorem look_stale (h : rightB l = true) (k : ix i l < l.length) (m : numB q = true) (n : q < (own l i).last) : lookE l i q = 16 := by
 unfold lookE
 rw [if_neg (by rw [h]; simp),if_neg (by omega),if_neg (by rw [m]; simp),if_pos n]
theorem look_ok (h : rightB l = true) (k : ix i l < l.length) (m : numB q = true) (n : ¬ q < (own l i).last) : lookE l i q = 0 := by
 unfold lookE
 rw [if_neg (by rw [h]; simp),if_neg (by omega),if_neg (by rw [m]; simp),if_neg n]
theorem look_bad (h : lookE l i q ≠ 0) : lookO l i q = false ∧ lookT l i q = Sn.zero := by
 have e : lookO l i q = false := by
  unfold lookO
  rw [decide_eq_false h]
  rfl
 exact ⟨e,by unfold lookT; rw [e]; rfl⟩
theorem look_old (h : lookE l i q = 0) (k : q = (own l i).last) : lookO l i q = true ∧ lookT l i q = own l i := by
 have e : lookO l i q = true := by
  unfold lookO
  rw [decide_eq_true h,decide_eq_true k]
  rfl
 exact ⟨e,by unfold lookT; rw [e]; rfl⟩
theorem look_new (h : lookE l i q = 0) (k : q ≠ (own l i).last) : lookO l i q = false ∧ lookT l i q = Sn.zero := by
 have e : lookO l i q = false := by
  unfold lookO
  rw [decide_eq_false k,Bool.and_false]
 exact ⟨e,by unfold lookT; rw [e]; rfl⟩
theorem look_0 (h : lookE l i q = 0) : rightB l = true ∧ ix i l < l.length ∧ numB q = true ∧ ¬ q < (own l i).last := by
 unfold lookE at h
 cases h1 : rightB l
 · rw [if_pos h1] at h; omega
 ·
  rw [if_neg (by rw [h1]; simp)] at h
  by_cases h2 : l.length ≤ ix i l
  · rw [if_pos h2] at h; omega
  ·
   rw [if_neg h2] at h
   cases h3 : numB q
   · rw [if_pos h3] at h; omega
   ·
    rw [if_neg (by rw [h3]; simp)] at h
    by_cases h4 : q < (own l i).last
    · rw [if_pos h4] at h; omega
    · exact ⟨rfl,by omega,rfl,h4⟩
end
def keepE (l : List T) (i q : Int) : Int := if lookE l i q ≠ 0 then lookE l i q else if lookO l i q = true then 12 else 0
def keepR (l : List T) (i q y n g : Int) : List T := if keepE l i q = 0 then l.set (ix i l) ⟨i,q,y,n,g⟩ else []
section
variable {l : List T} {i q y n g : Int}
theorem keep_bad (h : lookE l i q ≠ 0) : keepE l i q = lookE l i q ∧ keepR l i q y n g = [] := by
 have e : keepE l i q = lookE l i q := if_pos h
 exact ⟨e,by unfold keepR; rw [e,if_neg h]⟩
theorem keep_old (h : lookE l i q = 0) (k : lookO l i q = true) : keepE l i q = 12 ∧ keepR l i q y n g = [] := by
 have e : keepE l i q = 12 := by
  unfold keepE
  rw [if_neg (by rw [h]; simp),if_pos k]
 exact ⟨e,by unfold keepR; rw [e]; rfl⟩
theorem keep_ok (h : lookE l i q = 0) (k : lookO l i q = false) : keepE l i q = 0 ∧ keepR l i q y n g = l.set (ix i l) ⟨i,q,y,n,g⟩ := by
 have e : keepE l i q = 0 := by
  unfold keepE
  rw [if_neg (by rw [h]; simp),if_neg (by rw [k]; simp)]
 exact ⟨e,by unfold keepR; rw [e]; rfl⟩
theorem keep_right (h : lookE l i q = 0) (y n g : Int) : rightB (l.set (ix i l) ⟨i,q,y,n,g⟩) = true := by
 obtain ⟨h1,h2,h3,h4⟩ := look_0 h
 have hi := own_id h2
 have hs := sound_iff.1 (((right_iff l).1 h1).2.1 _ (own_mem h2))
 rw [hi] at hs
 have hq := num_iff.1 h3
 exact set_right h1 h2 rfl (sound_iff.2 ⟨hs.1,by show 0 ≤ q; omega,hq.2,fun e => by have e' : q = 0 := e; omega⟩)
end
end Go.Proofs.YtjpfpojbalepeaaGreat.Sp
namespace Go.Proofs.YtjpfpojbalepeaaGreat.Bl
open Vt (Rt)
structure Ps where
 ser : ByteArray
 num : Int
 y : Int
 m : Int
 d : Int
 tot : Iv.Tot
 ofS : ByteArray
 ofN : Int
 back : Bool
structure St where
 tab : List Rt
 ser : List Sr.T
 post : List Ps
 book : List Ba.T
 sess : List Sn.T
 next : Int
def new : St := ⟨[],[],[],[],[],1⟩
def Own (p : Ps) : Prop := p.ofS = .empty ∧ p.ofN = 0
def Takes (p q : Ps) : Prop := q.ofS = p.ser ∧ q.ofN = p.num
def cnt (c : ByteArray) : List Ps → Nat
 | [] => 0
 | p :: l => (if p.ser = c then 1 else 0) + cnt c l
theorem cnt_app (c : ByteArray) : ∀ l m : List Ps,cnt c (l ++ m) = cnt c l + cnt c m
 | [],m => by rw [List.nil_append,cnt,Nat.zero_add]
 | p :: l,m => by rw [List.cons_append,cnt,cnt,cnt_app c l m]; omega
theorem cnt_one (c : ByteArray) (p : Ps) : cnt c [p] = if p.ser = c then 1 else 0 := by rw [cnt,cnt,Nat.add_zero]
theorem cnt_zero {c : ByteArray} : ∀ {l : List Ps},(∀ p ∈ l,p.ser ≠ c) → cnt c l = 0
 | [],_ => rfl
 | p :: l,h => by rw [cnt,if_neg (h p (by simp)),cnt_zero fun q hq => h q (by simp [hq])]
theorem cnt_take (c : ByteArray) (l : List Ps) (i : Nat) (h : i < l.length) : cnt c (l.take (i + 1)) = cnt c (l.take i) + (if l[i].ser = c then 1 else 0) := by
 rw [List.take_succ_eq_append_getElem h,cnt_app,cnt_one]
theorem cnt_mono (c : ByteArray) (l : List Ps) {i j : Nat} (h : i ≤ j) : cnt c (l.take i) ≤ cnt c (l.take j) := by
 have : l.take j = l.take i ++ (l.take j).drop i := by
  have := List.take_append_drop i (l.take j)
  rw [List.take_take,Nat.min_eq_left h] at this
  exact this.symm
 rw [this,cnt_app]
 omega
def netsP : List Pt.T → Int
 | [] => 0
 | p :: l => p.net + netsP l
def taxesP : List Pt.T → Int
 | [] => 0
 | p :: l => p.tax + taxesP l
structure TotR (t : Iv.Tot) : Prop where
 some : t.parts ≠ []
 few : t.parts.length ≤ 12
 each : ∀ p ∈ t.parts,Rn.name (txt p.cat) = true ∧ 0 ≤ p.bp ∧ p.bp ≤ 100000 ∧ Sh.taxE p.net p.bp = 0 ∧ Sh.taxV p.net p.bp = p.tax
 so : Iv.Sorted t.parts
 net : t.net = netsP t.parts
 tax : t.tax = taxesP t.parts
 gross : t.gross = t.net + t.tax
 fit : Mn.Fit t.net ∧ Mn.Fit t.tax ∧ Mn.Fit t.gross
def enterAll : List Ps → List Ba.T → Option (List Ba.T)
 | [],b => some b
 | p :: l,b => if Po.entrE p.tot.parts = 0 ∧ Po.entE b (Po.entrL p.tot.gross p.tot.parts) = 0 then enterAll l (Po.goL (Po.entrL p.tot.gross p.tot.parts) b) else none
theorem enterAll_app : ∀ (l m : List Ps) (b : List Ba.T),enterAll (l ++ m) b = (enterAll l b).bind (enterAll m)
 | [],m,b => rfl
 | p :: l,m,b => by
  rw [List.cons_append,enterAll,enterAll]
  split
  · exact enterAll_app l m _
  · rfl
theorem enterAll_sorted : ∀ {l : List Ps} {b c : List Ba.T},enterAll l b = some c → Po.Sorted b → Po.Sorted c
 | [],b,c,h,hb => by
  rw [enterAll,Option.some.injEq] at h
  rw [← h]
  exact hb
 | p :: l,b,c,h,hb => by
  rw [enterAll] at h
  split at h
  · exact enterAll_sorted h (Po.goL_sorted _ hb)
  · cases h
structure Link (l : List Ps) (i : Nat) (h : i < l.length) : Prop where
 back : l[i].back = true ↔ ∃ j,∃ hj : j < l.length,i < j ∧ Takes l[i] l[j]
 one : ∀ j k,(hj : j < l.length) → (hk : k < l.length) → i < j → i < k → Takes l[i] l[j] → Takes l[i] l[k] → j = k
 of : ¬ Own l[i] → l[i].back = false ∧ ∃ k,∃ hk : k < i,Takes (l[k]'(by omega)) l[i] ∧ Own (l[k]'(by omega)) ∧ Dt.days (l[k]'(by omega)).y (l[k]'(by omega)).m (l[k]'(by omega)).d ≤ Dt.days l[i].y l[i].m l[i].d ∧ Iv.backE (l[k]'(by omega)).tot = 0 ∧ l[i].tot = Iv.back (l[k]'(by omega)).tot
structure Right (s : St) : Prop where
 tab : Vt.tableB s.tab = true
 ser : Se.rightB s.ser = true
 sess : Sp.rightB s.sess = true
 few : s.post.length ≤ 40
 next : 1 ≤ s.next ∧ s.next ≤ 1099511627776
 ids : ∀ x ∈ s.sess,x.id < s.next
 has : ∀ p ∈ s.post,Se.ix p.ser s.ser < s.ser.length
 num : ∀ i (h : i < s.post.length),s.post[i].num = (cnt s.post[i].ser (s.post.take i) : Int) + 1
 full : ∀ r ∈ s.ser,(cnt r.name s.post : Int) = r.next - 1
 day : ∀ p ∈ s.post,Dt.rightB p.y p.m p.d = true
 tot : ∀ p ∈ s.post,TotR p.tot
 link : ∀ i (h : i < s.post.length),Link s.post i h
 book : enterAll s.post [] = some s.book
theorem right_new : Right new := by
 refine ⟨rfl,rfl,rfl,by simp [new],⟨by show (1 : Int) ≤ 1; omega,by show (1 : Int) ≤ _; omega⟩,?_,?_,?_,?_,?_,?_,?_,rfl⟩
 ·
  intro x hx
  cases hx
 ·
  intro x hx
  cases hx
 ·
  intro i h
  exact absurd h (Nat.not_lt_zero _)
 ·
  intro x hx
  cases hx
 ·
  intro x hx
  cases hx
 ·
  intro x hx
  cases hx
 ·
  intro i h
  exact absurd h (Nat.not_lt_zero _)
theorem Right.sorted {s : St} (h : Right s) : Po.Sorted s.book := enterAll_sorted h.book List.Pairwise.nil
theorem Right.pos {s : St} (h : Right s) (i : Nat) (hi : i < s.post.length) : 1 ≤ s.post[i].num := by
 have := h.num i hi
 omega
theorem Right.inj {s : St} (h : Right s) {i j : Nat} (hi : i < s.post.length) (hj : j < s.post.length) (hs : s.post[i].ser = s.post[j].ser) (hn : s.post[i].num = s.post[j].num) : i = j := by
 have key : ∀ {i j : Nat} (hi : i < s.post.length) (hj : j < s.post.length),s.post[i].ser = s.post[j].ser → s.post[i].num = s.post[j].num → ¬ i < j := by
  intro i j hi hj hs hn hij
  have h1 := h.num i hi
  have h2 := h.num j hj
  have h3 := cnt_take s.post[i].ser s.post i hi
  rw [if_pos rfl] at h3
  have h4 := cnt_mono s.post[i].ser s.post (show i + 1 ≤ j by omega)
  rw [← hs] at h2
  omega
 rcases Nat.lt_trichotomy i j with q | q | q
 · exact absurd q (key hi hj hs hn)
 · exact q
 · exact absurd q (key hj hi hs.symm hn.symm)
theorem Right.series {s : St} (h : Right s) {l : List Sr.T} (hl : Se.rightB l = true) (hh : ∀ c,Se.ix c s.ser < s.ser.length → Se.ix c l < l.length) (hf : ∀ r ∈ l,(cnt r.name s.post : Int) = r.next - 1) : Right ⟨s.tab,l,s.post,s.book,s.sess,s.next⟩ :=
 ⟨h.tab,hl,h.sess,h.few,h.next,h.ids,fun p hp => hh _ (h.has p hp),h.num,hf,h.day,h.tot,h.link,h.book⟩
theorem Right.table {s : St} (h : Right s) {l : List Rt} (hl : Vt.tableB l = true) : Right ⟨l,s.ser,s.post,s.book,s.sess,s.next⟩ :=
 ⟨hl,h.ser,h.sess,h.few,h.next,h.ids,h.has,h.num,h.full,h.day,h.tot,h.link,h.book⟩
theorem Right.sessions {s : St} (h : Right s) {l : List Sn.T} {n : Int} (hl : Sp.rightB l = true) (hn : 1 ≤ n ∧ n ≤ 1099511627776) (hi : ∀ x ∈ l,x.id < n) : Right ⟨s.tab,s.ser,s.post,s.book,l,n⟩ :=
 ⟨h.tab,h.ser,hl,h.few,hn,hi,h.has,h.num,h.full,h.day,h.tot,h.link,h.book⟩
theorem Right.opened {s : St} (h : Right s) {c : ByteArray} {n : Int} (he : Se.openE s.ser c n = 0) : Right ⟨s.tab,Se.openR s.ser c n,s.post,s.book,s.sess,s.next⟩ := by
 have h0 := he
 unfold Se.openE at h0
 have h1 : Rn.name (txt c) = true := by
  cases q : Rn.name (txt c)
  · rw [if_neg (by rw [h.ser]; simp),if_pos q] at h0; omega
  · rfl
 have h2 : Se.lim n = true := by
  cases q : Se.lim n
  · rw [if_neg (by rw [h.ser]; simp),if_neg (by rw [h1]; simp),if_pos q] at h0; omega
  · rfl
 have h3 : ¬ Se.ix c s.ser < s.ser.length := fun q => by
  rw [if_neg (by rw [h.ser]; simp),if_neg (by rw [h1]; simp),if_neg (by rw [h2]; simp),if_pos q] at h0
  omega
 have h4 : s.ser.length < 8 := by
  rcases Nat.lt_or_ge s.ser.length 8 with q | q
  · exact q
  ·
   rw [if_neg (by rw [h.ser]; simp),if_neg (by rw [h1]; simp),if_neg (by rw [h2]; simp),if_neg h3,if_pos q] at h0
   omega
 rw [(Se.open_ok h.ser h1 h2 h3 h4).2]
 have hw := Se.open_own (r := ⟨c,1,n,false⟩) ((Se.right_iff _).1 h.ser).2.2 h3
 refine h.series (Se.open_right h.ser h1 h2 h3 h4) (fun d hd => (hw d).1.2 (.inr hd)) fun r hr => ?_
 rcases Se.openL_mem.1 hr with rfl | hr
 ·
  show (cnt c s.post : Int) = 1 - 1
  rw [cnt_zero (c := c) fun p hp (e : p.ser = c) => h3 (e ▸ h.has p hp)]
  omega
 · exact h.full r hr
theorem Right.shut {s : St} (h : Right s) {c : ByteArray} (he : Se.unE s.ser c = 0) : Right ⟨s.tab,Se.shutR s.ser c,s.post,s.book,s.sess,s.next⟩ := by
 obtain ⟨_,h2,_⟩ := Se.un_0 he
 have hr := Se.shut_right he
 rw [Se.shut_yes he] at hr ⊢
 have hn : (Se.shutT (Se.own s.ser c)).name = c := Se.own_name h2
 have hw := Se.set_own h2 hn
 refine h.series hr (fun d hd => by rw [(hw d).1,List.length_set]; exact hd) fun r hr => ?_
 rcases Se.set_mem h2 r hr with rfl | hr
 · exact h.full (Se.own s.ser c) (Se.own_mem h2)
 · exact h.full r hr
theorem Right.kept {s : St} (h : Right s) {i q : Int} (he : Sp.lookE s.sess i q = 0) (y n g : Int) : Right ⟨s.tab,s.ser,s.post,s.book,s.sess.set (Sp.ix i s.sess) ⟨i,q,y,n,g⟩,s.next⟩ := by
 obtain ⟨_,h2,_,_⟩ := Sp.look_0 he
 refine h.sessions (Sp.keep_right he y n g) h.next fun x hx => ?_
 rcases Sp.set_mem h2 x hx with rfl | hx
 ·
  have := h.ids _ (Sp.own_mem h2)
  rw [Sp.own_id h2] at this
  exact this
 · exact h.ids x hx
theorem Right.left {s : St} (h : Right s) (k : Nat) : Right ⟨s.tab,s.ser,s.post,s.book,Sp.cut s.sess k,s.next⟩ :=
 h.sessions (Sp.cut_right h.sess k) h.next fun x hx => h.ids x (Sp.cut_mem hx)
theorem Right.joined {s : St} (h : Right s) (h8 : s.sess.length < 8) (hn : s.next < 1099511627776) : Right ⟨s.tab,s.ser,s.post,s.book,s.sess ++ [Sp.new s.next],s.next + 1⟩ := by
 obtain ⟨h1,h2,h3⟩ := (Sp.right_iff _).1 h.sess
 refine h.sessions ((Sp.right_iff _).2 ⟨by rw [List.length_append]; show _ + 1 ≤ 8; omega,fun r hr => ?_,?_⟩) (by have := h.next; omega) fun x hx => ?_
 ·
  rcases List.mem_append.1 hr with hr | hr
  · exact h2 r hr
  ·
   obtain rfl := List.mem_singleton.1 hr
   exact Sp.sound_iff.2 ⟨h.next.1,by show (0 : Int) ≤ 0; omega,by show (0 : Int) ≤ 1099511627776; omega,fun _ => ⟨rfl,rfl,rfl⟩⟩
 ·
  refine List.pairwise_append.2 ⟨h3,List.pairwise_singleton _ _,fun a ha b hb => ?_⟩
  obtain rfl := List.mem_singleton.1 hb
  exact Sp.lt_iff.2 (h.ids a ha)
 ·
  rcases List.mem_append.1 hx with hx | hx
  ·
   have := h.ids x hx
   show x.id < s.next + 1
   omega
  ·
   obtain rfl := List.mem_singleton.1 hx
   show s.next < s.next + 1
   omega
def mark (l : List Ps) (k : Nat) : List Ps := l.modify k fun p => ⟨p.ser,p.num,p.y,p.m,p.d,p.tot,p.ofS,p.ofN,true⟩
end Go.Proofs.YtjpfpojbalepeaaGreat.Bl
namespace Go.Proofs.YtjpfpojbalepeaaGreat.Bl
open Vt (Rt)
theorem cnt_sers (c : ByteArray) : ∀ {l m : List Ps},l.map (·.ser) = m.map (·.ser) → cnt c l = cnt c m
 | [],[],_ => rfl
 | [],_ :: _,h => by simp at h
 | _ :: _,[],h => by simp at h
 | a :: l,b :: m,h => by
  rw [List.map_cons,List.map_cons,List.cons.injEq] at h
  rw [cnt,cnt,cnt_sers c h.2,h.1]
theorem enterAll_tots : ∀ {l m : List Ps} (b : List Ba.T),l.map (·.tot) = m.map (·.tot) → enterAll l b = enterAll m b
 | [],[],b,_ => rfl
 | [],_ :: _,b,h => by simp at h
 | _ :: _,[],b,h => by simp at h
 | a :: l,c :: m,b,h => by
  rw [List.map_cons,List.map_cons,List.cons.injEq] at h
  rw [enterAll,enterAll,h.1]
  split
  · exact enterAll_tots _ h.2
  · rfl
structure Like (l m : List Ps) : Prop where
 len : m.length = l.length
 each : ∀ i (h : i < l.length),(m[i]'(len ▸ h)).ser = l[i].ser ∧ (m[i]'(len ▸ h)).num = l[i].num ∧ (m[i]'(len ▸ h)).y = l[i].y ∧ (m[i]'(len ▸ h)).m = l[i].m ∧ (m[i]'(len ▸ h)).d = l[i].d ∧ (m[i]'(len ▸ h)).tot = l[i].tot ∧ (m[i]'(len ▸ h)).ofS = l[i].ofS ∧ (m[i]'(len ▸ h)).ofN = l[i].ofN
theorem mark_len (l : List Ps) (k : Nat) : (mark l k).length = l.length := List.length_modify _ _ _
theorem mark_get (l : List Ps) (k i : Nat) (h : i < l.length) : (mark l k)[i]'(by rw [mark_len]; exact h) = if k = i then ⟨l[i].ser,l[i].num,l[i].y,l[i].m,l[i].d,l[i].tot,l[i].ofS,l[i].ofN,true⟩ else l[i] := by
 unfold mark
 rw [List.getElem_modify]
theorem mark_like (l : List Ps) (k : Nat) : Like l (mark l k) := by
 refine ⟨mark_len l k,fun i h => ?_⟩
 rw [mark_get l k i h]
 split <;> exact ⟨rfl,rfl,rfl,rfl,rfl,rfl,rfl,rfl⟩
theorem Like.map {α : Type} {l m : List Ps} (h : Like l m) (f : Ps → α) (hf : ∀ i (q : i < l.length),f (m[i]'(h.len ▸ q)) = f l[i]) : m.map f = l.map f := by
 apply List.ext_getElem (by rw [List.length_map,List.length_map,h.len])
 intro i h1 h2
 rw [List.getElem_map,List.getElem_map]
 exact hf i (by simpa using h2)
theorem Like.sers {l m : List Ps} (h : Like l m) : m.map (·.ser) = l.map (·.ser) := h.map _ fun i q => (h.each i q).1
theorem Like.tots {l m : List Ps} (h : Like l m) : m.map (·.tot) = l.map (·.tot) := h.map _ fun i q => (h.each i q).2.2.2.2.2.1
theorem Like.takes {l m : List Ps} (h : Like l m) {i j : Nat} (hi : i < l.length) (hj : j < l.length) : Takes (m[i]'(h.len ▸ hi)) (m[j]'(h.len ▸ hj)) ↔ Takes l[i] l[j] := by
 have a := h.each i hi
 have b := h.each j hj
 unfold Takes
 rw [a.1,a.2.1,b.2.2.2.2.2.2.1,b.2.2.2.2.2.2.2]
theorem Like.own {l m : List Ps} (h : Like l m) {i : Nat} (hi : i < l.length) : Own (m[i]'(h.len ▸ hi)) ↔ Own l[i] := by
 have a := h.each i hi
 unfold Own
 rw [a.2.2.2.2.2.2.1,a.2.2.2.2.2.2.2]
theorem get_old {l : List Ps} {p : Ps} {i : Nat} (h : i < l.length) : (l ++ [p])[i]'(by rw [List.length_append]; omega) = l[i] := List.getElem_append_left h
theorem get_new {l : List Ps} {p : Ps} (h : l.length < (l ++ [p]).length) : (l ++ [p])[l.length] = p := by
 rw [List.getElem_append_right (Nat.le_refl _)]
 simp
structure New (s : St) (p : Ps) : Prop where
 take : Se.takeE s.ser p.ser = 0
 num : p.num = Se.takeN s.ser p.ser
 room : s.post.length < 40
 day : Dt.rightB p.y p.m p.d = true
 tot : TotR p.tot
 entr : Po.entrE p.tot.parts = 0
 ent : Po.entE s.book (Po.entrL p.tot.gross p.tot.parts) = 0
 back : p.back = false
def more (s : St) (l : List Ps) (p : Ps) : St := ⟨s.tab,Se.takeR s.ser p.ser,l ++ [p],Po.goL (Po.entrL p.tot.gross p.tot.parts) s.book,s.sess,s.next⟩
theorem take_0 {l : List Sr.T} {c : ByteArray} (h : Se.takeE l c = 0) : Se.unE l c = 0 ∧ ¬ (Se.own l c).limit < (Se.own l c).next := by
 have h1 : Se.unE l c = 0 := by
  by_cases q : Se.unE l c = 0
  · exact q
  ·
   rw [(Se.take_un q).1] at h
   exact absurd h q
 refine ⟨h1,fun q => ?_⟩
 rw [(Se.take_full h1 q).1] at h
 omega
theorem Right.more {s : St} (h : Right s) {p : Ps} (n : New s p) {l : List Ps} (hl : Like s.post l) (hk : ∀ i (q : i < (l ++ [p]).length),Link (l ++ [p]) i q) : Right (more s l p) := by
 obtain ⟨hu,hlim⟩ := take_0 n.take
 obtain ⟨_,hin,_⟩ := Se.un_0 hu
 have hT := Se.take_ok hu hlim
 have hR := Se.take_right hu hlim
 rw [hT.2.2] at hR
 have hnm : (Se.nextT (Se.own s.ser p.ser)).name = p.ser := Se.own_name hin
 have hw := Se.set_own hin hnm
 have hnum : p.num = (cnt p.ser s.post : Int) + 1 := by
  rw [n.num,hT.2.1]
  have := h.full _ (Se.own_mem hin)
  rw [Se.own_name hin] at this
  omega
 have hcnt : ∀ c,cnt c l = cnt c s.post := fun c => cnt_sers c hl.sers
 have hsz := hl.len
 unfold Bl.more
 refine ⟨h.tab,by rw [hT.2.2]; exact hR,h.sess,?_,h.next,h.ids,?_,?_,?_,?_,?_,hk,?_⟩
 ·
  show (l ++ [p]).length ≤ 40
  rw [List.length_append,hsz]
  show _ + 1 ≤ 40
  have := n.room
  omega
 ·
  intro q hq
  show Se.ix q.ser (Se.takeR s.ser p.ser) < _
  rw [hT.2.2,(hw q.ser).1,List.length_set]
  rcases List.mem_append.1 hq with hq | hq
  ·
   obtain ⟨i,hi,rfl⟩ := List.getElem_of_mem hq
   rw [(hl.each i (hsz ▸ hi)).1]
   exact h.has _ (List.getElem_mem _)
  ·
   obtain rfl := List.mem_singleton.1 hq
   exact hin
 ·
  intro i hi
  show ((l ++ [p])[i]).num = (cnt ((l ++ [p])[i]).ser ((l ++ [p]).take i) : Int) + 1
  rw [List.length_append] at hi
  have hi' : i < l.length + 1 := hi
  rcases Nat.lt_or_ge i l.length with q | q
  ·
   rw [get_old q,List.take_append_of_le_length (Nat.le_of_lt q)]
   have a := hl.each i (hsz ▸ q)
   rw [a.1,a.2.1,cnt_sers (l := l.take i) (m := s.post.take i) _ (by rw [List.map_take,List.map_take,hl.sers])]
   exact h.num i (hsz ▸ q)
  ·
   obtain rfl : i = l.length := by omega
   rw [get_new,List.take_left' rfl,hcnt]
   exact hnum
 ·
  intro r hr
  show (cnt r.name (l ++ [p]) : Int) = r.next - 1
  have hr' : r ∈ s.ser.set (Se.ix p.ser s.ser) (Se.nextT (Se.own s.ser p.ser)) := by
   rw [← hT.2.2]
   exact hr
  have hso := ((Se.right_iff _).1 hR).2.2
  obtain ⟨hri,hro⟩ := Se.own_of hso hr'
  rw [(hw r.name).2] at hro
  rw [cnt_app,cnt_one,hcnt]
  by_cases e : r.name = p.ser
  ·
   rw [if_pos e] at hro
   rw [if_pos e.symm]
   have := h.full _ (Se.own_mem hin)
   rw [Se.own_name hin] at this
   rw [← hro]
   show ((cnt (Se.own s.ser p.ser).name s.post + 1 : Nat) : Int) = (Se.own s.ser p.ser).next + 1 - 1
   rw [Se.own_name hin]
   omega
  ·
   rw [if_neg e] at hro
   rw [if_neg (fun k => e k.symm),Nat.add_zero]
   have hri' : Se.ix r.name s.ser < s.ser.length := by
    rw [(hw r.name).1,List.length_set] at hri
    exact hri
   have := h.full _ (Se.own_mem hri')
   rw [hro] at this
   exact this
 ·
  intro q hq
  rcases List.mem_append.1 hq with hq | hq
  ·
   obtain ⟨i,hi,rfl⟩ := List.getElem_of_mem hq
   have a := hl.each i (hsz ▸ hi)
   rw [a.2.2.1,a.2.2.2.1,a.2.2.2.2.1]
   exact h.day _ (List.getElem_mem _)
  ·
   obtain rfl := List.mem_singleton.1 hq
   exact n.day
 ·
  intro q hq
  rcases List.mem_append.1 hq with hq | hq
  ·
   obtain ⟨i,hi,rfl⟩ := List.getElem_of_mem hq
   rw [(hl.each i (hsz ▸ hi)).2.2.2.2.2.1]
   exact h.tot _ (List.getElem_mem _)
  ·
   obtain rfl := List.mem_singleton.1 hq
   exact n.tot
 ·
  show enterAll (l ++ [p]) [] = some _
  rw [enterAll_app,enterAll_tots [] hl.tots,h.book]
  show enterAll [p] s.book = _
  rw [enterAll,if_pos ⟨n.entr,n.ent⟩,enterAll]
theorem Right.posted {s : St} (h : Right s) {p : Ps} (n : New s p) (ho : Own p) : Right (Bl.more s s.post p) := by
 have no : ∀ i (hi : i < s.post.length),¬ Takes s.post[i] p := fun i hi k => by
  have h1 := h.pos i hi
  have h2 : p.ofN = s.post[i].num := k.2
  have h3 : p.ofN = 0 := ho.2
  omega
 refine h.more n ⟨rfl,fun i _ => ⟨rfl,rfl,rfl,rfl,rfl,rfl,rfl,rfl⟩⟩ fun i q => ?_
 have hL : (s.post ++ [p]).length = s.post.length + 1 := by rw [List.length_append]; rfl
 rcases Nat.lt_or_ge i s.post.length with hi | hi
 ·
  have hk := h.link i hi
  refine ⟨?_,?_,?_⟩
  ·
   rw [get_old hi,hk.back]
   constructor
   ·
    rintro ⟨j,hj,hij,ht⟩
    exact ⟨j,by omega,hij,by rw [get_old hj]; exact ht⟩
   ·
    rintro ⟨j,hj,hij,ht⟩
    rcases Nat.lt_or_ge j s.post.length with q' | q'
    ·
     rw [get_old q'] at ht
     exact ⟨j,q',hij,ht⟩
    ·
     obtain rfl : j = s.post.length := by omega
     rw [get_new] at ht
     exact absurd ht (no i hi)
  ·
   intro j k hj hk' hij hik tj tk
   rw [get_old hi] at tj tk
   have old : ∀ {j : Nat} (hj : j < (s.post ++ [p]).length),Takes s.post[i] ((s.post ++ [p])[j]) → j < s.post.length := fun {j} hj ht => by
    rcases Nat.lt_or_ge j s.post.length with q' | q'
    · exact q'
    ·
     obtain rfl : j = s.post.length := by omega
     rw [get_new] at ht
     exact absurd ht (no i hi)
   have oj := old hj tj
   have ok := old hk' tk
   rw [get_old oj] at tj
   rw [get_old ok] at tk
   exact hk.one j k oj ok hij hik tj tk
  ·
   intro hno
   rw [get_old hi] at hno
   obtain ⟨hb,k,hki,h1,h2,h3,h4,h5⟩ := hk.of hno
   refine ⟨by rw [get_old hi]; exact hb,k,hki,?_⟩
   rw [get_old hi,get_old (show k < s.post.length by omega)]
   exact ⟨h1,h2,h3,h4,h5⟩
 ·
  obtain rfl : i = s.post.length := by omega
  refine ⟨?_,?_,?_⟩
  ·
   rw [get_new,n.back]
   constructor
   ·
    intro e
    cases e
   ·
    rintro ⟨j,hj,hij,_⟩
    omega
  ·
   intro j k hj hk' hij
   omega
  ·
   intro hno
   rw [get_new] at hno
   exact absurd ho hno
theorem Right.credited {s : St} (h : Right s) {p : Ps} (n : New s p) {a : Nat} (ha : a < s.post.length) (ht : Takes s.post[a] p) (hown : Own s.post[a]) (hnb : s.post[a].back = false) (hno : ¬ Own p) (hd : Dt.days s.post[a].y s.post[a].m s.post[a].d ≤ Dt.days p.y p.m p.d) (hE : Iv.backE s.post[a].tot = 0) (hT : p.tot = Iv.back s.post[a].tot) : Right (Bl.more s (mark s.post a) p) := by
 have hlike := mark_like s.post a
 have hM := mark_len s.post a
 have only : ∀ i (hi : i < s.post.length),Takes s.post[i] p → i = a := fun i hi k => h.inj hi ha (k.1.symm.trans ht.1) (k.2.symm.trans ht.2)
 have later : ∀ j (hj : j < s.post.length),a < j → ¬ Takes s.post[a] s.post[j] := fun j hj haj k => by
  have := (h.link a ha).back.2 ⟨j,hj,haj,k⟩
  rw [hnb] at this
  cases this
 have hL : (mark s.post a ++ [p]).length = s.post.length + 1 := by rw [List.length_append,hM]; rfl
 have old : ∀ i (hi : i < s.post.length),(mark s.post a ++ [p])[i]'(by omega) = (mark s.post a)[i]'(by omega) := fun i hi => get_old (by omega)
 have lst : (mark s.post a ++ [p])[s.post.length]'(by omega) = p := by
  have := get_new (l := mark s.post a) (p := p) (by omega)
  simp only [hM] at this
  exact this
 have tk : ∀ i (hi : i < s.post.length),Takes ((mark s.post a)[i]'(by omega)) p ↔ Takes s.post[i] p := fun i hi => by
  have x := hlike.each i hi
  unfold Takes
  rw [x.1,x.2.1]
 refine h.more n hlike fun i q => ?_
 rcases Nat.lt_or_ge i s.post.length with hi | hi
 ·
  have hk := h.link i hi
  refine ⟨?_,?_,?_⟩
  ·
   rw [old i hi,mark_get s.post a i hi]
   by_cases e : a = i
   ·
    subst e
    rw [if_pos rfl]
    refine ⟨fun _ => ⟨s.post.length,by omega,hi,by rw [lst]; exact ht⟩,fun _ => rfl⟩
   ·
    rw [if_neg e,hk.back]
    constructor
    ·
     rintro ⟨j,hj,hij,t⟩
     refine ⟨j,by omega,hij,?_⟩
     rw [old j hj]
     have := (hlike.takes hi hj).2 t
     rw [mark_get s.post a i hi,if_neg e] at this
     exact this
    ·
     rintro ⟨j,hj,hij,t⟩
     rcases Nat.lt_or_ge j s.post.length with q' | q'
     ·
      rw [old j q'] at t
      refine ⟨j,q',hij,(hlike.takes hi q').1 ?_⟩
      rw [mark_get s.post a i hi,if_neg e]
      exact t
     ·
      obtain rfl : j = s.post.length := by omega
      rw [lst] at t
      exact absurd (only i hi t).symm e
  ·
   intro j k hj hk' hij hik tj tk'
   rw [old i hi] at tj tk'
   have up : ∀ {j : Nat} (hj : j < (mark s.post a ++ [p]).length),Takes ((mark s.post a)[i]'(by omega)) ((mark s.post a ++ [p])[j]) → (∃ q : j < s.post.length,Takes s.post[i] s.post[j]) ∨ (j = s.post.length ∧ i = a) := fun {j} hj t => by
    rcases Nat.lt_or_ge j s.post.length with q' | q'
    ·
     rw [old j q'] at t
     exact .inl ⟨q',(hlike.takes hi q').1 t⟩
    ·
     obtain rfl : j = s.post.length := by omega
     rw [lst] at t
     exact .inr ⟨rfl,only i hi ((tk i hi).1 t)⟩
   rcases up hj tj with ⟨q1,t1⟩ | ⟨e1,e2⟩
   ·
    rcases up hk' tk' with ⟨q2,t2⟩ | ⟨e3,e4⟩
    · exact hk.one j k q1 q2 hij hik t1 t2
    ·
     subst e4
     exact absurd t1 (later j q1 hij)
   ·
    subst e2
    rcases up hk' tk' with ⟨q2,t2⟩ | ⟨e3,_⟩
    · exact absurd t2 (later k q2 hik)
    · omega
  ·
   intro hn
   rw [old i hi] at hn
   have hn' : ¬ Own s.post[i] := fun k => hn ((hlike.own hi).2 k)
   have e : ¬ a = i := fun k => by
    subst k
    exact hn' hown
   obtain ⟨hb,k,hki,h1,h2,h3,h4,h5⟩ := hk.of hn'
   have hkl : k < s.post.length := by omega
   have xk := hlike.each k hkl
   have xi := hlike.each i hi
   refine ⟨by rw [old i hi,mark_get s.post a i hi,if_neg e]; exact hb,k,hki,?_⟩
   rw [old i hi,old k hkl]
   refine ⟨(hlike.takes hkl hi).2 h1,(hlike.own hkl).2 h2,?_,?_,?_⟩
   ·
    rw [xk.2.2.1,xk.2.2.2.1,xk.2.2.2.2.1,xi.2.2.1,xi.2.2.2.1,xi.2.2.2.2.1]
    exact h3
   ·
    rw [xk.2.2.2.2.2.1]
    exact h4
   ·
    rw [xk.2.2.2.2.2.1,xi.2.2.2.2.2.1]
    exact h5
 ·
  obtain rfl : i = s.post.length := by omega
  refine ⟨?_,?_,?_⟩
  ·
   rw [lst,n.back]
   constructor
   ·
    intro e
    cases e
   ·
    rintro ⟨j,hj,hij,_⟩
    omega
  ·
   intro j k hj hk' hij
   omega
  ·
   intro _
   have xa := hlike.each a ha
   refine ⟨by rw [lst]; exact n.back,a,ha,?_⟩
   rw [lst,old a ha]
   refine ⟨(tk a ha).2 ht,(hlike.own ha).2 hown,?_,?_,?_⟩
   ·
    rw [xa.2.2.1,xa.2.2.2.1,xa.2.2.2.2.1]
    exact hd
   ·
    rw [xa.2.2.2.2.2.1]
    exact hE
   ·
    rw [xa.2.2.2.2.2.1]
    exact hT
end Go.Proofs.YtjpfpojbalepeaaGreat.Bl
namespace Go.Proofs.YtjpfpojbalepeaaGreat.Bl
open Vt (Rt)
theorem find_bp {rs : List Rt} (h : Vt.tableB rs = true) (c : ByteArray) (y m d : Int) : Sh.Right (Vt.find rs c y m d).1 := by
 have h0 : Sh.Right 0 := ⟨by omega,by omega⟩
 have hl : ∀ (l : List Rt) (acc : Int × Bool),Sh.Right acc.1 → (∀ r ∈ l,Vt.rowE r = 0) → Sh.Right (Vt.last c (Dt.days y m d) acc l).1 := by
  intro l
  induction l with
  | nil => intro acc h _; exact h
  | cons r l ih =>
   intro acc h hr
   unfold Vt.last
   apply ih
   ·
    split
    · exact (Vt.rowE_0.1 (hr r (by simp))).2.2
    · exact h
   · exact fun x hx => hr x (by simp [hx])
 unfold Vt.find
 split
 · exact hl rs (0,false) h0 ((Vt.table_iff rs).1 h).2.1
 · exact h0
def Fine (ps : List Pt.T) : Prop := ∀ p ∈ ps,Rn.name (txt p.cat) = true ∧ Sh.Right p.bp
theorem enter_fine {c : ByteArray} {bp n : Int} (hc : Rn.name (txt c) = true) (hb : Sh.Right bp) {l : List Pt.T} (h : Fine l) : Fine (Iv.enter c bp n l) := fun p hp => by
 refine ⟨?_,Iv.enter_ok hb (fun q hq => (h q hq).2) p hp⟩
 rcases Iv.enter_cats hp with e | ⟨a,ha,e⟩
 ·
  rw [e]
  exact hc
 ·
  rw [e]
  exact (h a ha).1
theorem line_name {rs : List Rt} {y m d : Int} {x : Ln.T} (h : Iv.lineE rs y m d x = 0) : Rn.name (txt x.category) = true := by
 unfold Iv.lineE at h
 split at h
 · omega
 ·
  split at h
  · omega
  ·
   rename_i q
   simpa using q
theorem go_fine {rs : List Rt} (ht : Vt.tableB rs = true) {y m d : Int} : ∀ {ls : List Ln.T} {ps : List Pt.T},Iv.goE rs y m d ls ps = 0 → Fine ps → Fine (Iv.goL rs y m d ls ps)
 | [],ps,_,h => h
 | x :: l,ps,he,h => by
  rw [Iv.goE] at he
  split at he
  ·
   rename_i q
   exact absurd he q
  ·
   rename_i q
   split at he
   · omega
   ·
    rw [Iv.goL]
    exact go_fine ht he (enter_fine (line_name (Decidable.not_not.1 q)) (find_bp ht _ _ _ _) h)
theorem up_0 : ∀ {l : List Pt.T} {N T : Int},Iv.upE l N T = 0 → Mn.Fit N → Mn.Fit T → (∀ p ∈ l,Sh.taxE p.net p.bp = 0) ∧ Mn.Fit (N + Iv.nets l) ∧ Mn.Fit (T + Iv.taxes l)
 | [],N,T,_,hN,hT => by
  refine ⟨by simp,?_,?_⟩
  ·
   rw [Iv.nets,Int.add_zero]
   exact hN
  ·
   rw [Iv.taxes,Int.add_zero]
   exact hT
 | p :: l,N,T,h,hN,hT => by
  have fit0 : ∀ {x : Int},Mn.err x = 0 → Mn.Fit x := fun {x} q => by
   unfold Mn.err at q
   split at q
   · assumption
   · omega
  rw [Iv.upE] at h
  split at h
  ·
   rename_i q
   exact absurd h q
  ·
   rename_i q1
   split at h
   · omega
   ·
    rename_i q2
    split at h
    · omega
    ·
     rename_i q3
     obtain ⟨h1,h2,h3⟩ := up_0 h (fit0 (Decidable.not_not.1 q2)) (fit0 (Decidable.not_not.1 q3))
     refine ⟨fun r hr => ?_,?_,?_⟩
     ·
      rcases List.mem_cons.1 hr with rfl | hr
      · exact Decidable.not_not.1 q1
      · exact h1 r hr
     ·
      rw [Iv.nets,← Int.add_assoc]
      exact h2
     ·
      rw [Iv.taxes,← Int.add_assoc]
      exact h3
theorem nets_taxed : ∀ l : List Pt.T,netsP (l.map Iv.taxed) = Iv.nets l
 | [] => rfl
 | p :: l => by
  rw [List.map_cons,netsP,Iv.nets,nets_taxed l]
  rfl
theorem taxes_taxed : ∀ l : List Pt.T,taxesP (l.map Iv.taxed) = Iv.taxes l
 | [] => rfl
 | p :: l => by
  rw [List.map_cons,taxesP,Iv.taxes,taxes_taxed l]
  rfl
theorem tot_zero {rs : List Rt} {y m d : Int} {ls : List Ln.T} (h : Iv.totE rs y m d ls = 0) : Iv.headE rs y m d ls = 0 ∧ Iv.goE rs y m d ls [] = 0 ∧ Iv.sumE (Iv.goL rs y m d ls []) = 0 ∧ Iv.totT rs y m d ls = Iv.sumT (Iv.goL rs y m d ls []) := by
 have ht : Iv.totT rs y m d ls = Iv.sumT (Iv.goL rs y m d ls []) := by
  unfold Iv.totT
  rw [if_pos h]
 unfold Iv.totE at h
 split at h
 ·
  rename_i q
  exact absurd h q
 ·
  rename_i q1
  split at h
  ·
   rename_i q
   exact absurd h q
  ·
   rename_i q2
   exact ⟨Decidable.not_not.1 q1,Decidable.not_not.1 q2,h,ht⟩
theorem head_zero {rs : List Rt} {y m d : Int} {ls : List Ln.T} (h : Iv.headE rs y m d ls = 0) : Vt.tableB rs = true ∧ Dt.rightB y m d = true ∧ ls.length ≤ 12 ∧ 0 < ls.length := by
 unfold Iv.headE at h
 split at h
 · omega
 ·
  rename_i h1
  split at h
  · omega
  ·
   rename_i h2
   split at h
   · omega
   ·
    split at h
    · omega
    · exact ⟨by simpa using h1,by simpa using h2,by omega,by omega⟩
theorem tot_right {rs : List Rt} {y m d : Int} {ls : List Ln.T} (h : Iv.totE rs y m d ls = 0) : TotR (Iv.totT rs y m d ls) := by
 obtain ⟨h1,h2,h3,h4⟩ := tot_zero h
 obtain ⟨t1,_,t3,t4⟩ := head_zero h1
 rw [h4]
 obtain ⟨ps,hps⟩ : ∃ ps,Iv.goL rs y m d ls [] = ps := ⟨_,rfl⟩
 have hf : Fine ps := hps ▸ go_fine t1 h2 (fun p hp => by cases hp)
 have hso : Iv.Sorted ps := hps ▸ Iv.goL_sorted rs y m d ls List.Pairwise.nil
 have hpos : 0 < ps.length := hps ▸ Iv.goL_pos rs y m d ls (.inl t4)
 have hlen : ps.length ≤ 12 := by
  have := Iv.goL_len rs y m d ls []
  rw [hps] at this
  simp at this
  omega
 rw [hps] at h3
 rw [hps]
 clear hps
 have z : Mn.Fit 0 := ⟨by omega,by omega⟩
 have hu : Iv.upE ps 0 0 = 0 := by
  unfold Iv.sumE at h3
  split at h3
  ·
   rename_i q
   exact absurd h3 q
  ·
   rename_i q
   exact Decidable.not_not.1 q
 have hg : Mn.err (Iv.nets ps + Iv.taxes ps) = 0 := by
  unfold Iv.sumE at h3
  rw [if_neg (by rw [hu]; simp)] at h3
  exact h3
 obtain ⟨u1,u2,u3⟩ := up_0 hu z z
 rw [Int.zero_add] at u2 u3
 unfold Iv.sumT
 refine ⟨?_,by rw [List.length_map]; exact hlen,?_,?_,(nets_taxed ps).symm,(taxes_taxed ps).symm,rfl,u2,u3,?_⟩
 ·
  intro e
  have := congrArg List.length e
  rw [List.length_map] at this
  simp at this
  rw [this] at hpos
  simp at hpos
 ·
  intro p hp
  obtain ⟨q,hq,rfl⟩ := List.mem_map.1 hp
  have a := hf q hq
  exact ⟨a.1,a.2.1,a.2.2,u1 q hq,rfl⟩
 · exact List.pairwise_map.2 hso
 ·
  unfold Mn.err at hg
  split at hg
  · assumption
  · omega
theorem nets_neg : ∀ l : List Pt.T,netsP (l.map Iv.negP) = -netsP l
 | [] => rfl
 | p :: l => by
  rw [List.map_cons,netsP,netsP,nets_neg l]
  show -p.net + _ = _
  omega
theorem taxes_neg : ∀ l : List Pt.T,taxesP (l.map Iv.negP) = -taxesP l
 | [] => rfl
 | p :: l => by
  rw [List.map_cons,taxesP,taxesP,taxes_neg l]
  show -p.tax + _ = _
  omega
theorem back_right {t : Iv.Tot} (h : TotR t) (he : Iv.backE t = 0) : TotR (Iv.back t) := by
 have fit0 : ∀ {x : Int},¬ Mn.err x ≠ 0 → Mn.Fit x := fun {x} q => by
  have q' := Decidable.not_not.1 q
  unfold Mn.err at q'
  split at q'
  · assumption
  · omega
 have hfit : Mn.Fit (-t.net) ∧ Mn.Fit (-t.tax) ∧ Mn.Fit (-t.gross) := by
  unfold Iv.backE at he
  split at he
  · omega
  ·
   rename_i q
   exact ⟨fit0 fun k => q (.inl k),fit0 fun k => q (.inr (.inl k)),fit0 fun k => q (.inr (.inr k))⟩
 unfold Iv.back
 refine ⟨?_,by rw [List.length_map]; exact h.few,?_,?_,?_,?_,?_,hfit⟩
 ·
  intro e
  have := congrArg List.length e
  rw [List.length_map] at this
  exact h.some (List.length_eq_zero_iff.1 this)
 ·
  intro p hp
  obtain ⟨q,hq,rfl⟩ := List.mem_map.1 hp
  obtain ⟨a1,a2,a3,a4,a5⟩ := h.each q hq
  have hn := Sh.tax_neg q.net q.bp
  exact ⟨a1,a2,a3,by show Sh.taxE (-q.net) q.bp = 0; rw [hn.2]; exact a4,by show Sh.taxV (-q.net) q.bp = -q.tax; rw [hn.1,a5]⟩
 · exact List.pairwise_map.2 h.so
 ·
  show -t.net = _
  rw [nets_neg,h.net]
 ·
  show -t.tax = _
  rw [taxes_neg,h.tax]
 ·
  show -t.gross = -t.net + -t.tax
  rw [h.gross]
  omega
end Go.Proofs.YtjpfpojbalepeaaGreat.Bl
namespace Go.Proofs.YtjpfpojbalepeaaGreat.Rp
open Go.RowKit
open Mem
structure T where
 why : Int
 num : Int
 gross : Int
def val (r : T) : Value := .agg #[.int .i64 r.why,.int .i64 r.num,.int .i64 r.gross]
def Short (r : T) : Prop := Fit r.why ∧ Fit r.num ∧ Fit r.gross
def box (w : World) (r : T) : World := w.alloc (.cells #[.int .i64 r.why,.int .i64 r.num,.int .i64 r.gross] 49)
def C (u : World) (b : Nat) (r : T) : Prop :=
 u.cell? ⟨b,0,none⟩ = some (.int .i64 r.why) ∧ u.cell? ⟨b,1,none⟩ = some (.int .i64 r.num) ∧ u.cell? ⟨b,2,none⟩ = some (.int .i64 r.gross)
theorem C.below {u v : World} {b : Nat} {r : T} (h : C u b r) (k : Below u.heap.size u v) : C v b r := by
 obtain ⟨h0,h1,h2⟩ := h
 have hl := cell_lt h0
 unfold C
 rw [(bcell k).1 _ _ hl,(bcell k).1 _ _ hl,(bcell k).1 _ _ hl]
 exact ⟨h0,h1,h2⟩
theorem c_box (w : World) (r : T) : C (box w r) w.heap.size r := by
 unfold box C
 simp [go_sem]
theorem box_size (w : World) (r : T) : (box w r).heap.size = w.heap.size + 1 := by
 unfold box
 simp
theorem below_own (w : World) (r : T) : Below w.heap.size w (box w r) := (Below.refl _ _).alloc (Nat.le_refl _) _
theorem boxed1 (w : World) (a : T) : ∃ W,w.alloc (.cells #[.int .i64 a.why,.int .i64 a.num,.int .i64 a.gross] 49) = W ∧ Below w.heap.size w W ∧ C W w.heap.size a :=
 ⟨_,rfl,below_own w a,c_box w a⟩
end Go.Proofs.YtjpfpojbalepeaaGreat.Rp
namespace Go.Proofs.YtjpfpojbalepeaaGreat.Bl
open Vt (Rt)
structure Cm where
 kind : Int
 ser : ByteArray
 lim : Int
 row : Rt
 y : Int
 m : Int
 d : Int
 lines : List Ln.T
 ofS : ByteArray
 ofN : Int
 sess : Int
structure Cl where
 sess : Int
 seq : Int
 cmd : Cm
def Ps.zero : Ps := ⟨.empty,0,0,0,0,Iv.Tot.zero,.empty,0,false⟩
instance (p : Ps) : Decidable (Own p) := inferInstanceAs (Decidable (p.ofS = .empty ∧ p.ofN = 0))
def pix (c : ByteArray) (n : Int) : List Ps → Nat
 | [] => 0
 | p :: l => if p.ser = c ∧ p.num = n then 0 else pix c n l + 1
theorem pix_le (c : ByteArray) (n : Int) : ∀ l,pix c n l ≤ l.length
 | [] => Nat.le_refl _
 | p :: l => by
  rw [pix,List.length_cons]
  have := pix_le c n l
  split <;> omega
theorem pix_hit {c : ByteArray} {n : Int} : ∀ {l : List Ps} (h : pix c n l < l.length),l[pix c n l].ser = c ∧ l[pix c n l].num = n
 | [],h => absurd h (Nat.not_lt_zero _)
 | p :: l,h => by
  by_cases q : p.ser = c ∧ p.num = n
  ·
   have e : pix c n (p :: l) = 0 := if_pos q
   simp only [e,List.getElem_cons_zero]
   exact q
  ·
   have e : pix c n (p :: l) = pix c n l + 1 := if_neg q
   simp only [e,List.getElem_cons_succ]
   exact pix_hit (by rw [e,List.length_cons] at h; omega)
theorem pix_none {c : ByteArray} {n : Int} : ∀ {l : List Ps},(∀ p ∈ l,¬ (p.ser = c ∧ p.num = n)) → pix c n l = l.length
 | [],_ => rfl
 | p :: l,h => by
  rw [pix,if_neg (h p (by simp)),pix_none fun q hq => h q (by simp [hq]),List.length_cons]
def old (s : St) (c : Cm) : Ps := (s.post[pix c.ofS c.ofN s.post]?).getD Ps.zero
theorem old_at {s : St} {c : Cm} (h : pix c.ofS c.ofN s.post < s.post.length) : old s c = s.post[pix c.ofS c.ofN s.post] := by
 unfold old
 rw [List.getElem?_eq_getElem h]
 rfl
def postE (s : St) (c : ByteArray) (t : Iv.Tot) : Int :=
 if Se.takeE s.ser c ≠ 0 then Se.takeE s.ser c else if 40 ≤ s.post.length then 14 else if Po.entrE t.parts ≠ 0 then Po.entrE t.parts else Po.entE s.book (Po.entrL t.gross t.parts)
theorem postE_0 {s : St} {c : ByteArray} {t : Iv.Tot} (h : postE s c t = 0) : Se.takeE s.ser c = 0 ∧ s.post.length < 40 ∧ Po.entrE t.parts = 0 ∧ Po.entE s.book (Po.entrL t.gross t.parts) = 0 := by
 unfold postE at h
 split at h
 ·
  rename_i q
  exact absurd h q
 ·
  rename_i h1
  split at h
  · omega
  ·
   rename_i h2
   split at h
   ·
    rename_i q
    exact absurd h q
   ·
    rename_i h3
    exact ⟨Decidable.not_not.1 h1,by omega,Decidable.not_not.1 h3,h⟩
def inv (s : St) (c : Cm) (t : Iv.Tot) (o : ByteArray) (n : Int) : Ps := ⟨c.ser,Se.takeN s.ser c.ser,c.y,c.m,c.d,t,o,n,false⟩
def credE (s : St) (c : Cm) : Int :=
 if s.post.length ≤ pix c.ofS c.ofN s.post then 11
 else if (old s c).back = true ∨ ¬ Own (old s c) then 12
 else if Dt.rightB c.y c.m c.d = false ∨ Dt.days c.y c.m c.d < Dt.days (old s c).y (old s c).m (old s c).d then 9
 else if Iv.backE (old s c).tot ≠ 0 then Iv.backE (old s c).tot
 else postE s c.ser (Iv.back (old s c).tot)
structure Cred (s : St) (c : Cm) : Prop where
 has : pix c.ofS c.ofN s.post < s.post.length
 back : (old s c).back = false
 own : Own (old s c)
 day : Dt.rightB c.y c.m c.d = true
 late : Dt.days (old s c).y (old s c).m (old s c).d ≤ Dt.days c.y c.m c.d
 backE : Iv.backE (old s c).tot = 0
 post : postE s c.ser (Iv.back (old s c).tot) = 0
theorem credE_0 {s : St} {c : Cm} (h : credE s c = 0) : Cred s c := by
 unfold credE at h
 split at h
 · omega
 ·
  rename_i h1
  split at h
  · omega
  ·
   rename_i h2
   split at h
   · omega
   ·
    rename_i h3
    split at h
    ·
     rename_i q
     exact absurd h q
    ·
     rename_i h4
     have h2a : (old s c).back = false := by
      cases q : (old s c).back
      · rfl
      · exact absurd (.inl q) h2
     have h2b : Own (old s c) := Decidable.not_not.1 fun q => h2 (.inr q)
     have h3a : Dt.rightB c.y c.m c.d = true := by
      cases q : Dt.rightB c.y c.m c.d
      · exact absurd (.inl q) h3
      · rfl
     have h3b : ¬ Dt.days c.y c.m c.d < Dt.days (old s c).y (old s c).m (old s c).d := fun q => h3 (.inr q)
     exact ⟨by omega,h2a,h2b,h3a,by omega,Decidable.not_not.1 h4,h⟩
def doE (s : St) (c : Cm) : Int :=
 if c.kind = 1 then Se.openE s.ser c.ser c.lim
 else if c.kind = 2 then Se.unE s.ser c.ser
 else if c.kind = 3 then Vt.putE s.tab c.row
 else if c.kind = 4 then (if Iv.totE s.tab c.y c.m c.d c.lines ≠ 0 then Iv.totE s.tab c.y c.m c.d c.lines else postE s c.ser (Iv.totT s.tab c.y c.m c.d c.lines))
 else if c.kind = 5 then credE s c
 else if c.kind = 7 then Sp.leaveE s.sess c.sess
 else if Se.ix c.ser s.ser < s.ser.length then 0 else 11
def doS (s : St) (c : Cm) : St :=
 if c.kind = 1 then ⟨s.tab,Se.openR s.ser c.ser c.lim,s.post,s.book,s.sess,s.next⟩
 else if c.kind = 2 then ⟨s.tab,Se.shutR s.ser c.ser,s.post,s.book,s.sess,s.next⟩
 else if c.kind = 3 then ⟨Vt.putR s.tab c.row,s.ser,s.post,s.book,s.sess,s.next⟩
 else if c.kind = 4 then more s s.post (inv s c (Iv.totT s.tab c.y c.m c.d c.lines) .empty 0)
 else if c.kind = 5 then more s (mark s.post (pix c.ofS c.ofN s.post)) (inv s c (Iv.back (old s c).tot) c.ofS c.ofN)
 else if c.kind = 7 then ⟨s.tab,s.ser,s.post,s.book,Sp.leaveR s.sess c.sess,s.next⟩
 else s
def doR (s : St) (c : Cm) : Rp.T :=
 if c.kind = 4 then ⟨0,Se.takeN s.ser c.ser,(Iv.totT s.tab c.y c.m c.d c.lines).gross⟩
 else if c.kind = 5 then ⟨0,Se.takeN s.ser c.ser,(Iv.back (old s c).tot).gross⟩
 else if c.kind = 8 then ⟨0,(Se.own s.ser c.ser).next - 1,Po.val Po.owedA s.book⟩
 else ⟨0,0,0⟩
def kindB (k : Int) : Bool := decide (1 ≤ k) && decide (k ≤ 8)
theorem kind_iff {k : Int} : kindB k = true ↔ 1 ≤ k ∧ k ≤ 8 := by simp [kindB]
def keepL (l : List Sn.T) (i q : Int) (r : Rp.T) : List Sn.T := if Sp.ix i l < l.length then l.set (Sp.ix i l) ⟨i,q,r.why,r.num,r.gross⟩ else l
def kept (s : St) (c : Cl) (r : Rp.T) : St := ⟨s.tab,s.ser,s.post,s.book,keepL s.sess c.sess c.seq r,s.next⟩
def joined (s : St) : St := ⟨s.tab,s.ser,s.post,s.book,s.sess ++ [Sp.new s.next],s.next + 1⟩
def told (x : Sn.T) : Rp.T := ⟨x.why,x.num,x.gross⟩
def apply (s : St) (c : Cl) : St × Rp.T :=
 if kindB c.cmd.kind = false then (s,⟨17,0,0⟩)
 else if c.cmd.kind = 6 then (if 8 ≤ s.sess.length ∨ 1099511627776 ≤ s.next then (s,⟨14,0,0⟩) else (joined s,⟨0,s.next,0⟩))
 else if Sp.lookE s.sess c.sess c.seq ≠ 0 then (s,⟨Sp.lookE s.sess c.sess c.seq,0,0⟩)
 else if Sp.lookO s.sess c.sess c.seq = true then (s,told (Sp.own s.sess c.sess))
 else if doE s c.cmd ≠ 0 then (kept s c ⟨doE s c.cmd,0,0⟩,⟨doE s c.cmd,0,0⟩)
 else (kept (doS s c.cmd) c (doR s c.cmd),doR s c.cmd)
inductive Step (s : St) (c : Cl) : St × Rp.T → Prop
 | kind (h : kindB c.cmd.kind = false) : Step s c (s,⟨17,0,0⟩)
 | full (hk : kindB c.cmd.kind = true) (h6 : c.cmd.kind = 6) (h : 8 ≤ s.sess.length ∨ 1099511627776 ≤ s.next) : Step s c (s,⟨14,0,0⟩)
 | join (hk : kindB c.cmd.kind = true) (h6 : c.cmd.kind = 6) (h : s.sess.length < 8) (h' : s.next < 1099511627776) : Step s c (joined s,⟨0,s.next,0⟩)
 | look (hk : kindB c.cmd.kind = true) (h6 : c.cmd.kind ≠ 6) (h : Sp.lookE s.sess c.sess c.seq ≠ 0) : Step s c (s,⟨Sp.lookE s.sess c.sess c.seq,0,0⟩)
 | again (hk : kindB c.cmd.kind = true) (h6 : c.cmd.kind ≠ 6) (h : Sp.lookE s.sess c.sess c.seq = 0) (ho : Sp.lookO s.sess c.sess c.seq = true) : Step s c (s,told (Sp.own s.sess c.sess))
 | bad (hk : kindB c.cmd.kind = true) (h6 : c.cmd.kind ≠ 6) (h : Sp.lookE s.sess c.sess c.seq = 0) (ho : Sp.lookO s.sess c.sess c.seq = false) (he : doE s c.cmd ≠ 0) : Step s c (kept s c ⟨doE s c.cmd,0,0⟩,⟨doE s c.cmd,0,0⟩)
 | good (hk : kindB c.cmd.kind = true) (h6 : c.cmd.kind ≠ 6) (h : Sp.lookE s.sess c.sess c.seq = 0) (ho : Sp.lookO s.sess c.sess c.seq = false) (he : doE s c.cmd = 0) : Step s c (kept (doS s c.cmd) c (doR s c.cmd),doR s c.cmd)
theorem apply_step (s : St) (c : Cl) : Step s c (apply s c) := by
 unfold apply
 split
 ·
  rename_i h
  exact .kind h
 ·
  rename_i hk
  have hk : kindB c.cmd.kind = true := by
   cases q : kindB c.cmd.kind
   · exact absurd q hk
   · rfl
  split
  ·
   rename_i h6
   split
   ·
    rename_i h
    exact .full hk h6 h
   ·
    rename_i h
    exact .join hk h6 (by omega) (by omega)
  ·
   rename_i h6
   split
   ·
    rename_i h
    exact .look hk h6 h
   ·
    rename_i h
    have h := Decidable.not_not.1 h
    split
    ·
     rename_i ho
     exact .again hk h6 h ho
    ·
     rename_i ho
     have ho : Sp.lookO s.sess c.sess c.seq = false := by
      cases q : Sp.lookO s.sess c.sess c.seq
      · rfl
      · exact absurd q ho
     split
     ·
      rename_i he
      exact .bad hk h6 h ho he
     ·
      rename_i he
      exact .good hk h6 h ho (Decidable.not_not.1 he)
theorem Right.did {s : St} (h : Right s) {c : Cm} (he : doE s c = 0) : Right (doS s c) := by
 unfold doE at he
 unfold doS
 split at he
 ·
  rename_i k
  rw [if_pos k]
  exact h.opened he
 ·
  rename_i k1
  rw [if_neg k1]
  split at he
  ·
   rename_i k
   rw [if_pos k]
   exact h.shut he
  ·
   rename_i k2
   rw [if_neg k2]
   split at he
   ·
    rename_i k
    rw [if_pos k]
    have := Vt.put_table he
    refine h.table ?_
    unfold Vt.putR
    rw [if_pos he]
    exact this
   ·
    rename_i k3
    rw [if_neg k3]
    split at he
    ·
     rename_i k
     rw [if_pos k]
     split at he
     ·
      rename_i q
      exact absurd he q
     ·
      rename_i q
      have q := Decidable.not_not.1 q
      obtain ⟨p1,p2,p3,p4⟩ := postE_0 he
      have hd : Dt.rightB c.y c.m c.d = true := by
       cases qd : Dt.rightB c.y c.m c.d
       ·
        exfalso
        unfold Iv.totE at q
        have hh : Iv.headE s.tab c.y c.m c.d c.lines = 9 := by
         unfold Iv.headE
         rw [if_neg (by rw [h.tab]; simp),if_pos qd]
        simp [hh] at q
       · rfl
      exact h.posted ⟨p1,rfl,p2,hd,tot_right q,p3,p4,rfl⟩ ⟨rfl,rfl⟩
    ·
     rename_i k4
     rw [if_neg k4]
     split at he
     ·
      rename_i k
      rw [if_pos k]
      have r := credE_0 he
      obtain ⟨p1,p2,p3,p4⟩ := postE_0 r.post
      have ea := old_at r.has
      obtain ⟨e1,e2⟩ := pix_hit r.has
      have hpos := h.pos _ r.has
      refine h.credited ⟨p1,rfl,p2,r.day,back_right ?_ r.backE,p3,p4,rfl⟩ r.has ⟨e1.symm,e2.symm⟩ (ea ▸ r.own) (ea ▸ r.back) ?_ (ea ▸ r.late) (ea ▸ r.backE) ?_
      ·
       rw [ea]
       exact h.tot _ (List.getElem_mem _)
      ·
       intro q
       have : c.ofN = 0 := q.2
       omega
      ·
       show Iv.back (old s c).tot = _
       rw [ea]
     ·
      rename_i k5
      rw [if_neg k5]
      split at he
      ·
       rename_i k
       rw [if_pos k]
       unfold Sp.leaveR
       rw [if_pos he]
       exact h.left _
      ·
       rename_i k7
       rw [if_neg k7]
       exact h
theorem did_sess {s : St} (h : Right s) {c : Cm} (he : doE s c = 0) : (doS s c).sess = if c.kind = 7 then Sp.cut s.sess (Sp.ix c.sess s.sess) else s.sess := by
 unfold doS
 by_cases k7 : c.kind = 7
 ·
  rw [if_pos k7,if_neg (by omega),if_neg (by omega),if_neg (by omega),if_neg (by omega),if_neg (by omega),if_pos k7]
  unfold doE at he
  rw [if_neg (by omega),if_neg (by omega),if_neg (by omega),if_neg (by omega),if_neg (by omega),if_pos k7] at he
  show Sp.leaveR _ _ = _
  unfold Sp.leaveR
  rw [if_pos he]
 ·
  rw [if_neg k7]
  repeat' split
  all_goals rfl
theorem Right.keeps {s t : St} (h : Right t) {c : Cl} (he : Sp.ix c.sess t.sess < t.sess.length → Sp.lookE t.sess c.sess c.seq = 0) (r : Rp.T) : Right (Bl.kept t c r) := by
 unfold Bl.kept keepL
 split
 ·
  rename_i q
  exact h.kept (he q) _ _ _
 · exact h
theorem did_look {s : St} (h : Right s) {c : Cl} (he : doE s c.cmd = 0) (hl : Sp.lookE s.sess c.sess c.seq = 0) (q : Sp.ix c.sess (doS s c.cmd).sess < (doS s c.cmd).sess.length) : Sp.lookE (doS s c.cmd).sess c.sess c.seq = 0 ∧ Sp.own (doS s c.cmd).sess c.sess = Sp.own s.sess c.sess := by
 obtain ⟨l1,l2,l3,l4⟩ := Sp.look_0 hl
 have hr := (h.did he).sess
 have hs := did_sess h he
 have ho : Sp.own (doS s c.cmd).sess c.sess = Sp.own s.sess c.sess := by
  rw [hs] at q ⊢
  split at q
  ·
   rename_i k7
   rw [if_pos k7]
   have k : Sp.ix c.cmd.sess s.sess < s.sess.length := by
    unfold doE at he
    rw [if_neg (by omega),if_neg (by omega),if_neg (by omega),if_neg (by omega),if_neg (by omega),if_pos k7] at he
    rcases Nat.lt_or_ge (Sp.ix c.cmd.sess s.sess) s.sess.length with q | q
    · exact q
    ·
     rw [(Sp.leave_none h.sess (by omega)).1] at he
     omega
   have := Sp.cut_own (((Sp.right_iff _).1 h.sess).2.2) k c.sess
   exact this.2 (this.1.1 q).1
  ·
   rename_i k7
   rw [if_neg k7]
 exact ⟨Sp.look_ok hr q l3 (by rw [ho]; exact l4),ho⟩
theorem Right.applied {s : St} (h : Right s) (c : Cl) : Right (Bl.apply s c).1 := by
 have key : ∀ {x : St × Rp.T},Step s c x → Right x.1 := by
  intro x hx
  cases hx with
  | kind => exact h
  | full => exact h
  | join hk h6 h8 hn => exact h.joined h8 hn
  | look => exact h
  | again => exact h
  | bad hk h6 hl ho he => exact Right.keeps (s := s) h (fun _ => hl) _
  | good hk h6 hl ho he => exact Right.keeps (s := s) (h.did he) (fun q => (did_look h he hl q).1) _
 exact key (apply_step s c)
def play : St → List Cl → St × List Rp.T
 | s,[] => (s,[])
 | s,c :: l => ((play (apply s c).1 l).1,(apply s c).2 :: (play (apply s c).1 l).2)
theorem Right.played : ∀ {l : List Cl} {s : St},Right s → Right (play s l).1
 | [],s,h => h
 | c :: l,s,h => Right.played (l := l) (h.applied c)
theorem play_app : ∀ (l m : List Cl) (s : St),play s (l ++ m) = ((play (play s l).1 m).1,(play s l).2 ++ (play (play s l).1 m).2)
 | [],m,s => rfl
 | c :: l,m,s => by
  rw [List.cons_append,play,play_app l m (apply s c).1]
  rfl
theorem play_len : ∀ (l : List Cl) (s : St),(play s l).2.length = l.length
 | [],s => rfl
 | c :: l,s => by
  rw [play,List.length_cons,List.length_cons,play_len l]
end Go.Proofs.YtjpfpojbalepeaaGreat.Bl
