import Derived.Deep.RegionHeld3
import Derived.Maps.AppendAt
import Derived.Laws.AppendOwnNone
import Derived.Laws.Rows
import Derived.Laws.CopyOwn
import Derived.Laws.MakeOwn
import Derived.Lib.QuietBelow
import Derived.RegionTactic
import Derived.ProofKit
import Derived.OpenShut
import Derived.ShutString
import Derived.ChangeOld
import Derived.SizedLaws
import Derived.Test.YtlmjeackfepllaaGreatDoorShelf
import Derived.Lib.Overlaps
import Derived.Lib.JoinLaws
import Derived.Lib.AppendZerosOnto
import Derived.Test.YtlmjeackfepllaaGreatDoorZWk1
import Derived.Test.YtlmjeackfepllaaGreatDoorZWk2
import Derived.Test.YtlmjeackfepllaaGreatDoorZWk3
namespace Go.Proofs.YtlmjeackfepllaaGreatDoor.Vt
theorem less_irrefl : ∀ l : List UInt8,Op.bytesLess l l = false
 | [] => rfl
 | a :: l => by
  have h := less_irrefl l
  rw [Bool.eq_false_iff]
  intro k
  rw [Dt.less_same,h] at k
  cases k
theorem less_trans : ∀ a b c : List UInt8,Op.bytesLess a b = true → Op.bytesLess b c = true → Op.bytesLess a c = true
 | _,_,[],_,h => by rw [Dt.less_nil] at h; cases h
 | _,[],_ :: _,h,_ => by rw [Dt.less_nil] at h; cases h
 | [],_ :: _,_ :: _,_,_ => rfl
 | x :: a,y :: b,z :: c,h,k => by
  rw [Dt.less_cons] at h k ⊢
  rcases h with h | ⟨rfl,h⟩
  ·
   rcases k with k | ⟨rfl,k⟩
   · exact .inl (UInt8.lt_trans h k)
   · exact .inl h
  ·
   rcases k with k | ⟨rfl,k⟩
   · exact .inl k
   · exact .inr ⟨rfl,less_trans a b c h k⟩
theorem less_tri : ∀ a b : List UInt8,Op.bytesLess a b = true ∨ a = b ∨ Op.bytesLess b a = true
 | [],[] => .inr (.inl rfl)
 | [],_ :: _ => .inl rfl
 | _ :: _,[] => .inr (.inr rfl)
 | x :: a,y :: b => by
  rw [Dt.less_cons,Dt.less_cons]
  have h3 : x.toNat < y.toNat ∨ x.toNat = y.toNat ∨ y.toNat < x.toNat := by omega
  rcases h3 with h | h | h
  · exact .inl (.inl (UInt8.lt_iff_toNat_lt.2 h))
  ·
   obtain rfl : x = y := UInt8.toNat_inj.1 h
   rcases less_tri a b with k | rfl | k
   · exact .inl (.inr ⟨rfl,k⟩)
   · exact .inr (.inl rfl)
   · exact .inr (.inr (.inr ⟨rfl,k⟩))
  · exact .inr (.inr (.inl (UInt8.lt_iff_toNat_lt.2 h)))
structure Rt where
 cat : ByteArray
 y : Int
 m : Int
 d : Int
 bp : Int
def dy (r : Rt) : Int := Dt.days r.y r.m r.d
def lt (a b : Rt) : Bool := if a.cat = b.cat then decide (dy a < dy b) else Op.bytesLess a.cat.toList b.cat.toList
theorem lt_same {a b : Rt} (h : a.cat = b.cat) : lt a b = decide (dy a < dy b) := if_pos h
theorem lt_other {a b : Rt} (h : a.cat ≠ b.cat) : lt a b = Op.bytesLess a.cat.toList b.cat.toList := if_neg h
theorem cat_ext {a b : ByteArray} (h : a.toList = b.toList) : a = b := txt_ext (by rw [← tl,← tl]; exact h)
theorem lt_trans {a b c : Rt} (h : lt a b = true) (k : lt b c = true) : lt a c = true := by
 by_cases e : a.cat = b.cat
 ·
  rw [lt_same e,decide_eq_true_iff] at h
  by_cases f : b.cat = c.cat
  ·
   rw [lt_same f,decide_eq_true_iff] at k
   rw [lt_same (e.trans f),decide_eq_true_iff]
   omega
  ·
   rw [lt_other f] at k
   rw [lt_other (by rw [e]; exact f),e]
   exact k
 ·
  rw [lt_other e] at h
  by_cases f : b.cat = c.cat
  ·
   rw [lt_other (by rw [← f]; exact e),← f]
   exact h
  ·
   rw [lt_other f] at k
   have t := less_trans _ _ _ h k
   rw [lt_other]
   · exact t
   ·
    intro g
    rw [g] at h
    have := less_trans _ _ _ h k
    rw [less_irrefl] at this
    cases this
theorem lt_irrefl (a : Rt) : lt a a = false := by
 rw [lt_same rfl]
 exact decide_eq_false (by omega)
theorem lt_asymm {a b : Rt} (h : lt a b = true) : lt b a = false := by
 rw [Bool.eq_false_iff]
 intro k
 have := lt_trans h k
 rw [lt_irrefl] at this
 cases this
theorem lt_tri (a b : Rt) : lt a b = true ∨ (a.cat = b.cat ∧ dy a = dy b) ∨ lt b a = true := by
 by_cases e : a.cat = b.cat
 ·
  rw [lt_same e,lt_same e.symm,decide_eq_true_iff,decide_eq_true_iff]
  have : dy a < dy b ∨ dy a = dy b ∨ dy b < dy a := by omega
  rcases this with h | h | h
  · exact .inl h
  · exact .inr (.inl ⟨e,h⟩)
  · exact .inr (.inr h)
 ·
  rw [lt_other e,lt_other fun k => e k.symm]
  rcases less_tri a.cat.toList b.cat.toList with h | h | h
  · exact .inl h
  · exact absurd (cat_ext h) e
  · exact .inr (.inr h)
def rowE (r : Rt) : Int := if Rn.name (txt r.cat) = false then 8 else if Dt.rightB r.y r.m r.d = false then 9 else if r.bp < 0 ∨ 100000 < r.bp then 10 else 0
theorem rowE_0 {r : Rt} : rowE r = 0 ↔ Rn.name (txt r.cat) = true ∧ Dt.rightB r.y r.m r.d = true ∧ 0 ≤ r.bp ∧ r.bp ≤ 100000 := by
 unfold rowE
 cases Rn.name (txt r.cat)
 · simp
 ·
  cases Dt.rightB r.y r.m r.d
  · simp
  · simp
theorem rowE_name {r : Rt} (h : Rn.name (txt r.cat) = false) : rowE r = 8 := if_pos h
theorem rowE_day {r : Rt} (h : Rn.name (txt r.cat) = true) (k : Dt.rightB r.y r.m r.d = false) : rowE r = 9 := by
 unfold rowE
 rw [if_neg (by rw [h]; simp),if_pos k]
theorem rowE_bp {r : Rt} (h : Rn.name (txt r.cat) = true) (k : Dt.rightB r.y r.m r.d = true) (l : r.bp < 0 ∨ 100000 < r.bp) : rowE r = 10 := by
 unfold rowE
 rw [if_neg (by rw [h]; simp),if_neg (by rw [k]; simp),if_pos l]
theorem rowE_bd (r : Rt) : 0 ≤ rowE r ∧ rowE r ≤ 10 := by
 unfold rowE
 split
 · omega
 ·
  split
  · omega
  · split <;> omega
def ok (p : Option Rt) (r : Rt) : Bool := decide (rowE r = 0) && (match p with | none => true | some q => lt q r)
def okAll : Option Rt → List Rt → Bool
 | _,[] => true
 | p,r :: l => ok p r && okAll (some r) l
def tableB (l : List Rt) : Bool := decide (l.length ≤ 24) && okAll none l
def Sorted (l : List Rt) : Prop := l.Pairwise fun a b => lt a b = true
theorem okAll_iff : ∀ (l : List Rt) (p : Option Rt),okAll p l = true ↔ (∀ r ∈ l,rowE r = 0) ∧ Sorted l ∧ (∀ q,p = some q → ∀ r ∈ l,lt q r = true)
 | [],p => by simp [okAll,Sorted]
 | a :: l,p => by
  have ih := okAll_iff l (some a)
  rw [okAll,Bool.and_eq_true,ih]
  unfold ok Sorted
  rw [Bool.and_eq_true,decide_eq_true_iff,List.pairwise_cons]
  constructor
  ·
   rintro ⟨⟨h1,h2⟩,h3,h4,h5⟩
   refine ⟨?_,⟨h5 a rfl,h4⟩,?_⟩
   ·
    intro r hr
    rcases List.mem_cons.1 hr with rfl | hr
    · exact h1
    · exact h3 r hr
   ·
    rintro q rfl r hr
    rcases List.mem_cons.1 hr with rfl | hr
    · exact h2
    · exact lt_trans h2 (h5 a rfl r hr)
  ·
   rintro ⟨h1,⟨h2,h3⟩,h4⟩
   refine ⟨⟨h1 a (List.mem_cons_self ..),?_⟩,fun r hr => h1 r (List.mem_cons_of_mem _ hr),h3,?_⟩
   ·
    cases p with
    | none => rfl
    | some q => exact h4 q rfl a (List.mem_cons_self ..)
   ·
    rintro q ⟨⟩ r hr
    exact h2 r hr
theorem table_iff (l : List Rt) : tableB l = true ↔ l.length ≤ 24 ∧ (∀ r ∈ l,rowE r = 0) ∧ Sorted l := by
 unfold tableB
 rw [Bool.and_eq_true,decide_eq_true_iff,okAll_iff]
 simp
theorem table_nil : tableB [] = true := rfl
theorem table_long {l : List Rt} (h : 24 < l.length) : tableB l = false := by
 unfold tableB
 rw [decide_eq_false (by omega)]
 rfl
theorem table_short {l : List Rt} (h : l.length ≤ 24) : tableB l = okAll none l := by
 unfold tableB
 rw [decide_eq_true h]
 rfl
def prevAt (l : List Rt) (k : Nat) : Option Rt := if k = 0 then none else l[k - 1]?
theorem okAll_at (l : List Rt) (k : Nat) (h : k < l.length) : okAll (prevAt l k) (l.drop k) = (ok (prevAt l k) l[k] && okAll (prevAt l (k + 1)) (l.drop (k + 1))) := by
 rw [List.drop_eq_getElem_cons h,okAll]
 congr 2
 unfold prevAt
 rw [if_neg (by omega),Nat.add_sub_cancel,List.getElem?_eq_getElem h]
def spot (r : Rt) : List Rt → Nat
 | [] => 0
 | a :: l => if lt a r = true then spot r l + 1 else 0
theorem spot_le (r : Rt) : ∀ l,spot r l ≤ l.length
 | [] => Nat.le_refl _
 | a :: l => by
  have := spot_le r l
  unfold spot
  split
  · simp; omega
  · simp
def putL (l : List Rt) (r : Rt) : List Rt := l.take (spot r l) ++ r :: l.drop (spot r l)
def taken (l : List Rt) (r : Rt) : Bool := match l[spot r l]? with | none => false | some a => !(lt r a)
def putE (l : List Rt) (r : Rt) : Int := if tableB l = false then 1 else if rowE r ≠ 0 then rowE r else if taken l r = true then 12 else if 24 ≤ l.length then 2 else 0
def putR (l : List Rt) (r : Rt) : List Rt := if putE l r = 0 then putL l r else []
theorem putE_0 {l : List Rt} {r : Rt} (h : putE l r = 0) : tableB l = true ∧ rowE r = 0 ∧ taken l r = false ∧ l.length < 24 := by
 unfold putE at h
 cases ht : tableB l
 · rw [if_pos ht] at h; omega
 ·
  rw [if_neg (by rw [ht]; simp)] at h
  by_cases hr : rowE r = 0
  ·
   rw [if_neg (by simpa using hr)] at h
   cases hk : taken l r
   ·
    rw [if_neg (by rw [hk]; simp)] at h
    by_cases hl : 24 ≤ l.length
    · rw [if_pos hl] at h; omega
    · exact ⟨rfl,hr,rfl,by omega⟩
   · rw [if_pos hk] at h; omega
  ·
   rw [if_pos hr] at h
   exact absurd h hr
theorem putL_cons {a : Rt} {l : List Rt} {r : Rt} (h : lt a r = true) : putL (a :: l) r = a :: putL l r := by
 have e : spot r (a :: l) = spot r l + 1 := if_pos h
 unfold putL
 rw [e]
 rfl
theorem putL_head {a : Rt} {l : List Rt} {r : Rt} (h : lt a r = false) : putL (a :: l) r = r :: a :: l := by
 have e : spot r (a :: l) = 0 := if_neg (by rw [h]; simp)
 unfold putL
 rw [e]
 rfl
theorem putL_perm (r : Rt) : ∀ l,(putL l r).Perm (r :: l)
 | [] => List.Perm.refl _
 | a :: l => by
  cases h : lt a r
  · rw [putL_head h]
  ·
   rw [putL_cons h]
   exact ((putL_perm r l).cons a).trans (List.Perm.swap r a l)
theorem putL_len (r : Rt) (l : List Rt) : (putL l r).length = l.length + 1 := by
 have := (putL_perm r l).length_eq
 simpa using this
theorem taken_cons {a : Rt} {l : List Rt} {r : Rt} (h : lt a r = true) : taken (a :: l) r = taken l r := by
 have e : spot r (a :: l) = spot r l + 1 := if_pos h
 unfold taken
 rw [e]
 rfl
theorem taken_head {a : Rt} {l : List Rt} {r : Rt} (h : lt a r = false) : taken (a :: l) r = !(lt r a) := by
 have e : spot r (a :: l) = 0 := if_neg (by rw [h]; simp)
 unfold taken
 rw [e]
 rfl
theorem putL_sorted (r : Rt) : ∀ l,Sorted l → taken l r = false → Sorted (putL l r)
 | [],_,_ => List.pairwise_singleton _ _
 | a :: l,h,k => by
  unfold Sorted at h
  rw [List.pairwise_cons] at h
  cases hl : lt a r
  ·
   rw [taken_head hl] at k
   have hra : lt r a = true := by simpa using k
   rw [putL_head hl]
   unfold Sorted
   rw [List.pairwise_cons,List.pairwise_cons]
   refine ⟨fun b hb => ?_,h⟩
   rcases List.mem_cons.1 hb with rfl | hb
   · exact hra
   · exact lt_trans hra (h.1 b hb)
  ·
   rw [taken_cons hl] at k
   rw [putL_cons hl]
   unfold Sorted
   rw [List.pairwise_cons]
   refine ⟨fun b hb => ?_,putL_sorted r l h.2 k⟩
   rcases List.mem_cons.1 ((putL_perm r l).mem_iff.1 hb) with rfl | hb
   · exact hl
   · exact h.1 b hb
theorem put_table {l : List Rt} {r : Rt} (h : putE l r = 0) : tableB (putL l r) = true := by
 obtain ⟨h1,h2,h3,h4⟩ := putE_0 h
 obtain ⟨k1,k2,k3⟩ := (table_iff l).1 h1
 refine (table_iff _).2 ⟨by rw [putL_len]; omega,fun b hb => ?_,putL_sorted r l k3 h3⟩
 rcases List.mem_cons.1 ((putL_perm r l).mem_iff.1 hb) with rfl | hb
 · exact h2
 · exact k2 b hb
def hit (c : ByteArray) (n : Int) (r : Rt) : Bool := decide (r.cat = c) && decide (dy r ≤ n)
def last (c : ByteArray) (n : Int) : Int × Bool → List Rt → Int × Bool
 | acc,[] => acc
 | acc,r :: l => last c n (if hit c n r = true then (r.bp,true) else acc) l
def find (l : List Rt) (c : ByteArray) (y m d : Int) : Int × Bool := if (tableB l && Dt.rightB y m d) = true then last c (Dt.days y m d) (0,false) l else (0,false)
theorem last_app (c : ByteArray) (n : Int) : ∀ (a b : List Rt) (acc : Int × Bool),last c n acc (a ++ b) = last c n (last c n acc a) b
 | [],_,_ => rfl
 | _ :: a,b,_ => last_app c n a b _
theorem last_none (c : ByteArray) (n : Int) : ∀ (l : List Rt) (acc : Int × Bool),(∀ r ∈ l,hit c n r = false) → last c n acc l = acc
 | [],_,_ => rfl
 | r :: l,acc,h => by
  rw [last,if_neg (by rw [h r (List.mem_cons_self ..)]; simp)]
  exact last_none c n l acc fun b hb => h b (List.mem_cons_of_mem _ hb)
theorem last_skip (c : ByteArray) (n : Int) (acc : Int × Bool) {r : Rt} (h : hit c n r = false) (a b : List Rt) : last c n acc (a ++ r :: b) = last c n acc (a ++ b) := by
 rw [last_app,last_app,last,if_neg (by rw [h]; simp)]
theorem find_right {l : List Rt} {c : ByteArray} {y m d : Int} (h : tableB l = true) (k : Dt.rightB y m d = true) : find l c y m d = last c (Dt.days y m d) (0,false) l := by
 unfold find
 rw [h,k]
 rfl
theorem find_not {l : List Rt} {c : ByteArray} {y m d : Int} (h : tableB l = false ∨ Dt.rightB y m d = false) : find l c y m d = (0,false) := by
 unfold find
 rw [if_neg]
 intro k
 rw [Bool.and_eq_true] at k
 rcases h with h | h
 · rw [h] at k; cases k.1
 · rw [h] at k; cases k.2
theorem find_other {l : List Rt} {r : Rt} (h : putE l r = 0) {c : ByteArray} (hc : r.cat ≠ c) (y m d : Int) : find (putL l r) c y m d = find l c y m d := by
 have h1 := put_table h
 have h2 := (putE_0 h).1
 cases k : Dt.rightB y m d
 · rw [find_not (.inr k),find_not (.inr k)]
 ·
  rw [find_right h1 k,find_right h2 k]
  unfold putL
  rw [last_skip _ _ _ (by unfold hit; rw [decide_eq_false hc]; rfl),List.take_append_drop]
theorem last_sorted (c : ByteArray) (n : Int) : ∀ (l : List Rt) (acc : Int × Bool) (r : Rt),Sorted l → r ∈ l → hit c n r = true → (∀ b ∈ l,hit c n b = true → dy b ≤ dy r) → last c n acc l = (r.bp,true)
 | a :: l,acc,r,hs,hm,hh,hb => by
  unfold Sorted at hs
  rw [List.pairwise_cons] at hs
  rw [last]
  rcases List.mem_cons.1 hm with rfl | hm
  ·
   rw [if_pos hh]
   refine last_none c n l _ fun b hbm => ?_
   rw [Bool.eq_false_iff]
   intro hbh
   have h1 := hs.1 b hbm
   have h2 := hb b (List.mem_cons_of_mem _ hbm) hbh
   unfold hit at hh hbh
   rw [Bool.and_eq_true,decide_eq_true_iff] at hh hbh
   rw [lt_same (hh.1.trans hbh.1.symm),decide_eq_true_iff] at h1
   omega
  · exact last_sorted c n l _ r hs.2 hm hh fun b hbm => hb b (List.mem_cons_of_mem _ hbm)
theorem find_own {l : List Rt} {r : Rt} (h : putE l r = 0) : find (putL l r) r.cat r.y r.m r.d = (r.bp,true) := by
 have h1 := put_table h
 obtain ⟨_,h2,_,_⟩ := putE_0 h
 rw [rowE_0] at h2
 rw [find_right h1 h2.2.1]
 refine last_sorted _ _ _ _ r ((table_iff _).1 h1).2.2 ((putL_perm r l).mem_iff.2 (List.mem_cons_self ..)) ?_ ?_
 ·
  unfold hit dy
  simp
 ·
  intro b _ hb
  unfold hit at hb
  rw [Bool.and_eq_true,decide_eq_true_iff,decide_eq_true_iff] at hb
  exact hb.2
def tab : List Rt → List Rt → List Rt
 | t,[] => t
 | t,r :: l => tab (if putE t r = 0 then putL t r else t) l
theorem tab_table : ∀ (l t : List Rt),tableB t = true → tableB (tab t l) = true
 | [],_,h => h
 | r :: l,t,h => by
  rw [tab]
  by_cases k : putE t r = 0
  ·
   rw [if_pos k]
   exact tab_table l _ (put_table k)
  ·
   rw [if_neg k]
   exact tab_table l _ h
theorem tab_len : ∀ (l t : List Rt),(tab t l).length ≤ t.length + l.length
 | [],_ => Nat.le_refl _
 | r :: l,t => by
  rw [tab]
  by_cases k : putE t r = 0
  ·
   rw [if_pos k]
   have := tab_len l (putL t r)
   rw [putL_len] at this
   simp only [List.length_cons]
   omega
  ·
   rw [if_neg k]
   have := tab_len l t
   simp only [List.length_cons]
   omega
theorem tab_perm : ∀ (l t : List Rt),(tab t l).length = t.length + l.length → (tab t l).Perm (l ++ t)
 | [],_,_ => List.Perm.refl _
 | r :: l,t,h => by
  rw [tab] at h ⊢
  by_cases k : putE t r = 0
  ·
   rw [if_pos k] at h ⊢
   have h1 := tab_perm l (putL t r) (by rw [putL_len,h,List.length_cons]; omega)
   refine h1.trans (((putL_perm r t).append_left l).trans ?_)
   exact List.perm_middle
  ·
   rw [if_neg k] at h
   have := tab_len l t
   rw [List.length_cons] at h
   omega
theorem tab_app : ∀ (l k t : List Rt),tab t (l ++ k) = tab (tab t l) k
 | [],_,_ => rfl
 | r :: l,k,t => by
  rw [List.cons_append,tab,tab]
  exact tab_app l k _
theorem tab_snoc (t l : List Rt) (r : Rt) : tab t (l ++ [r]) = if putE (tab t l) r = 0 then putL (tab t l) r else tab t l := by
 rw [tab_app]
 rfl
theorem tab_mem : ∀ (l t : List Rt) (r : Rt),r ∈ tab t l → r ∈ t ∨ r ∈ l
 | [],_,_,h => .inl h
 | a :: l,t,r,h => by
  rw [tab] at h
  by_cases k : putE t a = 0
  ·
   rw [if_pos k] at h
   rcases tab_mem l _ r h with h | h
   ·
    rcases List.mem_cons.1 ((putL_perm a t).mem_iff.1 h) with rfl | h
    · exact .inr (List.mem_cons_self ..)
    · exact .inl h
   · exact .inr (List.mem_cons_of_mem _ h)
  ·
   rw [if_neg k] at h
   rcases tab_mem l _ r h with h | h
   · exact .inl h
   · exact .inr (List.mem_cons_of_mem _ h)
theorem putR_mem {l : List Rt} {a r : Rt} (h : r ∈ putR l a) : r = a ∨ r ∈ l := by
 unfold putR at h
 by_cases k : putE l a = 0
 ·
  rw [if_pos k] at h
  exact List.mem_cons.1 ((putL_perm a l).mem_iff.1 h)
 ·
  rw [if_neg k] at h
  cases h
theorem sorted_eq : ∀ (a b : List Rt),Sorted a → Sorted b → a.Perm b → a = b
 | [],b,_,_,h => (List.nil_perm.1 h).symm
 | x :: a,[],_,_,h => by
  have := h.length_eq
  simp at this
 | x :: a,y :: b,hs,ht,h => by
  unfold Sorted at hs ht
  rw [List.pairwise_cons] at hs ht
  have e : x = y := by
   rcases List.mem_cons.1 (h.mem_iff.1 (List.mem_cons_self ..)) with e | hx
   · exact e
   ·
    rcases List.mem_cons.1 (h.mem_iff.2 (List.mem_cons_self ..)) with e | hy
    · exact e.symm
    ·
     have h1 := lt_asymm (hs.1 y hy)
     rw [ht.1 x hx] at h1
     cases h1
  subst e
  rw [sorted_eq a b hs.2 ht.2 (List.perm_cons x |>.1 h)]
end Go.Proofs.YtlmjeackfepllaaGreatDoor.Vt
set_option linter.unusedVariables false
namespace Go.Proofs.YtlmjeackfepllaaGreatDoor.Dk
structure F where
 name : ByteArray
 bs : List UInt8
 kept : Nat
structure D where
 fs : List F
 off : Bool
 left : Int
def lt (a b : ByteArray) : Bool := Op.bytesLess a.toList b.toList
theorem lt_trans {a b c : ByteArray} (h : lt a b = true) (k : lt b c = true) : lt a c = true := Vt.less_trans _ _ _ h k
theorem lt_irrefl (a : ByteArray) : lt a a = false := Vt.less_irrefl _
theorem lt_tri (a b : ByteArray) : lt a b = true ∨ a = b ∨ lt b a = true := by
 rcases Vt.less_tri a.toList b.toList with h | h | h
 · exact .inl h
 · exact .inr (.inl (Vt.cat_ext h))
 · exact .inr (.inr h)
theorem lt_ne {a b : ByteArray} (h : lt a b = true) : a ≠ b := by
 intro e
 rw [e,lt_irrefl] at h
 cases h
theorem lt_asymm {a b : ByteArray} (h : lt a b = true) : lt b a = false := by
 rw [Bool.eq_false_iff]
 intro k
 have := lt_trans h k
 rw [lt_irrefl] at this
 cases this
def Sorted (l : List F) : Prop := l.Pairwise fun a b => lt a.name b.name = true
def spot (s : ByteArray) : List F → Nat
 | [] => 0
 | f :: l => if lt f.name s = true then spot s l + 1 else 0
theorem spot_le (s : ByteArray) : ∀ l : List F,spot s l ≤ l.length
 | [] => Nat.le_refl _
 | f :: l => by
  have := spot_le s l
  rw [spot,List.length_cons]
  split <;> omega
theorem spot_iff (s : ByteArray) : ∀ (l : List F),Sorted l → ∀ i (hi : i < l.length),lt l[i].name s = true ↔ i < spot s l
 | f :: l,h,0,_ => by
  show lt f.name s = true ↔ _
  rw [spot]
  split
  ·
   rename_i k
   exact ⟨fun _ => Nat.succ_pos _,fun _ => k⟩
  ·
   rename_i k
   exact ⟨fun z => absurd z k,fun z => absurd z (Nat.not_lt_zero _)⟩
 | f :: l,h,i + 1,hi => by
  have hs := List.pairwise_cons.1 h
  have hi' : i < l.length := by simpa using hi
  have ih := spot_iff s l hs.2 i hi'
  show lt l[i].name s = true ↔ _
  rw [spot]
  split
  ·
   rw [ih]
   omega
  ·
   rename_i k
   constructor
   ·
    intro z
    exact absurd (lt_trans (hs.1 _ (List.getElem_mem hi')) z) k
   ·
    intro z
    exact absurd z (Nat.not_lt_zero _)
def has (s : ByteArray) (l : List F) : Bool := l.any fun f => decide (f.name = s)
theorem has_iff {s : ByteArray} {l : List F} : has s l = true ↔ ∃ i,∃ hi : i < l.length,l[i].name = s := by
 unfold has
 rw [List.any_eq_true]
 constructor
 ·
  rintro ⟨f,hf,h⟩
  obtain ⟨i,hi,rfl⟩ := List.getElem_of_mem hf
  exact ⟨i,hi,of_decide_eq_true h⟩
 ·
  rintro ⟨i,hi,h⟩
  exact ⟨l[i],List.getElem_mem hi,decide_eq_true h⟩
theorem has_spot {s : ByteArray} {l : List F} (hs : Sorted l) : has s l = true ↔ ∃ h : spot s l < l.length,l[spot s l].name = s := by
 rw [has_iff]
 constructor
 ·
  rintro ⟨i,hi,h⟩
  have e : spot s l = i := by
   have h1 := spot_iff s l hs i hi
   rw [h,lt_irrefl] at h1
   have h2 : ¬ i < spot s l := fun z => by cases h1.2 z
   rcases Nat.lt_or_ge (spot s l) i with k | k
   ·
    exfalso
    have hk : spot s l < l.length := by omega
    have h3 := spot_iff s l hs _ hk
    have h4 := List.pairwise_iff_getElem.1 hs (spot s l) i hk hi k
    rw [h] at h4
    exact absurd (h3.1 h4) (Nat.lt_irrefl _)
   · omega
  exact ⟨by omega,by simp only [e]; exact h⟩
 ·
  rintro ⟨h1,h2⟩
  exact ⟨_,h1,h2⟩
theorem spot_lt {s : ByteArray} {l : List F} (hs : Sorted l) (h : has s l = true) : spot s l < l.length := (has_spot hs).1 h |>.1
theorem spot_name {s : ByteArray} {l : List F} (hs : Sorted l) (h : has s l = true) : (l[spot s l]'(spot_lt hs h)).name = s := ((has_spot hs).1 h).2
theorem one_name {s : ByteArray} {l : List F} (hs : Sorted l) {i : Nat} (hi : i < l.length) (h : l[i].name = s) : i = spot s l := by
 have hh : has s l = true := has_iff.2 ⟨i,hi,h⟩
 have h1 := spot_lt hs hh
 have h2 := spot_name hs hh
 rcases Nat.lt_trichotomy i (spot s l) with k | k | k
 ·
  have := List.pairwise_iff_getElem.1 hs i (spot s l) hi h1 k
  rw [h,h2,lt_irrefl] at this
  cases this
 · exact k
 ·
  have := List.pairwise_iff_getElem.1 hs (spot s l) i h1 hi k
  rw [h,h2,lt_irrefl] at this
  cases this
theorem not_at {s : ByteArray} {l : List F} (hs : Sorted l) (h : has s l = false) {i : Nat} (hi : i < l.length) (k : spot s l ≤ i) : lt s l[i].name = true := by
 rcases lt_tri s l[i].name with z | z | z
 · exact z
 ·
  have := has_iff.2 ⟨i,hi,z.symm⟩
  rw [h] at this
  cases this
 ·
  have := (spot_iff s l hs i hi).1 z
  omega
def ins (f : F) (l : List F) : List F := l.take (spot f.name l) ++ f :: l.drop (spot f.name l)
def put (f : F) (l : List F) : List F := if has f.name l = true then l.set (spot f.name l) f else ins f l
def del (s : ByteArray) (l : List F) : List F := l.take (spot s l) ++ l.drop (spot s l + 1)
def own (s : ByteArray) (l : List F) : F := if has s l = true then (l[spot s l]?).getD ⟨s,[],0⟩ else ⟨s,[],0⟩
theorem own_at {s : ByteArray} {l : List F} (hs : Sorted l) (h : has s l = true) : own s l = l[spot s l]'(spot_lt hs h) := by
 unfold own
 rw [if_pos h,List.getElem?_eq_getElem (spot_lt hs h)]
 rfl
theorem own_no {s : ByteArray} {l : List F} (h : has s l = false) : own s l = ⟨s,[],0⟩ := if_neg (by rw [h]; exact Bool.false_ne_true)
theorem own_name {s : ByteArray} {l : List F} (hs : Sorted l) : (own s l).name = s := by
 cases h : has s l
 · rw [own_no h]
 ·
  rw [own_at hs h]
  exact spot_name hs h
theorem ins_sorted {f : F} {l : List F} (hs : Sorted l) (h : has f.name l = false) : Sorted (ins f l) := by
 unfold ins Sorted
 rw [List.pairwise_append]
 refine ⟨hs.sublist (List.take_sublist _ _),List.pairwise_cons.2 ⟨fun x hx => ?_,hs.sublist (List.drop_sublist _ _)⟩,fun x hx y hy => ?_⟩
 ·
  obtain ⟨i,hi,rfl⟩ := List.getElem_of_mem hx
  rw [List.length_drop] at hi
  rw [List.getElem_drop]
  exact not_at hs h (by omega) (by omega)
 ·
  obtain ⟨i,hi,rfl⟩ := List.getElem_of_mem hx
  rw [List.length_take] at hi
  rw [List.getElem_take]
  have h1 := (spot_iff f.name l hs i (by omega)).2 (by omega)
  rcases List.mem_cons.1 hy with rfl | hy
  · exact h1
  ·
   obtain ⟨j,hj,rfl⟩ := List.getElem_of_mem hy
   rw [List.length_drop] at hj
   rw [List.getElem_drop]
   exact List.pairwise_iff_getElem.1 hs i _ (by omega) (by omega) (by omega)
theorem set_sorted {f : F} {l : List F} (hs : Sorted l) {i : Nat} (hi : i < l.length) (h : l[i].name = f.name) : Sorted (l.set i f) := by
 unfold Sorted
 rw [List.pairwise_iff_getElem]
 intro a b ha hb hab
 rw [List.length_set] at ha hb
 have h1 := List.pairwise_iff_getElem.1 hs a b ha hb hab
 rw [List.getElem_set,List.getElem_set]
 by_cases e1 : i = a
 ·
  subst e1
  rw [if_pos rfl,if_neg (by omega)]
  rw [h] at h1
  exact h1
 ·
  rw [if_neg e1]
  by_cases e2 : i = b
  ·
   subst e2
   rw [if_pos rfl]
   rw [h] at h1
   exact h1
  ·
   rw [if_neg e2]
   exact h1
theorem put_sorted {f : F} {l : List F} (hs : Sorted l) : Sorted (put f l) := by
 unfold put
 split
 ·
  rename_i h
  exact set_sorted hs (spot_lt hs h) (spot_name hs h)
 ·
  rename_i h
  exact ins_sorted hs (Bool.eq_false_iff.2 h)
theorem del_sorted {s : ByteArray} {l : List F} (hs : Sorted l) : Sorted (del s l) := by
 unfold del
 have e : (l.take (spot s l) ++ l.drop (spot s l + 1)).Sublist l := by
  conv => rhs; rw [← List.take_append_drop (spot s l) l]
  refine List.Sublist.append (List.Sublist.refl _) ?_
  rw [← List.drop_drop]
  exact List.drop_sublist _ _
 exact hs.sublist e
def nameOk (s : ByteArray) : Bool := decide (1 ≤ s.size ∧ s.size ≤ 24) && (txt s).all fun c => decide (33 ≤ c.toNat ∧ c.toNat ≤ 126)
def total : List F → Nat
 | [] => 0
 | f :: l => f.bs.length + total l
theorem total_app (l m : List F) : total (l ++ m) = total l + total m := by
 induction l with
 | nil => simp [total]
 | cons f l ih => rw [List.cons_append,total,total,ih]; omega
theorem total_mem {f : F} {l : List F} (h : f ∈ l) : f.bs.length ≤ total l := by
 induction l with
 | nil => cases h
 | cons g l ih =>
  rw [total]
  rcases List.mem_cons.1 h with rfl | h
  · omega
  ·
   have := ih h
   omega
theorem total_set {l : List F} {i : Nat} (hi : i < l.length) (f : F) : total (l.set i f) + l[i].bs.length = total l + f.bs.length := by
 have h1 : l = l.take i ++ l[i] :: l.drop (i + 1) := by rw [← List.drop_eq_getElem_cons hi,List.take_append_drop]
 have h2 : l.set i f = l.take i ++ f :: l.drop (i + 1) := List.set_eq_take_append_cons_drop.trans (if_pos hi)
 have e1 : total l = total (l.take i ++ l[i] :: l.drop (i + 1)) := congrArg total h1
 rw [h2,e1,total_app,total_app,total,total]
 omega
theorem total_ins (f : F) (l : List F) : total (ins f l) = total l + f.bs.length := by
 unfold ins
 have e1 : total l = total (l.take (spot f.name l) ++ l.drop (spot f.name l)) := congrArg total (List.take_append_drop _ _).symm
 rw [e1,total_app,total_app,total]
 omega
theorem total_del {s : ByteArray} {l : List F} (h : spot s l < l.length) : total (del s l) + l[spot s l].bs.length = total l := by
 unfold del
 have e1 : total l = total (l.take (spot s l) ++ l[spot s l] :: l.drop (spot s l + 1)) := by rw [← List.drop_eq_getElem_cons h,List.take_append_drop]
 rw [e1,total_app,total_app,total]
 omega
structure Ok (d : D) : Prop where
 sorted : Sorted d.fs
 kept : ∀ f ∈ d.fs,f.kept ≤ f.bs.length
 room : total d.fs ≤ 4194304
 names : ∀ f ∈ d.fs,f.name.size ≤ 24
 left : -1 ≤ d.left ∧ d.left ≤ 9223372036854775807
def new : D := ⟨[],false,-1⟩
theorem ok_new : Ok new := ⟨List.Pairwise.nil,fun f h => (by cases h),(by show (0 : Nat) ≤ _; omega),fun f h => (by cases h),⟨by show (-1 : Int) ≤ -1; omega,by show (-1 : Int) ≤ _; omega⟩⟩
def dec (x : Int) : Int := if 0 < x then x - 1 else x
def spent (d : D) : D := ⟨d.fs,d.off,dec d.left⟩
def down (d : D) : D := ⟨d.fs,true,d.left⟩
def with' (d : D) (fs : List F) : D := ⟨fs,d.off,dec d.left⟩
def appD (d : D) (s : ByteArray) (p : List UInt8) : Int × D :=
 if d.off = true then (18,d) else if nameOk s = false then (19,d) else if 4194304 < total d.fs + p.length then (14,d) else if d.left = 0 then (18,down d) else
 (0,with' d (put ⟨s,(own s d.fs).bs ++ p,(own s d.fs).kept⟩ d.fs))
def syncD (d : D) (s : ByteArray) : Int × D :=
 if d.off = true then (18,d) else if has s d.fs = false then (11,d) else if d.left = 0 then (18,down d) else
 (0,with' d (put ⟨s,(own s d.fs).bs,(own s d.fs).bs.length⟩ d.fs))
def cutD (d : D) (s : ByteArray) (n : Int) : Int × D :=
 if d.off = true then (18,d) else if has s d.fs = false then (11,d) else if n < 0 ∨ ((own s d.fs).bs.length : Int) < n then (1,d) else if d.left = 0 then (18,down d) else
 (0,with' d (put ⟨s,(own s d.fs).bs.take n.toNat,min (own s d.fs).kept n.toNat⟩ d.fs))
def renD (d : D) (s t : ByteArray) : Int × D :=
 if d.off = true then (18,d) else if nameOk t = false then (19,d) else if has s d.fs = false then (11,d) else if d.left = 0 then (18,down d) else
 (0,with' d (put ⟨t,(own s d.fs).bs,(own s d.fs).kept⟩ (del s d.fs)))
def remD (d : D) (s : ByteArray) : Int × D :=
 if d.off = true then (18,d) else if has s d.fs = false then (11,d) else if d.left = 0 then (18,down d) else (0,with' d (del s d.fs))
def armD (d : D) (n : Int) : D := ⟨d.fs,d.off,if n < 0 then -1 else n⟩
def flip (b : List UInt8) : List UInt8 := b.set (b.length - 1) (b.getLast?.getD 0 ^^^ 255)
def tear (f : F) (p : Nat) : F :=
 let u := f.bs.length - f.kept
 let k := p % (u + 1)
 let b := f.bs.take (f.kept + k)
 let c := if 0 < k ∧ p / (u + 1) % 2 = 1 then flip b else b
 ⟨f.name,c,c.length⟩
def pick (l : List Int) (i : Nat) : Nat := ((l[i]?).getD 0).toNat
def crashD (d : D) (picks : List Int) : D := ⟨d.fs.mapIdx fun i f => tear f (pick picks i),false,-1⟩
theorem dec_ok {x : Int} (h : -1 ≤ x ∧ x ≤ 9223372036854775807) : -1 ≤ dec x ∧ dec x ≤ 9223372036854775807 := by
 unfold dec
 split <;> omega
end Go.Proofs.YtlmjeackfepllaaGreatDoor.Dk
namespace Go.Proofs.YtlmjeackfepllaaGreatDoor.Fl
open Go.RowKit
open Mem
structure T where
 name : ByteArray
 bytes : Sl
 kept : Int
def Short (r : T) : Prop := r.name.size ≤ 140737488355328 ∧ Fit r.kept
def box (w : World) (r : T) : World := w.alloc (.cells #[.string r.name,.slice r.bytes.ao r.bytes.n r.bytes.cap,.int .i64 r.kept] 90)
def C (u : World) (b : Nat) (r : T) : Prop :=
 u.cell? ⟨b,0,none⟩ = some (.string r.name) ∧ u.cell? ⟨b,1,none⟩ = some (.slice r.bytes.ao r.bytes.n r.bytes.cap) ∧ u.cell? ⟨b,2,none⟩ = some (.int .i64 r.kept)
theorem C.below {u v : World} {b : Nat} {r : T} (h : C u b r) (k : Below u.heap.size u v) : C v b r := by
 obtain ⟨h0,h1,h2⟩ := h
 have hl := cell_lt h0
 unfold C
 rw [(bcell k).1 _ _ hl,(bcell k).1 _ _ hl,(bcell k).1 _ _ hl]
 exact ⟨h0,h1,h2⟩
theorem c_box (w : World) (r : T) : C (box w r) w.heap.size r := by
 unfold box C
 simp [go_sem]
theorem box_size (w : World) (r : T) : (box w r).heap.size = w.heap.size + 1 := by
 unfold box
 simp
theorem below_own (w : World) (r : T) : Below w.heap.size w (box w r) := (Below.refl _ _).alloc (Nat.le_refl _) _
theorem boxed1 (w : World) (a : T) : ∃ W,w.alloc (.cells #[.string a.name,.slice a.bytes.ao a.bytes.n a.bytes.cap,.int .i64 a.kept] 90) = W ∧ Below w.heap.size w W ∧ C W w.heap.size a :=
 ⟨_,rfl,below_own w a,c_box w a⟩
theorem boxed2 (w : World) (a b : T) : ∃ W,(w.alloc (.cells #[.string a.name,.slice a.bytes.ao a.bytes.n a.bytes.cap,.int .i64 a.kept] 90)).alloc (.cells #[.string b.name,.slice b.bytes.ao b.bytes.n b.bytes.cap,.int .i64 b.kept] 90) = W ∧
  Below w.heap.size w W ∧ C W w.heap.size a ∧ C W (w.heap.size + 1) b := by
 refine ⟨_,rfl,((below_own w a).trans ((below_own (box w a) b).mono (below_own w a).size)),(c_box w a).below (below_own _ b),?_⟩
 have h := c_box (box w a) b
 rw [box_size] at h
 exact h
end Go.Proofs.YtlmjeackfepllaaGreatDoor.Fl
namespace Go.Proofs.YtlmjeackfepllaaGreatDoor.Fl
open Go.RowKit
open Mem
structure At (u : World) (b o : Nat) (r : T) : Prop where
 c0 : u.cell? ⟨b,o,none⟩ = some (.string r.name)
 c1 : u.cell? ⟨b,o + 1,none⟩ = some (.slice r.bytes.ao r.bytes.n r.bytes.cap)
 c2 : u.cell? ⟨b,o + 2,none⟩ = some (.int .i64 r.kept)
theorem At.below {u v : World} {b o : Nat} {r : T} (h : At u b o r) (k : Below u.heap.size u v) : At v b o r := by
 have hl := cell_lt h.c0
 exact ⟨by rw [(bcell k).1 _ _ hl]; exact h.c0,by rw [(bcell k).1 _ _ hl]; exact h.c1,by rw [(bcell k).1 _ _ hl]; exact h.c2⟩
def Seg (w : World) (ao : Option Addr) (rs : List T) : Prop := rs = [] ∨ ∃ b off,ao = some ⟨b,off,none⟩ ∧ ∀ (k : Nat) (hk : k < rs.length),At w b (off + k * 3) rs[k]
theorem Seg.below {w v : World} {ao : Option Addr} {rs : List T} (h : Seg w ao rs) (k : Below w.heap.size w v) : Seg v ao rs := by
 rcases h with h | ⟨b,off,e,h⟩
 · exact .inl h
 · exact .inr ⟨b,off,e,fun i hi => (h i hi).below k⟩
structure Ls (w : World) (ao : Option Addr) (n cap : Nat) (rs : List T) : Prop where
 len : n = rs.length
 fits : n ≤ cap
 reach : cap ≤ 9223372036854775807
 nil : ao = none → cap = 0
 seg : Seg w ao rs
 short : ∀ r ∈ rs,Short r
theorem Ls.below {w v : World} {ao : Option Addr} {n cap : Nat} {rs : List T} (h : Ls w ao n cap rs) (k : Below w.heap.size w v) : Ls v ao n cap rs :=
 ⟨h.len,h.fits,h.reach,h.nil,h.seg.below k,h.short⟩
theorem Ls.at {w : World} {ao : Option Addr} {n cap : Nat} {rs : List T} (h : Ls w ao n cap rs) (hn : 0 < n) : ∃ b off,ao = some ⟨b,off,none⟩ := by
 rcases h.seg with e | ⟨b,off,e,_⟩
 ·
  have := h.len
  rw [e] at this
  simp at this
  omega
 · exact ⟨b,off,e⟩
theorem Ls.row {w : World} {b off n cap : Nat} {rs : List T} (h : Ls w (some ⟨b,off,none⟩) n cap rs) (k : Nat) (hk : k < rs.length) : At w b (off + k * 3) rs[k] := by
 rcases h.seg with e | ⟨b',off',e,hs⟩
 ·
  subst e
  simp at hk
 ·
  cases e
  exact hs k hk
theorem ls_nil (w : World) : Ls w none 0 0 [] := ⟨rfl,Nat.le_refl _,by omega,fun _ => rfl,.inl rfl,by simp⟩
theorem und : Tryz.prog.underlying 74 = some (.slice (Tryz.prog.elem 74)) := by kernel_rfl
theorem size (u : World) : (sizeOf (Tryz.prog.elem 74)).run Tryz.prog u = .ok 3 u := by
 have h : (Tryz.prog.info? (Tryz.prog.elem 74)).map (·.size) = some 3 := by kernel_rfl
 obtain ⟨i,hi,hs⟩ := Option.map_eq_some_iff.1 h
 simp [sizeOf,typeInfo,hi,hs]
theorem Ls.to {w : World} {ao : Option Addr} {n cap : Nat} {rs : List T} (h : Ls w ao n cap rs) (k : Nat) (hk : k ≤ n) :
  (∀ u,(Instr.slice 74 (.slice ao n cap) none (some (.int .i64 (k : Int))) none).run Tryz.prog u = .ok (.slice ao k cap) u) ∧ Ls w ao k cap (rs.take k) := by
 have hl := h.len
 have hf := h.fits
 refine ⟨fun u => ?_,⟨by rw [List.length_take]; omega,by omega,h.reach,h.nil,?_,fun r hr => h.short r (List.mem_of_mem_take hr)⟩⟩
 ·
  rw [run_slice_h u 74 ao n cap und .i64 k (by omega) (by omega),size]
  have e : Option.map (fun x : Addr => x.add 0) ao = ao := by cases ao <;> simp [Addr.add]
  simp [Result.andThen,sliced,e]
 ·
  rcases h.seg with e | ⟨b,off,e,hc⟩
  · exact .inl (by rw [e]; simp)
  ·
   refine .inr ⟨b,off,e,fun j hj => ?_⟩
   rw [List.length_take] at hj
   rw [List.getElem_take]
   exact hc j (by omega)
theorem Ls.from {w : World} {ao : Option Addr} {n cap : Nat} {rs : List T} (h : Ls w ao n cap rs) (k : Nat) (hk : k ≤ n) :
  ∃ ao2 cap2,(∀ u,(Instr.slice 74 (.slice ao n cap) (some (.int .i64 (k : Int))) none none).run Tryz.prog u = .ok (.slice ao2 (n - k) cap2) u) ∧ Ls w ao2 (n - k) cap2 (rs.drop k) := by
 have hl := h.len
 have hf := h.fits
 refine ⟨if cap = k then ao else ao.map (·.add (k * 3)),cap - k,fun u => ?_,⟨by rw [List.length_drop]; omega,by omega,by have := h.reach; omega,?_,?_,fun r hr => h.short r (List.mem_of_mem_drop hr)⟩⟩
 ·
  rw [run_slice_l u 74 ao n cap und .i64 k (by omega) (by omega),size]
  simp [Result.andThen,sliced]
 ·
  by_cases e : cap = k
  · omega
  ·
   rw [if_neg e]
   cases ao with
   | none => have := h.nil rfl; omega
   | some a => exact fun k => by cases k
 ·
  by_cases hkn : k = n
  · exact .inl (List.drop_eq_nil_of_le (by omega))
  ·
   rcases h.seg with e | ⟨b,off,rfl,hc⟩
   · exact .inl (by rw [e]; simp)
   ·
    refine .inr ⟨b,off + k * 3,?_,fun j hj => ?_⟩
    ·
     rw [if_neg (by omega)]
     unfold Addr.add
     simp only [Option.map_some,Option.some.injEq]
     split
     ·
      rename_i e
      rw [e]
      rfl
     · rfl
    ·
     rw [List.length_drop] at hj
     rw [List.getElem_drop,show off + k * 3 + j * 3 = off + (k + j) * 3 by omega]
     exact hc (k + j) (by omega)
end Go.Proofs.YtlmjeackfepllaaGreatDoor.Fl
namespace Go.Proofs.YtlmjeackfepllaaGreatDoor.Fl
open Go.RowKit
open Mem
def rv (r : T) : List Value := [.string r.name,.slice r.bytes.ao r.bytes.n r.bytes.cap,.int .i64 r.kept]
theorem rv_len (r : T) : (rv r).length = 3 := rfl
theorem flat_len : ∀ rs : List T,(rs.flatMap rv).length = rs.length * 3
 | [] => rfl
 | r :: l => by
  rw [List.flatMap_cons,List.length_append,rv_len,flat_len l,List.length_cons]
  omega
theorem flat_at : ∀ (rs : List T) (k p : Nat) (hk : k < rs.length),p < 3 → (rs.flatMap rv)[k * 3 + p]? = (rv rs[k])[p]?
 | r :: l,0,p,_,hp => by
  rw [List.flatMap_cons,List.getElem?_append_left (by rw [rv_len]; omega),Nat.zero_mul,Nat.zero_add]
  rfl
 | r :: l,k + 1,p,hk,hp => by
  rw [List.flatMap_cons,List.getElem?_append_right (by rw [rv_len]; omega),rv_len,show (k + 1) * 3 + p - 3 = k * 3 + p by omega]
  exact flat_at l k p (by simpa using hk) hp
theorem one_cell (rs : List T) : ∀ v ∈ rs.flatMap rv,v.oneCell' = true := by
 intro v hv
 obtain ⟨r,_,h⟩ := List.mem_flatMap.1 hv
 unfold rv at h
 simp only [List.mem_cons,List.not_mem_nil,or_false] at h
 rcases h with rfl | rfl | rfl <;> rfl
theorem news_of {w : World} {b off : Nat} {rs : List T} (h : ∀ (k : Nat) (hk : k < rs.length),At w b (off + k * 3) rs[k]) (j : Nat) (u : Value) (hu : (rs.flatMap rv)[j]? = some u) : w.cell? ((⟨b,off,none⟩ : Addr).add j) = some u := by
 have hj : j < (rs.flatMap rv).length := by
  obtain ⟨hj,_⟩ := List.getElem?_eq_some_iff.1 hu
  exact hj
 rw [flat_len] at hj
 obtain ⟨k,p,rfl,hp⟩ : ∃ k p,j = k * 3 + p ∧ p < 3 := ⟨j / 3,j % 3,by omega,by omega⟩
 have hk : k < rs.length := by omega
 rw [flat_at rs k p hk hp] at hu
 have ha : (⟨b,off,none⟩ : Addr).add (k * 3 + p) = ⟨b,off + k * 3 + p,none⟩ := by
  unfold Addr.add
  split
  ·
   rename_i e
   simp only [Addr.mk.injEq,true_and,and_true]
   omega
  ·
   simp only [Addr.mk.injEq,true_and,and_true]
   omega
 rw [ha]
 obtain ⟨c0,c1,c2⟩ := h k hk
 have hp' : p = 0 ∨ p = 1 ∨ p = 2 := by omega
 unfold rv at hu
 rcases hp' with rfl | rfl | rfl
 all_goals simp at hu
 all_goals subst hu
 · exact c0
 · exact c1
 · exact c2
def Own (w : World) (B : Nat) (v : Value) (xs : List T) : Prop := w.ownsRow B 90 3 v xs.length (xs.flatMap rv)
theorem own_nil (w : World) (B : Nat) : Own w B (.slice none 0 0) [] := ⟨rfl,.inl ⟨rfl,rfl⟩⟩
theorem own_ls {w : World} {B : Nat} {v : Value} {xs : List T} (h : Own w B v xs) (hs : ∀ r ∈ xs,Short r) : ∃ ao cap,v = .slice ao xs.length cap ∧ Ls w ao xs.length cap xs ∧ (∀ ad,ao = some ad → ∃ g,ad = ⟨g,0,none⟩ ∧ B ≤ g) := by
 rcases h.2 with ⟨h',h2⟩ | ⟨g,cap,cur,h',hb,hg,hnc,hcm,hcs,htake⟩
 ·
  have e : xs = [] := List.length_eq_zero_iff.1 h2
  subst e
  exact ⟨none,0,h',⟨rfl,Nat.le_refl _,by omega,fun _ => rfl,.inl rfl,hs⟩,fun ad k => by cases k⟩
 ·
  refine ⟨some ⟨g,0,none⟩,cap,h',⟨rfl,hnc,hcm,fun k => (by cases k),.inr ⟨g,0,rfl,fun k hk => ?_⟩,hs⟩,fun ad k => by cases k; exact ⟨g,rfl,hb⟩⟩
  have hcell : ∀ p,p < 3 → w.cell? ⟨g,0 + k * 3 + p,none⟩ = (rv xs[k])[p]? := by
   intro p hp
   rw [Nat.zero_add,cell_of_row w g _ _ _ _ hg,← flat_at xs k p hk hp,← htake,List.getElem?_take_of_lt (by omega)]
   simp
  exact ⟨hcell 0 (by omega),hcell 1 (by omega),hcell 2 (by omega)⟩
def zero : T := ⟨.empty,⟨none,0,0⟩,0⟩
def zeroV : Value := .agg #[.string .empty,.slice none 0 0,.int .i64 0]
theorem info : (Tryz.prog.info? 90).map (fun i => (i.zero,i.size,i.bytes)) = some (some zeroV,3,48) := by kernel_rfl
theorem wp_append {o : Oper} {a : Act} {K : Act → World → Prop} {Q : Exit → Act → World → Prop} (w : World) (s x : Operand)
  (ho : o.op = .call { callee := .builtin .append,args := #[s,x],argTypes := #[74,74] })
  (B : Nat) (v : Value) (xs : List T) (hs : a.eval s = v) (hown : Own w B v xs)
  (ao : Option Addr) (n cap : Nat) (zs : List T) (hx : a.eval x = .slice ao n cap) (hn : n = zs.length) (hnil : ao = none → cap = 0) (hsrc : Seg w ao zs) (hl : (xs.length + n) * 48 ≤ 140737488355328) (hb : B ≤ w.heap.size)
  (h : ∀ v' w1,Own w1 B v' (xs ++ zs) → w.grownBy w1 v.ownBlock → (v'.ownBlock = v.ownBlock ∨ v'.ownBlock = some w.heap.size) → K (a.put o.dst v') w1) : o.wp Tryz.prog a w K Q := by
 have hzs : zeroV.cells.size = 3 := rfl
 obtain ⟨i0,hi,hz0,hz1,hz2⟩ := info_parts info
 have hmx : maxLen = 9223372036854775807 := rfl
 have empty : zs = [] → n = 0 → Own w B v (xs ++ zs) := by
  intro e _
  rw [e,List.append_nil]
  exact hown
 cases ao with
 | none =>
  obtain rfl : cap = 0 := hnil rfl
  rcases hsrc with e | ⟨b,off,e,_⟩
  ·
   obtain rfl : n = 0 := by rw [hn,e]; rfl
   have hrun := run_append_owned_none (P := Tryz.prog) (w := w) B 74 o.type 90 i0 3 Tryz.underlying74 hi v _ _ hown
   unfold Oper.wp
   simp [execOp,ho,resolve,invoke,builtin,hs,hx,hrun,Result.andThen]
   exact h v w (empty e rfl) ⟨rfl,rfl,rfl,Nat.le_refl _,fun _ _ _ => rfl⟩ (.inl rfl)
  · cases e
 | some ad =>
  obtain ⟨v',w',hr,h2,h3,_,h5⟩ := run_append_own_at (P := Tryz.prog) w B 74 o.type 90 i0 zeroV 3 48 Tryz.underlying74 hi hz0 hz1 hz2 hzs (by omega) v xs.length (xs.flatMap rv) hown ad n cap (zs.flatMap rv) (by rw [flat_len,hn]) (by
   rcases hsrc with e | ⟨b,off,e,hc⟩
   ·
    rw [e]
    intro j u hu
    simp at hu
   ·
    cases e
    exact fun j u hu => news_of hc j u hu) (one_cell zs) (by omega) hl hb
  unfold Oper.wp execOp
  simp only [ho,resolve,invoke,builtin,Sem.run_bind,Sem.run_pure,Result.andThen_ok,List.map_toArray,List.map_cons,List.map_nil,hs,hx,hr]
  refine h v' w' ?_ h3 h5
  unfold Own
  rw [List.flatMap_append,List.length_append,← hn]
  exact h2
theorem wpList_append {ops : Array Oper} {rest : List Oper} {o : Oper} {a : Act} {Q : Exit → Act → World → Prop} (w : World) (hgd : o.guard = none) (s x : Operand)
  (ho : o.op = .call { callee := .builtin .append,args := #[s,x],argTypes := #[74,74] })
  (B : Nat) (v : Value) (xs : List T) (hs : a.eval s = v) (hown : Own w B v xs)
  (ao : Option Addr) (n cap : Nat) (zs : List T) (hx : a.eval x = .slice ao n cap) (hn : n = zs.length) (hnil : ao = none → cap = 0) (hsrc : Seg w ao zs) (hl : (xs.length + n) * 48 ≤ 140737488355328) (hb : B ≤ w.heap.size)
  (h : ∀ v' w1,Own w1 B v' (xs ++ zs) → w.grownBy w1 v.ownBlock → (v'.ownBlock = v.ownBlock ∨ v'.ownBlock = some w.heap.size) → wpList Tryz.prog ops Q rest (a.put o.dst v') w1) : wpList Tryz.prog ops Q (o :: rest) a w :=
 wpList_plain hgd fun _ hK => wp_append w s x ho B v xs hs hown ao n cap zs hx hn hnil hsrc hl hb fun v' w1 h1 h2 h3 => hK _ _ (h v' w1 h1 h2 h3)
theorem own_ge {w : World} {B : Nat} {v : Value} {xs : List T} (h : Own w B v xs) : ∀ k,v.ownBlock = some k → B ≤ k := by
 intro k hk
 rcases h.2 with ⟨h',_⟩ | ⟨g,cap,cur,h',hb,_⟩
 ·
  rw [h'] at hk
  cases hk
 ·
  rw [h'] at hk
  simp only [Value.ownBlock,Option.some.injEq] at hk
  omega
theorem own_mono {w : World} {B C : Nat} {v : Value} {xs : List T} (h : Own w B v xs) (hc : C ≤ B) : Own w C v xs := by
 obtain ⟨h1,h2⟩ := h
 refine ⟨h1,?_⟩
 rcases h2 with h2 | ⟨g,cap,cur,h',hb,h3⟩
 · exact .inl h2
 · exact .inr ⟨g,cap,cur,h',by omega,h3⟩
theorem own_empty {X : World} {B g : Nat} (hB : B ≤ g) (hg : X.heap[g]? = some (.cells #[] 90 (0,0))) : Own X B (.slice (some ⟨g,0,none⟩) 0 0) [] :=
 ⟨rfl,.inr ⟨g,0,#[],rfl,hB,hg,Nat.le_refl _,Nat.zero_le _,rfl,rfl⟩⟩
theorem own_alloc {w : World} {B : Nat} {v : Value} {xs : List T} (h : Own w B v xs) (o : Obj) : Own (w.alloc o) B v xs := World.ownsRow.alloc h o
theorem own_drew {w : World} {B : Nat} {v : Value} {M : List T} (h : Own w B v M) : Own w.drew B v M := h
theorem own_below {w u : World} {B : Nat} {v : Value} {xs : List T} (h : Own w B v xs) (k : Below w.heap.size w u) : Own u B v xs := by
 obtain ⟨h1,h2⟩ := h
 refine ⟨h1,?_⟩
 rcases h2 with h2 | ⟨g,cap,cur,h',hb,hg,h3⟩
 · exact .inl h2
 ·
  refine .inr ⟨g,cap,cur,h',hb,?_,h3⟩
  have hl : g < w.heap.size := by
   obtain ⟨hl,_⟩ := Array.getElem?_eq_some_iff.1 hg
   exact hl
  rw [k.block g hl]
  exact hg
def block (r : T) : Obj := .cells #[.string r.name,.slice r.bytes.ao r.bytes.n r.bytes.cap,.int .i64 r.kept] 90 (0,0)
theorem seg_block {X : World} {g : Nat} {r : T} (h : X.heap[g]? = some (block r)) : Seg X (some ⟨g,0,none⟩) [r] := by
 refine .inr ⟨g,0,rfl,fun k hk => ?_⟩
 obtain rfl : k = 0 := by simpa using hk
 unfold block at h
 refine ⟨?_,?_,?_⟩
 all_goals rw [cell_of_row X g _ _ _ _ h]
 all_goals rfl
theorem step_append {ops : Array Oper} {o : Oper} {a : Act} {K : Act → World → Prop} {Q : Exit → Act → World → Prop} {E : Prop} (X x : World) (hX : Below x.heap.size x X) (hgd : o.guard = none) (s t : Operand)
  (ho : o.op = .call { callee := .builtin .append,args := #[s,t],argTypes := #[74,74] })
  (v : Value) (xs : List T) (hs : a.eval s = v) (hown : Own X x.heap.size v xs)
  (ao : Option Addr) (n cap : Nat) (zs : List T) (ht : a.eval t = .slice ao n cap) (hn : n = zs.length) (hnil : ao = none → cap = 0) (hsrc : Seg X ao zs) (hl : xs.length + n ≤ 100000)
  (h : ∀ v' w1,Own w1 x.heap.size v' (xs ++ zs) → X.grownBy w1 v.ownBlock → Below x.heap.size x w1 → K (a.put o.dst v') w1) :
  if Region.wanted o (yielded ops a.tmps) = true then Oper.wp Tryz.prog o a X K Q else E := by
 have hw : Region.wanted o (yielded ops a.tmps) = true := by simp [Region.wanted,hgd]
 rw [if_pos hw]
 exact wp_append X s t ho x.heap.size v xs hs hown ao n cap zs ht hn hnil hsrc (by omega) hX.size fun v' w1 h1 h2 _ => h v' w1 h1 h2 (hX.grown h2 hX.size (own_ge hown))
end Go.Proofs.YtlmjeackfepllaaGreatDoor.Fl
namespace Go.Proofs.YtlmjeackfepllaaGreatDoor.Fl
open Go.RowKit
open Mem
def Block (w : World) (g : Nat) (ts : List T) : Prop := w.heap[g]? = some (.cells (ts.flatMap rv).toArray 90 (0,0))
theorem Block.lt {w : World} {g : Nat} {ts : List T} (h : Block w g ts) : g < w.heap.size := by
 obtain ⟨hg,_⟩ := Array.getElem?_eq_some_iff.1 h
 exact hg
theorem Block.below {w u : World} {g : Nat} {ts : List T} (h : Block w g ts) (k : Below w.heap.size w u) : Block u g ts := (k.block g h.lt).trans h
theorem Block.row {w : World} {g : Nat} {ts : List T} (h : Block w g ts) (k : Nat) (hk : k < ts.length) : At w g (k * 3) ts[k] := by
 have hcell : ∀ p,p < 3 → w.cell? ⟨g,k * 3 + p,none⟩ = (rv ts[k])[p]? := by
  intro p hp
  rw [cell_of_row w g _ _ _ _ h,← flat_at ts k p hk hp]
  simp
 exact ⟨hcell 0 (by omega),hcell 1 (by omega),hcell 2 (by omega)⟩
theorem Block.frozen {w : World} {g : Nat} {ts : List T} (h : Block w g ts) (k : Nat) : w.frozen? ⟨g,k,none⟩ = false := frozen_of_row w g k _ _ h
theorem Block.ls {w : World} {g : Nat} {ts zs : List T} (h : Block w g (ts ++ zs)) (n cap : Nat) (hn : n = ts.length) (hc : n ≤ cap) (hm : cap ≤ 9223372036854775807) (hs : ∀ r ∈ ts,Short r) : Ls w (some ⟨g,0,none⟩) n cap ts := by
 refine ⟨hn,hc,hm,(fun k => by cases k),.inr ⟨g,0,rfl,fun k hk => ?_⟩,hs⟩
 have hr := h.row k (by rw [List.length_append]; omega)
 rw [List.getElem_append_left hk] at hr
 rw [Nat.zero_add]
 exact hr
def zeros (n : Nat) : Array Value := ((List.replicate n zero).flatMap rv).toArray
theorem sizeZ : (Tryz.prog.info? 90).map (·.size) = some 3 := by kernel_rfl
theorem made (n : Nat) : madeCells zeroV.cells (n * 3) = zeros n := by
 apply Array.ext_getElem?
 intro j
 by_cases hj : j < n * 3
 ·
  obtain ⟨k,p,rfl,hp⟩ : ∃ k p,j = k * 3 + p ∧ p < 3 := ⟨j / 3,j % 3,by omega,by omega⟩
  have hk : k < n := by omega
  have hz : (zeros n)[k * 3 + p]? = (rv zero)[p]? := by
   unfold zeros
   rw [List.getElem?_toArray,flat_at (List.replicate n zero) k p (by simpa using hk) hp,List.getElem_replicate]
  rw [hz]
  have e : (k * 3 + p) % 3 = p := by omega
  have hp' : p = 0 ∨ p = 1 ∨ p = 2 := by omega
  unfold madeCells
  rw [Array.getElem?_map,Array.getElem?_range,if_pos hj]
  simp only [Option.map_some]
  rw [show zeroV.cells.size = 3 from rfl,e]
  rcases hp' with rfl | rfl | rfl <;> rfl
 ·
  rw [Array.getElem?_eq_none (by rw [size_madeCells]; omega),Array.getElem?_eq_none]
  unfold zeros
  rw [List.size_toArray,flat_len,List.length_replicate]
  omega
theorem make (n : Nat) (hn : n ≤ 100000) (u : World) : (Instr.makeSlice 74 (.int .i64 (n : Int)) (.int .i64 (n : Int))).run Tryz.prog u =
  .ok (.slice (some ⟨u.heap.size,0,none⟩) n n) (u.alloc (.cells (zeros n) 90)) := by
 obtain ⟨i0,hi,hz0,hz1,hz2⟩ := info_parts info
 have h := run_make (P := Tryz.prog) u 74 90 i0 zeroV Tryz.underlying74 hi hz0 .i64 .i64 (n : Int) (n : Int) (by omega) (Int.le_refl _) (by rw [hz2]; omega) (by omega)
 rw [hz1,Int.toNat_natCast,made] at h
 exact h
theorem block_made (u : World) (n : Nat) : Block (u.alloc (.cells (zeros n) 90)) u.heap.size (List.replicate n zero) := heap_alloc_new u _
theorem copy (u : World) (g : Nat) (ts : List T) (dCap : Nat) (ao : Option Addr) (n cap : Nat) (rs : List T) (hb : Block u g (List.replicate n zero ++ ts)) (hn : n = rs.length) (hs : Seg u ao rs) :
  ∃ u',(Builtin.copy_ #[74,74] 3 #[.slice (some ⟨g,0,none⟩) (n + ts.length) dCap,.slice ao n cap]).run Tryz.prog u = .ok (goInt n) u' ∧ Block u' g (rs ++ ts) ∧ (∀ B w0,Below B w0 u → B ≤ g → Below B w0 u') ∧ u'.heap.size = u.heap.size := by
 obtain ⟨i0,hi,hiK⟩ := Option.map_eq_some_iff.1 sizeZ
 have hmin : Nat.min n (n + ts.length) = n := Nat.min_eq_left (by omega)
 rcases hs with e | ⟨b,off,rfl,hc⟩
 ·
  subst e
  obtain rfl : n = 0 := hn
  refine ⟨u,?_,by simpa using hb,fun _ _ h _ => h,rfl⟩
  have hl : ∀ (x : Addr),(loadCells x 0).run Tryz.prog u = .ok #[] u := fun x => by simpa using run_loadCells_list (P := Tryz.prog) u x [] (by simp)
  cases ao <;> simp [Builtin.copy_,run_underlying Tryz.underlying74,Builtin.lenOf,Builtin.firstCells,sizeOf,typeInfo,hi,storeCells,hl]
 ·
  have hl := run_loadCells_list (P := Tryz.prog) u ⟨b,off,none⟩ (rs.flatMap rv) (fun j v hv => news_of hc j v hv)
  have hst := run_storeCells_at Tryz.prog g 0 90 (rs.flatMap rv) 0 _ u hb (by rw [List.size_toArray,flat_len,flat_len,List.length_append,List.length_replicate]; omega) (one_cell rs)
  have hlen : (rs.flatMap rv).length = n * 3 := by rw [flat_len,hn]
  have e : (((List.replicate n zero ++ ts).flatMap rv).toArray.toList.take (0 + 0) ++ rs.flatMap rv ++ ((List.replicate n zero ++ ts).flatMap rv).toArray.toList.drop (0 + 0 + (rs.flatMap rv).length)) = (rs ++ ts).flatMap rv := by
   rw [List.toList_toArray,List.take_zero,List.nil_append,Nat.zero_add,hlen,List.flatMap_append,List.flatMap_append,List.drop_left' (by rw [flat_len,List.length_replicate])]
  rw [e] at hst
  refine ⟨u.setRow g ((rs ++ ts).flatMap rv).toArray,?_,setRow_heap u g _ _ 90 _ hb,fun B w0 h hB => below_setRow h hB _,by simp [World.setRow]⟩
  rw [hlen] at hl
  simp [Builtin.copy_,run_underlying Tryz.underlying74,Builtin.lenOf,Builtin.firstCells,sizeOf,typeInfo,hi,hiK,hmin,hl,hst]
theorem set_right {a : T} (X : List Value) (k p : Nat) (v : Value) : (rv a ++ X).set ((k + 1) * 3 + p) v = rv a ++ X.set (k * 3 + p) v := by
 rw [List.set_append_right _ _ (by rw [rv_len]; omega),rv_len,show (k + 1) * 3 + p - 3 = k * 3 + p by omega]
theorem flat_set : ∀ (ts : List T) (k : Nat) (r : T),k < ts.length → (ts.set k r).flatMap rv = ((((ts.flatMap rv).set (k * 3) (.string r.name)).set (k * 3 + 1) (.slice r.bytes.ao r.bytes.n r.bytes.cap)).set (k * 3 + 2) (.int .i64 r.kept)) := by
 intro ts
 induction ts with
 | nil =>
  intro k r h
  simp at h
 | cons a l ih =>
 intro k r h
 cases k with
 | zero =>
  rw [List.set_cons_zero,List.flatMap_cons,List.flatMap_cons]
  simp only [rv,Nat.zero_mul,Nat.zero_add,List.cons_append,List.nil_append,List.set_cons_zero,List.set_cons_succ]
 | succ k =>
  have ih := ih k r (by simpa using h)
  have e0 := fun (X : List Value) (v : Value) => set_right (a := a) X k 0 v
  simp only [Nat.add_zero] at e0
  rw [List.set_cons_succ,List.flatMap_cons,ih,List.flatMap_cons,e0,set_right,set_right]
theorem Block.store {w : World} {g : Nat} {ts : List T} (h : Block w g ts) (k : Nat) (hk : k < ts.length) (r : T) :
  Block (((w.setCell ⟨g,k * 3,none⟩ (.string r.name)).setCell ⟨g,k * 3 + 1,none⟩ (.slice r.bytes.ao r.bytes.n r.bytes.cap)).setCell ⟨g,k * 3 + 2,none⟩ (.int .i64 r.kept)) g (ts.set k r) := by
 have h1 := heap_setCell_same _ g (k * 3) _ _ (.string r.name) h
 have h2 := heap_setCell_same _ g (k * 3 + 1) _ _ (.slice r.bytes.ao r.bytes.n r.bytes.cap) h1
 have h3 := heap_setCell_same _ g (k * 3 + 2) _ _ (.int .i64 r.kept) h2
 unfold Block
 rw [h3,flat_set ts k r hk]
 simp only [List.setIfInBounds_toArray]
theorem below_store {B g : Nat} {w0 w : World} (h : Below B w0 w) (hg : B ≤ g) (k : Nat) (x0 x1 x2 : Value) :
  Below B w0 (((w.setCell ⟨g,k * 3,none⟩ x0).setCell ⟨g,k * 3 + 1,none⟩ x1).setCell ⟨g,k * 3 + 2,none⟩ x2) :=
 (((h.setCell hg x0).setCell hg x1).setCell hg x2)
theorem own_store {w : World} {B g n cap : Nat} {M : List T} (h : Own w B (.slice (some ⟨g,0,none⟩) n cap) M) (k : Nat) (hk : k < M.length) (r : T) :
  Own (((w.setCell ⟨g,k * 3,none⟩ (.string r.name)).setCell ⟨g,k * 3 + 1,none⟩ (.slice r.bytes.ao r.bytes.n r.bytes.cap)).setCell ⟨g,k * 3 + 2,none⟩ (.int .i64 r.kept)) B (.slice (some ⟨g,0,none⟩) n cap) (M.set k r) := by
 rcases h.2 with ⟨h',_⟩ | ⟨g',cap',cur,h',hb,hg,hnc,hcm,hcs,htake⟩
 · cases h'
 ·
  simp only [Value.slice.injEq,Option.some.injEq,Addr.mk.injEq,and_true] at h'
  obtain ⟨e1,e2,e3⟩ := h'
  subst e1 e3
  have h1 := heap_setCell_same _ g (k * 3) _ _ (.string r.name) hg
  have h2 := heap_setCell_same _ g (k * 3 + 1) _ _ (.slice r.bytes.ao r.bytes.n r.bytes.cap) h1
  have h3 := heap_setCell_same _ g (k * 3 + 2) _ _ (.int .i64 r.kept) h2
  refine ⟨by rw [flat_len],.inr ⟨g,cap,_,by rw [List.length_set,e2],hb,h3,by rw [List.length_set]; exact hnc,hcm,by simpa using hcs,?_⟩⟩
  rw [List.length_set,flat_set M k r hk]
  simp only [Array.toList_setIfInBounds]
  rw [← htake]
  simp only [List.take_set]
theorem own_at {w : World} {B g n cap : Nat} {M : List T} (h : Own w B (.slice (some ⟨g,0,none⟩) n cap) M) (k : Nat) (hk : k < M.length) : At w g (k * 3) M[k] ∧ (∀ o,w.frozen? ⟨g,o,none⟩ = false) ∧ B ≤ g := by
 rcases h.2 with ⟨h',_⟩ | ⟨g',cap',cur,h',hb,hg,hnc,hcm,hcs,htake⟩
 · cases h'
 ·
  simp only [Value.slice.injEq,Option.some.injEq,Addr.mk.injEq,and_true] at h'
  obtain ⟨e1,e2,e3⟩ := h'
  subst e1 e3
  have hcell : ∀ p,p < 3 → w.cell? ⟨g,k * 3 + p,none⟩ = (rv M[k])[p]? := by
   intro p hp
   rw [cell_of_row w g _ _ _ _ hg,← flat_at M k p hk hp,← htake,List.getElem?_take_of_lt (by omega)]
   simp
  exact ⟨⟨hcell 0 (by omega),hcell 1 (by omega),hcell 2 (by omega)⟩,fun o => frozen_of_row w g o _ _ hg,hb⟩
theorem flat_put (r : T) (p : Nat) (x : Value) (hp : p < 3) : ∀ (M : List T) (k : Nat) (hk : k < M.length),rv r = (rv M[k]).set p x → (M.set k r).flatMap rv = (M.flatMap rv).set (k * 3 + p) x
 | a :: l,0,_,h => by
  have h' : rv r = (rv a).set p x := h
  rw [List.set_cons_zero,List.flatMap_cons,List.flatMap_cons,Nat.zero_mul,Nat.zero_add,List.set_append_left _ _ (by rw [rv_len]; exact hp),h']
 | a :: l,k + 1,hk,h => by
  have ih := flat_put r p x hp l k (by simpa using hk) (by simpa using h)
  rw [List.set_cons_succ,List.flatMap_cons,List.flatMap_cons,List.set_append_right _ _ (by rw [rv_len]; omega),rv_len,show (k + 1) * 3 + p - 3 = k * 3 + p by omega,ih]
theorem own_put {w : World} {B g n cap : Nat} {M : List T} (h : Own w B (.slice (some ⟨g,0,none⟩) n cap) M) (k p : Nat) (hk : k < M.length) (hp : p < 3) (x : Value) (r : T) (hr : rv r = (rv M[k]).set p x) :
  Own (w.setCell ⟨g,k * 3 + p,none⟩ x) B (.slice (some ⟨g,0,none⟩) n cap) (M.set k r) := by
 rcases h.2 with ⟨h',_⟩ | ⟨g',cap',cur,h',hb,hg,hnc,hcm,hcs,htake⟩
 · cases h'
 ·
  simp only [Value.slice.injEq,Option.some.injEq,Addr.mk.injEq,and_true] at h'
  obtain ⟨e1,e2,e3⟩ := h'
  subst e1 e3
  have h1 := heap_setCell_same _ g (k * 3 + p) _ _ x hg
  refine ⟨by rw [flat_len],.inr ⟨g,cap,_,by rw [List.length_set,e2],hb,h1,by rw [List.length_set]; exact hnc,hcm,by simpa using hcs,?_⟩⟩
  rw [List.length_set,flat_put r p x hp M k hk hr]
  simp only [Array.toList_setIfInBounds]
  rw [← htake]
  simp only [List.take_set]
theorem own_of_block {w : World} {B g n : Nat} {M : List T} (h : Block w g M) (hB : B ≤ g) (hn : n = M.length) (hm : n ≤ 100000) : Own w B (.slice (some ⟨g,0,none⟩) n n) M := by
 subst hn
 exact ⟨by rw [flat_len],.inr ⟨g,M.length,_,rfl,hB,h,Nat.le_refl _,by have : maxLen = 9223372036854775807 := rfl; omega,by rw [List.size_toArray,flat_len],List.take_of_length_le (by show (M.flatMap rv).length ≤ _; rw [flat_len]; exact Nat.le_refl _)⟩⟩
theorem own_far {w : World} {B : Nat} {v : Value} {M : List T} (h : Own w B v M) {b : Nat} (hne : b < B) (o : Nat) (x : Value) : Own (w.setCell ⟨b,o,none⟩ x) B v M := by
 obtain ⟨h1,h2⟩ := h
 refine ⟨h1,?_⟩
 rcases h2 with h2 | ⟨g,cap,cur,h',hb,hg,h3⟩
 · exact .inl h2
 · exact .inr ⟨g,cap,cur,h',hb,by rw [heap_setCell_other w ⟨b,o,none⟩ g x (by show g ≠ b; omega)]; exact hg,h3⟩
theorem make_cap (n : Nat) (hn : n ≤ 1000) (u : World) : (Instr.makeSlice 74 (.int .i64 0) (.int .i64 ((n : Int) + 1))).run Tryz.prog u =
  .ok (.slice (some ⟨u.heap.size,0,none⟩) 0 (n + 1)) (u.alloc (.cells (zeros (n + 1)) 90)) := by
 obtain ⟨i0,hi,hz0,hz1,hz2⟩ := info_parts info
 have h := run_make (P := Tryz.prog) u 74 90 i0 zeroV Tryz.underlying74 hi hz0 .i64 .i64 0 ((n : Int) + 1) (by omega) (by omega) (by rw [hz2]; omega) (by omega)
 rw [hz1,show ((n : Int) + 1).toNat = n + 1 from by omega,made] at h
 exact h
theorem own_cap (u : World) (B c : Nat) (hB : B ≤ u.heap.size) (hc : c ≤ 1000) : Own (u.alloc (.cells (zeros c) 90)) B (.slice (some ⟨u.heap.size,0,none⟩) 0 c) [] :=
 ⟨rfl,.inr ⟨u.heap.size,c,zeros c,rfl,hB,heap_alloc_new u _,Nat.zero_le _,by have : maxLen = 9223372036854775807 := rfl; omega,by unfold zeros; rw [List.size_toArray,flat_len,List.length_replicate],rfl⟩⟩
end Go.Proofs.YtlmjeackfepllaaGreatDoor.Fl
namespace Go.Proofs.YtlmjeackfepllaaGreatDoor.Dk
open Go.RowKit
open Mem
def sl (s : Sl) : Value := .slice s.ao s.n s.cap
def Box (w : World) (p : Nat) (v : Sl) (off armed : Bool) (L : Int) : Prop := w.heap[p]? = some (.cells #[.slice v.ao v.n v.cap,.bool off,.bool armed,.int .i64 L] 76 (0,0))
theorem Box.lt {w : World} {p : Nat} {v : Sl} {off armed : Bool} {L : Int} (h : Box w p v off armed L) : p < w.heap.size := by
 obtain ⟨h,_⟩ := Array.getElem?_eq_some_iff.1 h
 exact h
theorem Box.cells {w : World} {p : Nat} {v : Sl} {off armed : Bool} {L : Int} (h : Box w p v off armed L) : w.cell? ⟨p,0,none⟩ = some (.slice v.ao v.n v.cap) ∧ w.cell? ⟨p,1,none⟩ = some (.bool off) ∧ w.cell? ⟨p,2,none⟩ = some (.bool armed) ∧ w.cell? ⟨p,3,none⟩ = some (.int .i64 L) := by
 refine ⟨?_,?_,?_,?_⟩
 all_goals rw [cell_of_row w p _ _ _ _ h]
 all_goals rfl
theorem Box.frozen {w : World} {p : Nat} {v : Sl} {off armed : Bool} {L : Int} (h : Box w p v off armed L) (k : Nat) : w.frozen? ⟨p,k,none⟩ = false := frozen_of_row w p k _ _ h
theorem Box.set {w : World} {p : Nat} {v : Sl} {off armed : Bool} {L : Int} (h : Box w p v off armed L) (i : Nat) (x : Value) : (w.setCell ⟨p,i,none⟩ x).heap[p]? = some (.cells (#[.slice v.ao v.n v.cap,.bool off,.bool armed,.int .i64 L].setIfInBounds i x) 76 (0,0)) := heap_setCell_same w p i _ _ x h
structure EachF (w : World) (rs : List Fl.T) (fs : List F) : Prop where
 len : rs.length = fs.length
 name : ∀ i (h : i < rs.length),rs[i].name = (fs[i]'(len ▸ h)).name
 kept : ∀ i (h : i < rs.length),rs[i].kept = ((fs[i]'(len ▸ h)).kept : Int)
 own : ∀ i (h : i < rs.length),By.Own w 0 (sl rs[i].bytes) (fs[i]'(len ▸ h)).bs
structure At (P : Nat → Prop) (w : World) (p : Nat) (d : D) (v : Sl) (L : Int) (rs : List Fl.T) : Prop where
 box : Box w p v d.off (decide (0 ≤ d.left)) L
 arm : 0 ≤ d.left → L = d.left
 rows : Fl.Own w 0 (sl v) rs
 each : EachF w rs d.fs
 pp : P p
 pv : ∀ b,(sl v).ownBlock = some b → P b ∧ b ≠ p
 pb : ∀ i (h : i < rs.length) b,(sl rs[i].bytes).ownBlock = some b → P b ∧ b ≠ p ∧ (sl v).ownBlock ≠ some b
 ap : ∀ i j (hi : i < rs.length) (hj : j < rs.length),i < j → ∀ b,(sl rs[i].bytes).ownBlock = some b → (sl rs[j].bytes).ownBlock ≠ some b
 ok : Ok d
 few : d.fs.length ≤ 1000
def Dsk (P : Nat → Prop) (w : World) (p : Nat) (d : D) : Prop := ∃ v L rs,At P w p d v L rs
section
variable {P Q : Nat → Prop} {w u : World} {p : Nat} {d : D} {v : Sl} {L : Int} {rs : List Fl.T}
theorem EachF.keep {fs : List F} (h : EachF w rs fs) (k : ∀ i (hi : i < rs.length) g,(sl rs[i].bytes).ownBlock = some g → u.heap[g]? = w.heap[g]?) : EachF u rs fs := ⟨h.len,h.name,h.kept,fun i hi => rows_keep (h.own i hi) (k i hi)⟩
theorem EachF.short {fs : List F} (h : EachF w rs fs) (hn : ∀ f ∈ fs,f.name.size ≤ 24) (hk : ∀ f ∈ fs,f.kept ≤ 4194304) : ∀ r ∈ rs,Fl.Short r := by
 intro r hr
 obtain ⟨i,hi,rfl⟩ := List.getElem_of_mem hr
 have hf : i < fs.length := h.len ▸ hi
 have h1 := hn _ (List.getElem_mem hf)
 have h2 := hk _ (List.getElem_mem hf)
 refine ⟨by rw [h.name i hi]; omega,?_⟩
 rw [h.kept i hi]
 exact ⟨by omega,by omega⟩
theorem At.keep (h : At P w p d v L rs) (k : UpdQ Q w u) (hQ : ∀ b,P b → ¬ Q b) : At P u p d v L rs := by
 refine ⟨(k.block p h.box.lt (hQ p h.pp)).trans h.box,h.arm,k.rows h.rows fun b e => hQ b (h.pv b e).1,h.each.keep fun i hi g e => k.block g (World.ownsRow.lt (h.each.own i hi) g e).2 (hQ g (h.pb i hi g e).1),h.pp,h.pv,h.pb,h.ap,h.ok,h.few⟩
theorem At.mono (h : At P w p d v L rs) (k : ∀ b,P b → Q b) : At Q w p d v L rs := ⟨h.box,h.arm,h.rows,h.each,k _ h.pp,fun b e => ⟨k b (h.pv b e).1,(h.pv b e).2⟩,fun i hi b e => ⟨k b (h.pb i hi b e).1,(h.pb i hi b e).2⟩,h.ap,h.ok,h.few⟩
theorem At.below (h : At P w p d v L rs) (k : Below w.heap.size w u) : At P u p d v L rs :=
 h.keep (UpdQ.of (Q := fun _ => False) k) fun _ _ z => z
theorem At.lt (h : At P w p d v L rs) : At (fun b => P b ∧ b < w.heap.size) w p d v L rs :=
 ⟨h.box,h.arm,h.rows,h.each,⟨h.pp,h.box.lt⟩,fun b e => ⟨⟨(h.pv b e).1,(World.ownsRow.lt h.rows b e).2⟩,(h.pv b e).2⟩,fun i hi b e => ⟨⟨(h.pb i hi b e).1,(World.ownsRow.lt (h.each.own i hi) b e).2⟩,(h.pb i hi b e).2⟩,h.ap,h.ok,h.few⟩
theorem At.shorts (h : At P w p d v L rs) : ∀ r ∈ rs,Fl.Short r := h.each.short h.ok.names fun f hf => by
 have h1 := h.ok.kept f hf
 have h2 := total_mem hf
 have h3 := h.ok.room
 omega
theorem At.ls (h : At P w p d v L rs) : Fl.Ls w v.ao v.n v.cap rs := by
 obtain ⟨ao,cap,e,l,_⟩ := Fl.own_ls h.rows h.shorts
 unfold sl at e
 simp only [Value.slice.injEq] at e
 rw [e.1,e.2.1,e.2.2]
 exact l
theorem At.n (h : At P w p d v L rs) : v.n = d.fs.length ∧ v.n ≤ v.cap ∧ v.cap ≤ 9223372036854775807 ∧ v.n = rs.length := by
 have l := h.ls
 exact ⟨l.len.trans h.each.len,l.fits,l.reach,l.len⟩
theorem Dsk.keep (h : Dsk P w p d) (k : UpdQ Q w u) (hQ : ∀ b,P b → ¬ Q b) : Dsk P u p d := by
 obtain ⟨v,L,rs,h⟩ := h
 exact ⟨v,L,rs,h.keep k hQ⟩
theorem Dsk.mono (h : Dsk P w p d) (k : ∀ b,P b → Q b) : Dsk Q w p d := by
 obtain ⟨v,L,rs,h⟩ := h
 exact ⟨v,L,rs,h.mono k⟩
theorem Dsk.below (h : Dsk P w p d) (k : Below w.heap.size w u) : Dsk P u p d := by
 obtain ⟨v,L,rs,h⟩ := h
 exact ⟨v,L,rs,h.below k⟩
theorem Dsk.lt (h : Dsk P w p d) : Dsk (fun b => P b ∧ b < w.heap.size) w p d := by
 obtain ⟨v,L,rs,h⟩ := h
 exact ⟨v,L,rs,h.lt⟩
theorem At.away (h : At P w p d v L rs) (i : Nat) (x : Value) : Fl.Own (w.setCell ⟨p,i,none⟩ x) 0 (sl v) rs ∧ EachF (w.setCell ⟨p,i,none⟩ x) rs d.fs := by
 have k : UpdQ (fun b => b = p) w (w.setCell ⟨p,i,none⟩ x) := UpdQ.set (Q := fun b => b = p) w rfl i x
 exact ⟨k.rows h.rows fun b e z => (h.pv b e).2 z,h.each.keep fun j hj g e => k.block g (World.ownsRow.lt (h.each.own j hj) g e).2 (h.pb j hj g e).2.1⟩
theorem At.setOff (h : At P w p d v L rs) (b : Bool) : At P (w.setCell ⟨p,1,none⟩ (.bool b)) p ⟨d.fs,b,d.left⟩ v L rs := by
 obtain ⟨h1,h2⟩ := h.away 1 (.bool b)
 exact ⟨(h.box.set 1 (.bool b)).trans rfl,h.arm,h1,h2,h.pp,h.pv,h.pb,h.ap,⟨h.ok.sorted,h.ok.kept,h.ok.room,h.ok.names,h.ok.left⟩,h.few⟩
theorem At.setLeft (h : At P w p d v L rs) {x : Int} (h0 : 0 ≤ d.left) (hx : 0 ≤ x ∧ x ≤ 9223372036854775807) : At P (w.setCell ⟨p,3,none⟩ (.int .i64 x)) p ⟨d.fs,d.off,x⟩ v x rs := by
 obtain ⟨h1,h2⟩ := h.away 3 (.int .i64 x)
 refine ⟨(h.box.set 3 (.int .i64 x)).trans ?_,fun _ => rfl,h1,h2,h.pp,h.pv,h.pb,h.ap,⟨h.ok.sorted,h.ok.kept,h.ok.room,h.ok.names,⟨by show -1 ≤ x; omega,hx.2⟩⟩,h.few⟩
 have e1 : decide (0 ≤ d.left) = true := decide_eq_true h0
 have e2 : decide (0 ≤ x) = true := decide_eq_true hx.1
 show _ = some (Obj.cells #[_,_,.bool (decide (0 ≤ x)),_] _ _)
 rw [e1,e2]
 rfl
end
end Go.Proofs.YtlmjeackfepllaaGreatDoor.Dk
namespace Go.Proofs.YtlmjeackfepllaaGreatDoor
open Go.ChangeShapes Go.WideShapes Go.ChangeAt Go.RowKit
theorem own : ownKnob Tryz.prog.godebug = none := by kernel_rfl
theorem laidOut : laidOutB Tryz.prog = true := by kernel_rfl
end Go.Proofs.YtlmjeackfepllaaGreatDoor
set_option maxRecDepth 100000
namespace Go.Proofs.YtlmjeackfepllaaGreatDoor
open Go.RowKit
open Mem Dk
theorem Dk.name_no {s : ByteArray} (h : s.size < 1 ∨ 24 < s.size) : nameOk s = false := by
 unfold nameOk
 rw [decide_eq_false (by omega),Bool.false_and]
theorem Dk.txt_get (s : ByteArray) (k : Nat) (h : k < s.size) : (txt s)[k]? = some s[k] := by
 unfold txt
 rw [Array.getElem?_toList]
 exact Array.getElem?_eq_getElem h
theorem Dk.txt_take (s : ByteArray) (k : Nat) (h : k < s.size) : (txt s).take (k + 1) = (txt s).take k ++ [s[k]] := by
 have hl : k < (txt s).length := by unfold txt; simpa using h
 have e : (txt s)[k] = s[k] := Option.some.inj ((List.getElem?_eq_getElem hl).symm.trans (Dk.txt_get s k h))
 rw [List.take_succ_eq_append_getElem hl,e]
 rfl
set_option maxHeartbeats 1000000 in
theorem dk_named (s : ByteArray) (w : World) (hs : s.size ≤ 9223372036854775807) :
  Calls Tryz.prog 67 #[.string s] w fun e w' => e = .returned (.bool (nameOk s)) ∧ w' = w := by
 by_cases h1 : s.size < 1
 ·
  have HN := Lib.hid (Dk.name_no (.inl h1))
  go_enter Tryz.func67,Tryz.ntmps67
  go_wp2
  go_ret
  exact ⟨ret_bool HN.out.symm,rfl⟩
 by_cases h2 : 24 < s.size
 ·
  have HN := Lib.hid (Dk.name_no (.inr h2))
  go_enter Tryz.func67,Tryz.ntmps67
  go_wp2
  go_ret
  exact ⟨ret_bool HN.out.symm,rfl⟩
 have HR : Hid (nameOk s = (txt s).all fun c => decide (33 ≤ c.toNat ∧ c.toNat ≤ 126)) := Lib.hid (by
  unfold nameOk
  rw [decide_eq_true (by omega),Bool.true_and])
 go_enter Tryz.func67,Tryz.ntmps67
 go_wp2
 go_loop [3,14] (fun _ i => ∃ k : Nat,k ≤ s.size ∧ i = .int .i64 k ∧ Hid (((txt s).take k).all (fun c => decide (33 ≤ c.toNat ∧ c.toNat ≤ 126)) = true)) (fun _ i => s.size - (intOf i).toNat)
 case atStart => exact ⟨0,Nat.zero_le _,rfl,Lib.hid rfl⟩
 case round =>
  obtain ⟨k,hk,rfl,HA⟩ := hrel
  by_cases hlt : k < s.size
  ·
   have HT := Lib.hid (Dk.txt_take s k hlt)
   have HG := Lib.hid (Dk.txt_get s k hlt)
   have HNo : Hid (¬ (33 ≤ s[k].toNat ∧ s[k].toNat ≤ 126) → nameOk s = false) := Lib.hid fun z => by
    rw [HR.out,List.all_eq_false]
    exact ⟨s[k],List.mem_of_getElem? HG.out,by simpa using z⟩
   by_cases a1 : (s[k].toNat : Int) < 33
   ·
    have HF := Lib.hid (HNo.out (by omega))
    go_wp2
    go_ret
    exact ⟨ret_bool HF.out.symm,rfl⟩
   ·
    by_cases a2 : (126 : Int) < (s[k].toNat : Int)
    ·
     have HF := Lib.hid (HNo.out (by omega))
     go_wp2
     go_ret
     exact ⟨ret_bool HF.out.symm,rfl⟩
    ·
     have HF : Hid (((txt s).take (k + 1)).all (fun c => decide (33 ≤ c.toNat ∧ c.toNat ≤ 126)) = true) := Lib.hid (by
      rw [HT.out,List.all_append,HA.out,Bool.true_and]
      simp only [List.all_cons,List.all_nil,Bool.and_true]
      exact decide_eq_true (by omega))
     go_wp2
     go_round
     case rel => exact ⟨k + 1,by omega,by go_num,HF⟩
     case measure => simp [intOf]; omega
  ·
   have HF : Hid (nameOk s = true) := Lib.hid (by
    rw [HR.out,← HA.out,List.take_of_length_le (by unfold txt; simp; omega)])
   go_wp2
   go_ret
   exact ⟨ret_bool HF.out.symm,rfl⟩
section
variable {P : Nat → Prop} {w : World} {p : Nat} {d : D} {v : Sl} {L : Int} {rs : List Fl.T}
def Dk.SpendE (P : Nat → Prop) (w : World) (p : Nat) (d : D) (v : Sl) (rs : List Fl.T) (e : Ending) (w' : World) : Prop :=
 ((d.left ≠ 0 ∧ e = .returned (.bool true) ∧ ∃ L',At P w' p (spent d) v L' rs) ∨ (d.left = 0 ∧ e = .returned (.bool false) ∧ ∃ L',At P w' p (down d) v L' rs)) ∧ UpdQ (fun b => b = p) w w'
theorem dk_spend (h : At P w p d v L rs) : Calls Tryz.prog 69 #[.pointer (some ⟨p,0,none⟩)] w (Dk.SpendE P w p d v rs) := by
 have HA := Lib.hid h
 obtain ⟨c0,c1,c2,c3⟩ := h.box.cells
 have f1 := h.box.frozen 1
 have f3 := h.box.frozen 3
 have hl := h.ok.left
 by_cases h0 : 0 ≤ d.left
 ·
  have hL := h.arm h0
  rw [decide_eq_true h0] at c2
  rw [hL] at c3
  by_cases h1 : d.left = 0
  ·
   have HO := Lib.hid (h.setOff true)
   rw [h1] at c3
   have HZ := Lib.hid h1
   clear h hL h1 h0 hl
   go_enter Tryz.func69,Tryz.ntmps69
   go_wp2
   go_ret
   exact ⟨.inr ⟨HZ.out,rfl,L,HO.out⟩,UpdQ.set (Q := fun b => b = p) w rfl _ _⟩
  ·
   have hq : (d.left == 0) = false := beq_eq_false_iff_ne.2 h1
   have HO : Hid (At P (w.setCell ⟨p,3,none⟩ (.int .i64 (d.left - 1))) p (spent d) v (d.left - 1) rs) := Lib.hid (by
    have h2 := h.setLeft (x := d.left - 1) h0 ⟨by omega,by omega⟩
    have e : spent d = ⟨d.fs,d.off,d.left - 1⟩ := by
     unfold spent dec
     rw [if_pos (by omega)]
    rw [e]
    exact h2)
   have HZ := Lib.hid h1
   obtain ⟨hl1,hl2⟩ := hl
   obtain ⟨lf,hlf⟩ : ∃ lf,d.left = lf := ⟨_,rfl⟩
   rw [hlf] at c3 HO hq hl1 hl2 h0
   clear h hL h1 hlf
   go_enter Tryz.func69,Tryz.ntmps69
   go_wp2
   go_ret
   exact ⟨.inl ⟨HZ.out,rfl,_,HO.out⟩,UpdQ.set (Q := fun b => b = p) w rfl _ _⟩
 ·
  rw [decide_eq_false h0] at c2
  have HZ : Hid (d.left ≠ 0) := Lib.hid (by omega)
  have HS : Hid (spent d = d) := Lib.hid (by
   unfold spent dec
   rw [if_neg (by omega)])
  clear h h0 hl
  go_enter Tryz.func69,Tryz.ntmps69
  go_wp2
  go_ret
  exact ⟨.inl ⟨HZ.out,rfl,L,by rw [HS.out]; exact HA.out⟩,UpdQ.refl _ _⟩
theorem dk_arm (n : Int) (hn : Fit n) (h : At P w p d v L rs) : Calls Tryz.prog 22 #[.pointer (some ⟨p,0,none⟩),.int .i64 n] w fun e w' => e = .returned (.tuple #[]) ∧ At P w' p (armD d n) v n rs ∧ UpdQ (fun b => b = p) w w' := by
 obtain ⟨c0,c1,c2,c3⟩ := h.box.cells
 have f2 := h.box.frozen 2
 have f3 := h.box.frozen 3
 have HO : Hid (∀ b,b = decide (0 ≤ n) → At P ((w.setCell ⟨p,2,none⟩ (.bool b)).setCell ⟨p,3,none⟩ (.int .i64 n)) p (armD d n) v n rs) := Lib.hid fun b hb => by
  have k : UpdQ (fun b => b = p) w ((w.setCell ⟨p,2,none⟩ (.bool b)).setCell ⟨p,3,none⟩ (.int .i64 n)) := (UpdQ.set (Q := fun b => b = p) w rfl 2 _).trans (UpdQ.set (Q := fun b => b = p) _ rfl 3 _)
  have e1 : (w.setCell ⟨p,2,none⟩ (.bool b)).heap[p]? = some (.cells #[.slice v.ao v.n v.cap,.bool d.off,.bool b,.int .i64 L] 76 (0,0)) := (h.box.set 2 (.bool b)).trans rfl
  have e2 := heap_setCell_same _ p 3 _ _ (.int .i64 n) e1
  have e3 : decide (0 ≤ (armD d n).left) = b := by
   rw [hb]
   unfold armD
   dsimp only
   by_cases hneg : n < 0
   · rw [if_pos hneg,decide_eq_false (by omega),decide_eq_false (by omega)]
   · rw [if_neg hneg]
  refine ⟨?_,fun z => ?_,k.rows h.rows fun b e z => (h.pv b e).2 z,h.each.keep fun j hj g e => k.block g (World.ownsRow.lt (h.each.own j hj) g e).2 (h.pb j hj g e).2.1,h.pp,h.pv,h.pb,h.ap,⟨h.ok.sorted,h.ok.kept,h.ok.room,h.ok.names,?_⟩,h.few⟩
  ·
   unfold Box
   rw [e3]
   exact e2.trans rfl
  ·
   unfold armD at z ⊢
   dsimp only at z ⊢
   by_cases hneg : n < 0
   ·
    rw [if_pos hneg] at z
    omega
   · rw [if_neg hneg]
  ·
   unfold armD
   dsimp only
   unfold Fit at hn
   split <;> omega
 have HU : Hid (∀ b,UpdQ (fun b => b = p) w ((w.setCell ⟨p,2,none⟩ (.bool b)).setCell ⟨p,3,none⟩ (.int .i64 n))) := Lib.hid fun b => (UpdQ.set (Q := fun b => b = p) w rfl 2 _).trans (UpdQ.set (Q := fun b => b = p) _ rfl 3 _)
 by_cases h0 : 0 ≤ n
 ·
  have hd : decide (0 ≤ n) = true := decide_eq_true h0
  clear h
  go_enter Tryz.func22,Tryz.ntmps22
  go_wp2
  go_end0
  exact ⟨rfl,HO.out _ hd.symm,HU.out _⟩
 ·
  have hd : decide (0 ≤ n) = false := decide_eq_false h0
  clear h
  go_enter Tryz.func22,Tryz.ntmps22
  go_wp2
  go_end0
  exact ⟨rfl,HO.out _ hd.symm,HU.out _⟩
end
theorem dk_new (w0 w : World) (hw : Below w0.heap.size w0 w) : Calls Tryz.prog 9 #[] w fun e w' => ∃ p,e = .returned (.pointer (some ⟨p,0,none⟩)) ∧ Dsk (fun b => w.heap.size ≤ b) w' p Dk.new ∧ Below w0.heap.size w0 w' := by
 have HW := Lib.hid hw
 clear hw
 go_enter Tryz.func9,Tryz.ntmps9
 go_wp2
 go_ret
 refine ⟨_,rfl,⟨⟨none,0,0⟩,0,[],?_⟩,below_box HW.out _⟩
 refine ⟨heap_alloc_new w _,fun z => ?_,Fl.own_nil _ _,⟨rfl,fun i h => absurd h (Nat.not_lt_zero _),fun i h => absurd h (Nat.not_lt_zero _),fun i h => absurd h (Nat.not_lt_zero _)⟩,Nat.le_refl _,fun b e => (by cases e),fun i h => absurd h (Nat.not_lt_zero _),fun i j h => absurd h (Nat.not_lt_zero _),ok_new,by show (0 : Nat) ≤ _; omega⟩
 exact absurd z (by show ¬ (0 : Int) ≤ -1; omega)
theorem Dk.total_take {fs : List F} {k : Nat} (h : k < fs.length) : total (fs.take (k + 1)) = total (fs.take k) + fs[k].bs.length := by
 rw [List.take_succ_eq_append_getElem h,total_app,total,total,Nat.add_zero]
theorem Dk.total_take_le (fs : List F) (k : Nat) : total (fs.take k) ≤ total fs := by
 conv => rhs; rw [← List.take_append_drop k fs]
 rw [total_app]
 omega
theorem Dk.own_n {w : World} {B : Nat} {s : Sl} {xs : List UInt8} (h : By.Own w B (sl s) xs) : s.n = xs.length ∧ s.n ≤ s.cap ∧ s.cap ≤ 9223372036854775807 := by
 obtain ⟨ao,cap,e,l,_⟩ := By.own_ls h
 unfold sl at e
 simp only [Value.slice.injEq] at e
 rw [e.2.1,e.2.2]
 exact ⟨rfl,l.fits,l.reach⟩
set_option maxHeartbeats 1000000 in
theorem dk_total {P : Nat → Prop} {w : World} {p : Nat} {d : D} {v : Sl} {L : Int} {rs : List Fl.T} (h : At P w p d v L rs) :
  Calls Tryz.prog 68 #[.pointer (some ⟨p,0,none⟩)] w fun e w' => e = .returned (.int .i64 (total d.fs : Nat)) ∧ Below w.heap.size w w' := by
 have HA := Lib.hid h
 have HL := Lib.hid h.ls
 obtain ⟨c0,c1,c2,c3⟩ := h.box.cells
 obtain ⟨n1,n2,n3,n4⟩ := h.n
 have HN := Lib.hid n4
 have HN1 := Lib.hid n1
 have HRm := Lib.hid h.ok.room
 obtain ⟨ao,n,cap⟩ := v
 simp only at c0 n2 n3 HN HN1
 have hfew : n ≤ 1000 := by
  have h1 := h.few
  have h2 := HN1.out
  omega
 clear h n1 n4
 go_enter Tryz.func68,Tryz.ntmps68
 go_wp2_with fail
 clear c0 c1 c2 c3
 go_loopw [3,5,11] (fun t _ j wr => ∃ k m : Nat,k ≤ n ∧ m ≤ 4194304 ∧ j = .int .i64 k ∧ t = .int .i64 m ∧ Hid (total (d.fs.take k) = m) ∧ Hid (Below w.heap.size w wr)) (fun _ _ j _ => n - (intOf j).toNat)
 case atStart => exact ⟨0,0,by omega,by omega,rfl,rfl,Lib.hid rfl,Lib.hid (Below.refl _ _)⟩
 case round =>
  rename World => wz
  obtain ⟨k,m,hk,hm,rfl,rfl,HT,HB⟩ := hrel
  by_cases hlt : k < n
  ·
   obtain ⟨b,off,rfl⟩ := HL.out.at (by omega)
   have hkr : k < rs.length := HN.out ▸ hlt
   have hkf : k < d.fs.length := HA.out.each.len ▸ hkr
   have hrow := (HL.out.row k hkr).below HB.out
   have HS := Lib.hid (Dk.total_take hkf)
   have ho := Dk.own_n (HA.out.each.own k hkr)
   have HLe := Lib.hid (Dk.total_take_le d.fs (k + 1))
   obtain ⟨r,hr⟩ : ∃ r,rs[k] = r := ⟨_,rfl⟩
   rw [hr] at hrow ho
   obtain ⟨o1,o2,o3⟩ := ho
   have HO1 := Lib.hid o1
   have hbn : m + r.bytes.n ≤ 4194304 := by
    have h1 := HS.out
    have h2 := HT.out
    have h3 := HLe.out
    have h4 := HRm.out
    omega
   have HM : Hid (total (d.fs.take (k + 1)) = m + r.bytes.n) := Lib.hid (by rw [HS.out,HT.out,o1])
   clear hr o1
   obtain ⟨g0,g1,g2⟩ := hrow
   obtain ⟨W,hW,hbW,hA⟩ := Fl.boxed1 wz r
   have HBW := Lib.hid (bchain HB.out hbW)
   unfold Fl.C at hA
   obtain ⟨a0,a1,a2⟩ := hA
   clear hbW
   go_wp2_with fail
   go_roundw
   case rel => exact ⟨k + 1,m + r.bytes.n,by omega,by omega,by go_num,by go_num,HM,HBW⟩
   case measure => simp [intOf]; omega
  ·
   obtain rfl : k = n := by omega
   have HM : Hid (total d.fs = m) := Lib.hid (by
    rw [← HT.out,List.take_of_length_le (by have := HN1.out; omega)])
   go_wp2_with fail
   go_ret
   exact ⟨by rw [HM.out]; rfl,HB.out⟩
end Go.Proofs.YtlmjeackfepllaaGreatDoor
namespace Go.Proofs.YtlmjeackfepllaaGreatDoor
open Go.RowKit
open Mem Dk
def Dk.cmp (a b : ByteArray) : Int := Lib.compareBytes a.data.toList b.data.toList
theorem Dk.cmp_less : ∀ a b : List UInt8,decide (Lib.compareBytes a b < 0) = Op.bytesLess a b
 | [],[] => rfl
 | [],_ :: _ => rfl
 | _ :: _,[] => rfl
 | a :: x,b :: y => by
  have ih := Dk.cmp_less x y
  unfold Lib.compareBytes Op.bytesLess
  by_cases h : a < b
  ·
   rw [if_pos h,decide_eq_true h]
   rfl
  ·
   rw [if_neg h,decide_eq_false h,Bool.false_or]
   by_cases k : b < a
   ·
    rw [if_pos k]
    have hne : (a == b) = false := beq_eq_false_iff_ne.2 fun e => by subst e; exact UInt8.lt_irrefl a k
    rw [hne]
    rfl
   ·
    rw [if_neg k,ih]
    have he : a = b := UInt8.le_antisymm (UInt8.not_lt.1 k) (UInt8.not_lt.1 h)
    rw [beq_iff_eq.2 he,Bool.true_and]
theorem Dk.cmp_zero : ∀ a b : List UInt8,Lib.compareBytes a b = 0 ↔ a = b
 | [],[] => ⟨fun _ => rfl,fun _ => rfl⟩
 | [],_ :: _ => ⟨fun h => (by cases h),fun h => (by cases h)⟩
 | _ :: _,[] => ⟨fun h => (by cases h),fun h => (by cases h)⟩
 | a :: x,b :: y => by
  have ih := Dk.cmp_zero x y
  unfold Lib.compareBytes
  by_cases h : a < b
  ·
   rw [if_pos h]
   exact ⟨fun z => (by cases z),fun z => (by cases z; exact absurd h (UInt8.lt_irrefl a))⟩
  ·
   rw [if_neg h]
   by_cases k : b < a
   ·
    rw [if_pos k]
    exact ⟨fun z => (by cases z),fun z => (by cases z; exact absurd k (UInt8.lt_irrefl a))⟩
   ·
    rw [if_neg k,ih]
    have he : a = b := UInt8.le_antisymm (UInt8.not_lt.1 k) (UInt8.not_lt.1 h)
    rw [he]
    exact ⟨fun z => (by rw [z]),fun z => (by cases z; rfl)⟩
theorem Dk.cmp_lt (a b : ByteArray) : Dk.cmp a b < 0 ↔ lt a b = true := by
 have h := Dk.cmp_less a.data.toList b.data.toList
 unfold Dk.cmp lt
 rw [← decide_eq_true_iff (p := Lib.compareBytes a.data.toList b.data.toList < 0),h]
 have e : ∀ s : ByteArray,s.toList = s.data.toList := fun s => tl s
 rw [e,e]
theorem Dk.cmp_eq (a b : ByteArray) : Dk.cmp a b = 0 ↔ a = b := by
 unfold Dk.cmp
 rw [Dk.cmp_zero]
 constructor
 ·
  intro h
  cases a
  cases b
  simp only [ByteArray.mk.injEq]
  exact Array.toList_inj.1 h
 ·
  intro h
  rw [h]
theorem dk_order (r : Fl.T) (s : ByteArray) (w0 w : World) (hw : Below w0.heap.size w0 w) : Calls Tryz.prog 112 #[.agg #[.string r.name,.slice r.bytes.ao r.bytes.n r.bytes.cap,.int .i64 r.kept],.string s] w fun e w' => e = .returned (.int .i64 (Dk.cmp r.name s)) ∧ Below w0.heap.size w0 w' := by
 have hcon : ∀ W',Calls Tryz.prog 113 #[.string r.name,.string s] W' fun e w' => e = .returned (.int .i64 (Dk.cmp r.name s)) ∧ w' = W' := fun W' => Tryz.strings_Compare r.name s W'
 have HW := Lib.hid hw
 generalize Dk.cmp r.name s = q at hcon ⊢
 clear hw
 go_enter Tryz.func112,Tryz.ntmps112
 go_wp2_with (go_at_call 113; refine (hcon _).mono ?_; rintro e w' ⟨rfl,rfl⟩)
 go_ret
 exact ⟨rfl,below_box HW.out _⟩
set_option maxHeartbeats 4000000 in
theorem dk_search (rs : List Fl.T) (fs : List F) (s : ByteArray) (ao : Option Addr) (n cap : Nat) (w : World) (hL : Fl.Ls w ao n cap rs) (hl : rs.length = fs.length) (hn : ∀ i (h : i < rs.length),rs[i].name = (fs[i]'(hl ▸ h)).name) (hs : Sorted fs) (hm : n ≤ 1000) :
  Calls Tryz.prog 111 #[.slice ao n cap,.string s,.func (.func 112) #[] #[]] w fun e w' => e = .returned (.tuple #[.int .i64 (spot s fs : Nat),.bool (has s fs)]) ∧ Below w.heap.size w w' := by
 have HL := Lib.hid hL
 have HN := Lib.hid hL.len
 have HNm := Lib.hid hn
 have HSo := Lib.hid hs
 have hcap := hL.reach
 have hfit := hL.fits
 have HSp : Hid (spot s fs ≤ n) := Lib.hid (by have h1 := spot_le s fs; have h2 := hL.len; omega)
 obtain ⟨sp,hsp⟩ : ∃ sp,spot s fs = sp := ⟨_,rfl⟩
 have HSq := Lib.hid hsp
 rw [hsp] at HSp
 clear hL hn hs
 have HIf : Hid (∀ i (hi : i < rs.length),Dk.cmp rs[i].name s < 0 ↔ i < sp) := Lib.hid fun i hi => by
  rw [Dk.cmp_lt,HNm.out i hi,spot_iff s fs HSo.out i (hl ▸ hi),HSq.out]
 have hsn := HSp.out
 clear hsp
 go_enter Tryz.func111,Tryz.ntmps111
 go_wp2_with fail
 go_loopw [9,10,11] (fun a b _ wr => ∃ i j : Nat,i ≤ sp ∧ sp ≤ j ∧ j ≤ n ∧ a = .int .i64 i ∧ b = .int .i64 j ∧ Hid (Below w.heap.size w wr)) (fun a b _ _ => (intOf b).toNat - (intOf a).toNat)
 case atStart => exact ⟨0,n,by omega,by omega,by omega,rfl,rfl,Lib.hid (Below.refl _ _)⟩
 case round =>
  rename World => wz
  obtain ⟨i,j,h1,h2,h3,rfl,rfl,HB⟩ := hrel
  by_cases hij : i < j
  ·
   obtain ⟨h,hh⟩ : ∃ h,(i + j) / 2 = h := ⟨_,rfl⟩
   have hh1 : i ≤ h := by omega
   have hh2 : h < j := by omega
   have hsh : ((i : Int) + (j : Int)) / 2 = (h : Int) := by omega
   obtain ⟨b,off,rfl⟩ := HL.out.at (by omega)
   have hhr : h < rs.length := by have := HN.out; omega
   have hrow := (HL.out.row h hhr).below HB.out
   have hif := HIf.out h hhr
   obtain ⟨r,hr⟩ : ∃ r,rs[h] = r := ⟨_,rfl⟩
   rw [hr] at hrow hif
   have HIh := Lib.hid hif
   obtain ⟨g0,g1,g2⟩ := hrow
   clear hr hif hh
   by_cases hc : h < sp
   ·
    have hcm : Dk.cmp r.name s < 0 := HIh.out.2 hc
    have HC := Lib.hid hc
    have HCo : Hid (∀ u,Below wz.heap.size wz u → Calls Tryz.prog 112 #[.agg #[.string r.name,.slice r.bytes.ao r.bytes.n r.bytes.cap,.int .i64 r.kept],.string s] u fun e w' => e = .returned (.int .i64 (Dk.cmp r.name s)) ∧ Below wz.heap.size wz w') := Lib.hid fun u hu => dk_order r s wz u hu
    generalize Dk.cmp r.name s = q at HCo hcm
    clear hc HIh
    go_wp2_with (go_at_call 112; refine (HCo.out _ (Below.refl _ _)).mono ?_; rintro e w1 ⟨rfl,b1⟩; have HB1 := Lib.hid (bchain HB.out b1); clear b1)
    go_roundw
    case rel => exact ⟨h + 1,j,by have := HC.out; omega,by omega,by omega,by go_num,rfl,HB1⟩
    case measure => simp [intOf]; omega
   ·
    have hcm : ¬ Dk.cmp r.name s < 0 := fun z => hc (HIh.out.1 z)
    have HC := Lib.hid hc
    have HCo : Hid (∀ u,Below wz.heap.size wz u → Calls Tryz.prog 112 #[.agg #[.string r.name,.slice r.bytes.ao r.bytes.n r.bytes.cap,.int .i64 r.kept],.string s] u fun e w' => e = .returned (.int .i64 (Dk.cmp r.name s)) ∧ Below wz.heap.size wz w') := Lib.hid fun u hu => dk_order r s wz u hu
    generalize Dk.cmp r.name s = q at HCo hcm
    clear hc HIh
    go_wp2_with (go_at_call 112; refine (HCo.out _ (Below.refl _ _)).mono ?_; rintro e w1 ⟨rfl,b1⟩; have HB1 := Lib.hid (bchain HB.out b1); clear b1)
    go_roundw
    case rel => exact ⟨i,h,by omega,by have := HC.out; omega,by omega,rfl,rfl,HB1⟩
    case measure => simp [intOf]; omega
  ·
   obtain rfl : i = sp := by omega
   obtain rfl : j = i := by omega
   by_cases hlt : j < n
   ·
    obtain ⟨b,off,rfl⟩ := HL.out.at (by omega)
    have hjr : j < rs.length := by have := HN.out; omega
    have hrow := (HL.out.row j hjr).below HB.out
    have HHas : Hid (has s fs = decide (Dk.cmp rs[j].name s = 0)) := Lib.hid (by
     rw [Bool.eq_iff_iff,has_spot HSo.out,decide_eq_true_iff,Dk.cmp_eq,HNm.out j hjr]
     simp only [HSq.out]
     exact ⟨fun z => z.2,fun z => ⟨hl ▸ hjr,z⟩⟩)
    obtain ⟨r,hr⟩ : ∃ r,rs[j] = r := ⟨_,rfl⟩
    rw [hr] at hrow HHas
    obtain ⟨g0,g1,g2⟩ := hrow
    have HCo : Hid (∀ u,Below wz.heap.size wz u → Calls Tryz.prog 112 #[.agg #[.string r.name,.slice r.bytes.ao r.bytes.n r.bytes.cap,.int .i64 r.kept],.string s] u fun e w' => e = .returned (.int .i64 (Dk.cmp r.name s)) ∧ Below wz.heap.size wz w') := Lib.hid fun u hu => dk_order r s wz u hu
    generalize Dk.cmp r.name s = q at HCo HHas
    clear hr
    by_cases hq : q = 0
    ·
     have hqe : (q == 0) = true := beq_iff_eq.2 hq
     have HH : Hid (has s fs = true) := Lib.hid (by rw [HHas.out]; exact decide_eq_true hq)
     clear hq HHas
     go_wp2_with (go_at_call 112; refine (HCo.out _ (Below.refl _ _)).mono ?_; rintro e w1 ⟨rfl,b1⟩; have HB1 := Lib.hid (bchain HB.out b1); clear b1)
     go_ret2
     exact ⟨by rw [HSq.out,HH.out]; rfl,HB1.out⟩
    ·
     have hqe : (q == 0) = false := beq_eq_false_iff_ne.2 hq
     have HH : Hid (has s fs = false) := Lib.hid (by rw [HHas.out]; exact decide_eq_false hq)
     clear hq HHas
     go_wp2_with (go_at_call 112; refine (HCo.out _ (Below.refl _ _)).mono ?_; rintro e w1 ⟨rfl,b1⟩; have HB1 := Lib.hid (bchain HB.out b1); clear b1)
     go_ret2
     exact ⟨by rw [HSq.out,HH.out]; rfl,HB1.out⟩
   ·
    have HH : Hid (has s fs = false) := Lib.hid (by
     rw [Bool.eq_false_iff]
     intro z
     have h4 := spot_lt HSo.out z
     have h5 := HSq.out
     have h6 := HN.out
     omega)
    go_wp2_with fail
    go_ret2
    exact ⟨by rw [HSq.out,HH.out]; rfl,HB.out⟩
theorem dk_find {P : Nat → Prop} {w : World} {p : Nat} {d : D} {v : Sl} {L : Int} {rs : List Fl.T} (h : At P w p d v L rs) (s : ByteArray) :
  Calls Tryz.prog 70 #[.pointer (some ⟨p,0,none⟩),.string s] w fun e w' => e = .returned (.tuple #[.int .i64 (spot s d.fs : Nat),.bool (has s d.fs)]) ∧ Below w.heap.size w w' := by
 have HA := Lib.hid h
 obtain ⟨c0,c1,c2,c3⟩ := h.box.cells
 have HC := Lib.hid (dk_search rs d.fs s v.ao v.n v.cap w h.ls h.each.len h.each.name h.ok.sorted (by rw [h.n.1]; exact h.few))
 generalize spot s d.fs = sp at HC ⊢
 generalize has s d.fs = hb at HC ⊢
 clear h
 go_enter Tryz.func70,Tryz.ntmps70
 go_wp2_with fail
 refine HC.out.mono ?_
 rintro e w1 ⟨rfl,b1⟩
 have HB := Lib.hid b1
 clear b1 c0 c1 c2 c3
 go_wp2_with fail
 go_ret2
 exact ⟨rfl,HB.out⟩
end Go.Proofs.YtlmjeackfepllaaGreatDoor
namespace Go.Proofs.YtlmjeackfepllaaGreatDoor.Fl
open Go.RowKit
open Mem Dk
theorem _root_.Go.Proofs.YtlmjeackfepllaaGreatDoor.UpdQ.grown {w u : World} {row : Option Nat} (gr : w.grownBy u row) : UpdQ (fun b => row = some b) w u :=
 ⟨gr.size,fun b hb hq => gr.block b hb fun e => hq e.symm,fun w0 a c => a.grown gr a.size fun k e => c k e⟩
theorem _root_.Go.Proofs.YtlmjeackfepllaaGreatDoor.UpdQ.row {Q : Nat → Prop} {g : Nat} (u : World) (hg : Q g) (vs : Array Value) : UpdQ Q u (u.setRow g vs) :=
 ⟨by simp [World.setRow],fun b _ hq => setRow_other u g b vs (fun e => hq (by rw [e]; exact hg)),fun w0 a c => below_setRow a (c g hg) vs⟩
theorem slice_from (g n c k l c' : Nat) (x : Int) (hx : x = (k : Int)) (hk : k + l = n) (hc : k + c' = c) (hl : 0 < c') (hn : n ≤ c) (h63 : c ≤ 9223372036854775807) (u : World) :
  (Instr.slice 74 (.slice (some ⟨g,0,none⟩) n c) (some (.int .i64 x)) none none).run Tryz.prog u = .ok (.slice (some ⟨g,k * 3,none⟩) l c') u := by
 subst hx
 rw [run_slice_l u 74 (some ⟨g,0,none⟩) n c und .i64 k (by omega) (by omega),size]
 have e1 : n - k = l := by omega
 have e2 : c - k = c' := by omega
 have e3 : ¬ c = k := by omega
 simp [Result.andThen,sliced,e1,e2,e3,Addr.add]
 intro h
 exact h.symm
theorem slice_to (g n c k : Nat) (x : Int) (hx : x = (k : Int)) (hk : k ≤ c) (h63 : c ≤ 9223372036854775807) (u : World) :
  (Instr.slice 74 (.slice (some ⟨g,0,none⟩) n c) none (some (.int .i64 x)) none).run Tryz.prog u = .ok (.slice (some ⟨g,0,none⟩) k c) u := by
 subst hx
 rw [run_slice_h u 74 (some ⟨g,0,none⟩) n c und .i64 k (by omega) (by omega),size]
 simp [Result.andThen,sliced,Addr.add]
def Raw (w : World) (g : Nat) (cs : List Value) : Prop := w.heap[g]? = some (.cells cs.toArray 90 (0,0))
def rlaid (cs : List Value) (rs : List T) (o : Nat) : List Value := cs.take (o * 3) ++ rs.flatMap rv ++ cs.drop ((o + rs.length) * 3)
def rcells (cs : List Value) : Array Value := cs.toArray
theorem Raw.laid {u : World} {g : Nat} {cs : List Value} (h : Raw u g cs) (ds : List Value) : Raw (u.setRow g (rcells ds)) g ds := setRow_heap u g _ _ 90 _ h
theorem Raw.drew {u : World} {g : Nat} {cs : List Value} (h : Raw u g cs) : Raw u.drew g cs := h
theorem flat_take : ∀ (M : List T) (o : Nat),(M.flatMap rv).take (o * 3) = (M.take o).flatMap rv
 | [],o => by simp
 | a :: l,0 => by simp
 | a :: l,o + 1 => by
  rw [List.flatMap_cons,List.take_succ_cons,List.flatMap_cons,show (o + 1) * 3 = (rv a).length + o * 3 by rw [rv_len]; omega,List.take_length_add_append,flat_take l o]
theorem copy_raw (u : World) (g : Nat) (cs : List Value) (o dl dc b so sl sc : Nat) (rs : List T) (hb : Raw u g cs) (hk : rs.length = Nat.min sl dl) (ho : (o + rs.length) * 3 ≤ cs.length) (hs : ∀ (k : Nat) (hk : k < rs.length),At u b (so + k * 3) rs[k]) (ty : TypeId) :
  (Builtin.copy_ #[74,74] ty #[.slice (some ⟨g,o * 3,none⟩) dl dc,.slice (some ⟨b,so,none⟩) sl sc]).run Tryz.prog u = .ok (goInt rs.length) (u.setRow g (rcells (rlaid cs rs o))) := by
 obtain ⟨i0,hi,hiK⟩ := Option.map_eq_some_iff.1 sizeZ
 have hl := run_loadCells_list (P := Tryz.prog) u ⟨b,so,none⟩ (rs.flatMap rv) (fun j v hv => news_of hs j v hv)
 have hst := run_storeCells_at Tryz.prog g (o * 3) 90 (rs.flatMap rv) 0 _ u hb (by rw [List.size_toArray,flat_len]; omega) (one_cell rs)
 have hlen : (rs.flatMap rv).length = rs.length * 3 := flat_len rs
 have e : (cs.toArray.toList.take (o * 3 + 0) ++ rs.flatMap rv ++ cs.toArray.toList.drop (o * 3 + 0 + (rs.flatMap rv).length)) = rlaid cs rs o := by
  rw [List.toList_toArray,Nat.add_zero,hlen,show o * 3 + rs.length * 3 = (o + rs.length) * 3 by omega]
  rfl
 rw [e] at hst
 rw [hlen] at hl
 unfold rcells
 simp [Builtin.copy_,run_underlying Tryz.underlying74,Builtin.lenOf,Builtin.firstCells,sizeOf,typeInfo,hi,hiK,← hk,hl,hst]
theorem own_raw {w : World} {B g n cap : Nat} {M : List T} (h : Own w B (.slice (some ⟨g,0,none⟩) n cap) M) : ∃ cs,Raw w g cs ∧ cs.length = cap * 3 ∧ cs.take (n * 3) = M.flatMap rv ∧ n = M.length ∧ n ≤ cap ∧ cap ≤ 9223372036854775807 ∧ B ≤ g := by
 rcases h.2 with ⟨h',_⟩ | ⟨g',cap',cur,h',hb,hg,hnc,hcm,hcs,htake⟩
 · cases h'
 ·
  simp only [Value.slice.injEq,Option.some.injEq,Addr.mk.injEq,and_true] at h'
  obtain ⟨e1,e2,e3⟩ := h'
  subst e1 e3
  refine ⟨cur.toList,?_,by rw [Array.length_toList,hcs],by rw [e2]; exact htake,e2,by rw [e2]; exact hnc,hcm,hb⟩
  unfold Raw
  rw [Array.toArray_toList]
  exact hg
theorem raw_own {w : World} {B g n cap : Nat} {M : List T} {cs : List Value} (h : Raw w g cs) (hl : cs.length = cap * 3) (ht : cs.take (n * 3) = M.flatMap rv) (hn : n = M.length) (hc : n ≤ cap) (hm : cap ≤ 9223372036854775807) (hB : B ≤ g) : Own w B (.slice (some ⟨g,0,none⟩) n cap) M := by
 subst hn
 exact ⟨by rw [flat_len],.inr ⟨g,cap,cs.toArray,rfl,hB,h,hc,by have : maxLen = 9223372036854775807 := rfl; omega,by rw [List.size_toArray,hl],by rw [List.toList_toArray]; exact ht⟩⟩
theorem flat_app (M N : List T) : (M ++ N).flatMap rv = M.flatMap rv ++ N.flatMap rv := List.flatMap_append
theorem laid_one {cs : List Value} {M : List T} {n i : Nat} (hn : n = M.length) (ht : cs.take (n * 3) = M.flatMap rv) (hi : i < n) (hl : (n + 1) * 3 ≤ cs.length) :
  rlaid cs (M.drop i) (i + 1) = (M.take (i + 1)).flatMap rv ++ (M.drop i).flatMap rv ++ cs.drop ((n + 1) * 3) := by
 unfold rlaid
 have e1 : cs.take ((i + 1) * 3) = (M.take (i + 1)).flatMap rv := by
  rw [← flat_take,← ht,List.take_take,Nat.min_eq_left (by omega)]
 have e2 : i + 1 + (M.drop i).length = n + 1 := by rw [List.length_drop]; omega
 rw [e1,e2]
theorem laid_two {X : List Value} {M : List T} {r : T} {n i : Nat} (hn : n = M.length) (hi : i < n) :
  rlaid ((M.take (i + 1)).flatMap rv ++ (M.drop i).flatMap rv ++ X) [r] i = (M.take i ++ r :: M.drop i).flatMap rv ++ X := by
 unfold rlaid
 have h1 : ((M.take (i + 1)).flatMap rv).length = (i + 1) * 3 := by rw [flat_len,List.length_take,Nat.min_eq_left (by omega)]
 have e1 : ((M.take (i + 1)).flatMap rv ++ (M.drop i).flatMap rv ++ X).take (i * 3) = (M.take i).flatMap rv := by
  rw [List.append_assoc,List.take_append_of_le_length (by rw [h1]; omega),flat_take,List.take_take,Nat.min_eq_left (by omega)]
 have e2 : ((M.take (i + 1)).flatMap rv ++ (M.drop i).flatMap rv ++ X).drop ((i + [r].length) * 3) = (M.drop i).flatMap rv ++ X := by
  rw [List.append_assoc,List.drop_left' (by rw [h1]; rfl)]
 rw [e1,e2,flat_app,List.flatMap_cons,List.flatMap_cons,List.flatMap_nil,List.append_nil]
 simp only [List.append_assoc]
theorem size3 (u : World) : (sizeOf 90).run Tryz.prog u = .ok 3 u := by
 obtain ⟨i,hi,hs⟩ := Option.map_eq_some_iff.1 sizeZ
 simp [sizeOf,typeInfo,hi,hs]
theorem Raw.shape {u : World} {g : Nat} {cs : List Value} (h : Raw u g cs) : u.shape? g = some (90,cs.length) := by
 unfold World.shape?
 rw [h]
 simp only [List.size_toArray]
def InsE (w : World) (v : Value) (M : List T) (i : Nat) (r : T) (e : Ending) (w' : World) : Prop := ∃ v',e = .returned v' ∧ Own w' 0 v' (M.take i ++ r :: M.drop i) ∧ (v'.ownBlock = v.ownBlock ∨ ∃ g,v'.ownBlock = some g ∧ w.heap.size ≤ g) ∧ UpdQ (fun b => v.ownBlock = some b) w w'
set_option maxHeartbeats 4000000 in
theorem insert_end (w : World) (ao : Option Addr) (n cap vb : Nat) (M : List T) (r : T) (h : Own w 0 (.slice ao n cap) M) (hs : ∀ x ∈ M,Short x) (hm : n ≤ 1000) (hv : w.heap[vb]? = some (block r)) :
  Calls Tryz.prog 114 #[.slice ao n cap,.int .i64 (n : Int),.slice (some ⟨vb,0,none⟩) 1 1] w (InsE w (.slice ao n cap) M n r) := by
 obtain ⟨ao',cap',e,l,_⟩ := own_ls h hs
 simp only [Value.slice.injEq] at e
 obtain ⟨rfl,hn,rfl⟩ := e
 have hcap := l.reach
 have hfit := l.fits
 rw [← hn] at l hfit
 obtain ⟨ao2,cap2,hsl,_⟩ := l.from n (Nat.le_refl _)
 have HO := Lib.hid h
 have HV := Lib.hid hv
 have HN := Lib.hid hn
 clear h hs hv l hn
 have hnn : ((n : Int) == (n : Int)) = true := beq_self_eq_true _
 go_enter Tryz.func114,Tryz.ntmps114
 go_wp2_with (at_builtin; go_must (refine wpList_append w rfl (.tmp 23) (.tmp 24) rfl 0 (.slice ao n cap) M rfl HO.out (some ⟨vb,0,none⟩) 1 1 [r] rfl rfl (fun z => by cases z) (seg_block HV.out) (by have := HN.out; omega) (Nat.zero_le _) ?_))
 intro v' w1 o1 gr1 at1
 have HI : Hid (InsE w (.slice ao n cap) M n r (.returned v') w1) := Lib.hid ⟨v',rfl,by rw [List.take_of_length_le (by have := HN.out; omega),List.drop_eq_nil_of_le (by have := HN.out; omega)]; exact o1,at1.imp id fun z => ⟨_,z,Nat.le_refl _⟩,UpdQ.grown gr1⟩
 clear o1 gr1 at1
 go_wp2_with fail
 go_ret
 exact HI.out
set_option maxHeartbeats 4000000 in
theorem insert_mid (w : World) (g n cap vb i : Nat) (M : List T) (r : T) (h : Own w 0 (.slice (some ⟨g,0,none⟩) n cap) M) (hv : w.heap[vb]? = some (block r)) (hne : vb ≠ g) (hi : i < n) (hroom : n + 1 ≤ cap) (hm : n ≤ 1000) :
  Calls Tryz.prog 114 #[.slice (some ⟨g,0,none⟩) n cap,.int .i64 (i : Int),.slice (some ⟨vb,0,none⟩) 1 1] w (InsE w (.slice (some ⟨g,0,none⟩) n cap) M i r) := by
 obtain ⟨cs,hR,hl,ht,hn,hnc,hcm,_⟩ := own_raw h
 have hs1 := slice_from g n cap i (n - i) (cap - i) (i : Int) rfl (by omega) (by omega) (by omega) (by omega) hcm
 have hs2 := slice_to g n cap (n + 1) ((n : Int) + 1) (by omega) (by omega) hcm
 have hs3 := slice_from g (n + 1) cap (i + 1) (n - i) (cap - (i + 1)) ((i : Int) + 1) (by omega) (by omega) (by omega) (by omega) (by omega) hcm
 have hs4 := slice_from g (n + 1) cap i (n + 1 - i) (cap - i) (i : Int) rfl (by omega) (by omega) (by omega) (by omega) hcm
 have hov : ∀ lb cb,(callFunc 140 #[.slice (some ⟨vb,0,none⟩) 1 1,.slice (some ⟨g,(i + 1) * 3,none⟩) lb cb]).run Tryz.prog w = .ok (.value (.bool false)) w := fun lb cb => by
  rw [run_callFunc_extern Tryz.func140 (by kernel_rfl) (by kernel_rfl) (by kernel_rfl) (e := Extern.SlicesOverlaps.overlaps #[74,74] #[4]) (by kernel_rfl),
   Lib.run_overlaps_apart w 74 4 90 Tryz.underlying74 3 size3 ⟨vb,0,none⟩ ⟨g,(i + 1) * 3,none⟩ 1 1 lb cb hne 90 90 3 cs.length (by unfold World.shape?; rw [hv]; rfl) hR.shape (by rw [hl]; omega) (frozen_of_row w vb 0 _ _ hv) (frozen_of_row w vb 3 _ _ hv)]
  rfl
 have hd : (M.drop i).length = n - i := by rw [List.length_drop,hn]
 have hl1 : (n + 1) * 3 ≤ cs.length := by omega
 obtain ⟨W1,hW1⟩ : ∃ W1,w.drew.setRow g (rcells ((M.take (i + 1)).flatMap rv ++ (M.drop i).flatMap rv ++ cs.drop ((n + 1) * 3))) = W1 := ⟨_,rfl⟩
 have hB1 : Raw W1 g ((M.take (i + 1)).flatMap rv ++ (M.drop i).flatMap rv ++ cs.drop ((n + 1) * 3)) := hW1 ▸ hR.drew.laid _
 have hcp1 : ∀ ty dc sc,(Builtin.copy_ #[74,74] ty #[.slice (some ⟨g,(i + 1) * 3,none⟩) (n - i) dc,.slice (some ⟨g,i * 3,none⟩) (n + 1 - i) sc]).run Tryz.prog w.drew = .ok (goInt (n - i : Nat)) W1 := fun ty dc sc => by
  have hcp := copy_raw w.drew g cs (i + 1) (n - i) dc g (i * 3) (n + 1 - i) sc (M.drop i) hR.drew (by rw [hd]; simp only [Nat.min_def]; split <;> omega) (by rw [hd]; omega) (fun k hk => by
   have hr := (own_at (own_drew h) (i + k) (by omega)).1
   rw [List.getElem_drop,show i * 3 + k * 3 = (i + k) * 3 by omega]
   exact hr) ty
  rw [laid_one hn ht hi hl1,hW1,hd] at hcp
  exact hcp
 have hvW : W1.heap[vb]? = some (block r) := by
  rw [← hW1,setRow_other w.drew g vb _ hne]
  exact hv
 obtain ⟨W2,hW2⟩ : ∃ W2,W1.setRow g (rcells ((M.take i ++ r :: M.drop i).flatMap rv ++ cs.drop ((n + 1) * 3))) = W2 := ⟨_,rfl⟩
 have hlen1 : ((M.take (i + 1)).flatMap rv ++ (M.drop i).flatMap rv ++ cs.drop ((n + 1) * 3)).length = cap * 3 := by
  rw [List.length_append,List.length_append,flat_len,flat_len,List.length_take,hd,List.length_drop,hl,Nat.min_eq_left (by omega)]
  omega
 have hcp2 : ∀ ty dc,(Builtin.copy_ #[74,74] ty #[.slice (some ⟨g,i * 3,none⟩) (n + 1 - i) dc,.slice (some ⟨vb,0,none⟩) 1 1]).run Tryz.prog W1 = .ok (goInt 1) W2 := fun ty dc => by
  have hsg := seg_block hvW
  have hcp := copy_raw W1 g _ i (n + 1 - i) dc vb 0 1 1 [r] hB1 (by simp only [Nat.min_def,List.length_singleton]; split <;> omega) (by rw [hlen1]; simp only [List.length_singleton]; omega) (by
   rcases hsg with e | ⟨b,off,e,hat⟩
   · cases e
   ·
    cases e
    exact hat) ty
  rw [laid_two hn hi,hW2] at hcp
  exact hcp
 have hlen2 : ((M.take i ++ r :: M.drop i).flatMap rv).length = (n + 1) * 3 := by
  rw [flat_len,List.length_append,List.length_cons,List.length_take,hd,Nat.min_eq_left (by omega)]
  omega
 have HI : Hid (InsE w (.slice (some ⟨g,0,none⟩) n cap) M i r (.returned (.slice (some ⟨g,0,none⟩) (n + 1) cap)) W2) := Lib.hid (by
  refine ⟨_,rfl,raw_own (cs := (M.take i ++ r :: M.drop i).flatMap rv ++ cs.drop ((n + 1) * 3)) ?_ ?_ ?_ ?_ hroom hcm (Nat.zero_le _),.inl rfl,?_⟩
  ·
   rw [← hW2]
   exact hB1.laid _
  ·
   rw [List.length_append,hlen2,List.length_drop,hl]
   omega
  · rw [List.take_left' hlen2]
  ·
   rw [List.length_append,List.length_cons,List.length_take,hd,Nat.min_eq_left (by omega)]
   omega
  ·
   rw [← hW2,← hW1]
   exact ((UpdQ.of (Below.refl _ _).drew).trans (UpdQ.row (Q := fun b => (Value.slice (some ⟨g,0,none⟩) n cap).ownBlock = some b) w.drew rfl _)).trans (UpdQ.row (Q := fun b => (Value.slice (some ⟨g,0,none⟩) n cap).ownBlock = some b) _ rfl _))
 have hin' : ((i : Int) == (n : Int)) = false := beq_eq_false_iff_ne.2 (by omega)
 have hcn : (n : Int) + 1 ≤ (cap : Int) := by omega
 have hi1 : (i : Int) + 1 ≤ (n : Int) := by omega
 clear h hv hR hl ht hn hW1 hW2 hB1 hd hvW hne hl1 hlen1 hlen2
 go_enter Tryz.func114,Tryz.ntmps114
 go_wp2_with (simp only [hov])
 go_region
 go_wp2_with fail
 go_ret
 exact HI.out
end Go.Proofs.YtlmjeackfepllaaGreatDoor.Fl
