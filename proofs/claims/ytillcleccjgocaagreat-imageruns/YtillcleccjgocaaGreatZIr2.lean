import Derived.WalkKit
import Derived.Maps.AppendAt
import Derived.Laws.AppendOwnNone
import Derived.Laws.Rows
import Derived.RegionTactic
import Derived.Test.YtillcleccjgocaaGreatZIr1
namespace Go.Proofs.YtillcleccjgocaaGreat.Vt
theorem less_irrefl : ∀ l : List UInt8,Op.bytesLess l l = false
 | [] => rfl
 | a :: l => by
  have h := less_irrefl l
  rw [Bool.eq_false_iff]
  intro k
  rw [Dt.less_same,h] at k
  cases k
theorem less_trans : ∀ a b c : List UInt8,Op.bytesLess a b = true → Op.bytesLess b c = true → Op.bytesLess a c = true
 | _,_,[],_,h => by rw [Dt.less_nil] at h; cases h
 | _,[],_ :: _,h,_ => by rw [Dt.less_nil] at h; cases h
 | [],_ :: _,_ :: _,_,_ => rfl
 | x :: a,y :: b,z :: c,h,k => by
  rw [Dt.less_cons] at h k ⊢
  rcases h with h | ⟨rfl,h⟩
  ·
   rcases k with k | ⟨rfl,k⟩
   · exact .inl (UInt8.lt_trans h k)
   · exact .inl h
  ·
   rcases k with k | ⟨rfl,k⟩
   · exact .inl k
   · exact .inr ⟨rfl,less_trans a b c h k⟩
theorem less_tri : ∀ a b : List UInt8,Op.bytesLess a b = true ∨ a = b ∨ Op.bytesLess b a = true
 | [],[] => .inr (.inl rfl)
 | [],_ :: _ => .inl rfl
 | _ :: _,[] => .inr (.inr rfl)
 | x :: a,y :: b => by
  rw [Dt.less_cons,Dt.less_cons]
  have h3 : x.toNat < y.toNat ∨ x.toNat = y.toNat ∨ y.toNat < x.toNat := by omega
  rcases h3 with h | h | h
  · exact .inl (.inl (UInt8.lt_iff_toNat_lt.2 h))
  ·
   obtain rfl : x = y := UInt8.toNat_inj.1 h
   rcases less_tri a b with k | rfl | k
   · exact .inl (.inr ⟨rfl,k⟩)
   · exact .inr (.inl rfl)
   · exact .inr (.inr (.inr ⟨rfl,k⟩))
  · exact .inr (.inr (.inl (UInt8.lt_iff_toNat_lt.2 h)))
structure Rt where
 cat : ByteArray
 y : Int
 m : Int
 d : Int
 bp : Int
def dy (r : Rt) : Int := Dt.days r.y r.m r.d
def lt (a b : Rt) : Bool := if a.cat = b.cat then decide (dy a < dy b) else Op.bytesLess a.cat.toList b.cat.toList
theorem lt_same {a b : Rt} (h : a.cat = b.cat) : lt a b = decide (dy a < dy b) := if_pos h
theorem lt_other {a b : Rt} (h : a.cat ≠ b.cat) : lt a b = Op.bytesLess a.cat.toList b.cat.toList := if_neg h
theorem cat_ext {a b : ByteArray} (h : a.toList = b.toList) : a = b := txt_ext (by rw [← tl,← tl]; exact h)
theorem lt_trans {a b c : Rt} (h : lt a b = true) (k : lt b c = true) : lt a c = true := by
 by_cases e : a.cat = b.cat
 ·
  rw [lt_same e,decide_eq_true_iff] at h
  by_cases f : b.cat = c.cat
  ·
   rw [lt_same f,decide_eq_true_iff] at k
   rw [lt_same (e.trans f),decide_eq_true_iff]
   omega
  ·
   rw [lt_other f] at k
   rw [lt_other (by rw [e]; exact f),e]
   exact k
 ·
  rw [lt_other e] at h
  by_cases f : b.cat = c.cat
  ·
   rw [lt_other (by rw [← f]; exact e),← f]
   exact h
  ·
   rw [lt_other f] at k
   have t := less_trans _ _ _ h k
   rw [lt_other]
   · exact t
   ·
    intro g
    rw [g] at h
    have := less_trans _ _ _ h k
    rw [less_irrefl] at this
    cases this
def rowE (r : Rt) : Int := if Rn.name (txt r.cat) = false then 8 else if Dt.rightB r.y r.m r.d = false then 9 else if r.bp < 0 ∨ 100000 < r.bp then 10 else 0
theorem rowE_0 {r : Rt} : rowE r = 0 ↔ Rn.name (txt r.cat) = true ∧ Dt.rightB r.y r.m r.d = true ∧ 0 ≤ r.bp ∧ r.bp ≤ 100000 := by
 unfold rowE
 cases Rn.name (txt r.cat)
 · simp
 ·
  cases Dt.rightB r.y r.m r.d
  · simp
  · simp
theorem rowE_name {r : Rt} (h : Rn.name (txt r.cat) = false) : rowE r = 8 := if_pos h
theorem rowE_day {r : Rt} (h : Rn.name (txt r.cat) = true) (k : Dt.rightB r.y r.m r.d = false) : rowE r = 9 := by
 unfold rowE
 rw [if_neg (by rw [h]; simp),if_pos k]
theorem rowE_bp {r : Rt} (h : Rn.name (txt r.cat) = true) (k : Dt.rightB r.y r.m r.d = true) (l : r.bp < 0 ∨ 100000 < r.bp) : rowE r = 10 := by
 unfold rowE
 rw [if_neg (by rw [h]; simp),if_neg (by rw [k]; simp),if_pos l]
def ok (p : Option Rt) (r : Rt) : Bool := decide (rowE r = 0) && (match p with | none => true | some q => lt q r)
def okAll : Option Rt → List Rt → Bool
 | _,[] => true
 | p,r :: l => ok p r && okAll (some r) l
def tableB (l : List Rt) : Bool := decide (l.length ≤ 24) && okAll none l
def Sorted (l : List Rt) : Prop := l.Pairwise fun a b => lt a b = true
theorem okAll_iff : ∀ (l : List Rt) (p : Option Rt),okAll p l = true ↔ (∀ r ∈ l,rowE r = 0) ∧ Sorted l ∧ (∀ q,p = some q → ∀ r ∈ l,lt q r = true)
 | [],p => by simp [okAll,Sorted]
 | a :: l,p => by
  have ih := okAll_iff l (some a)
  rw [okAll,Bool.and_eq_true,ih]
  unfold ok Sorted
  rw [Bool.and_eq_true,decide_eq_true_iff,List.pairwise_cons]
  constructor
  ·
   rintro ⟨⟨h1,h2⟩,h3,h4,h5⟩
   refine ⟨?_,⟨h5 a rfl,h4⟩,?_⟩
   ·
    intro r hr
    rcases List.mem_cons.1 hr with rfl | hr
    · exact h1
    · exact h3 r hr
   ·
    rintro q rfl r hr
    rcases List.mem_cons.1 hr with rfl | hr
    · exact h2
    · exact lt_trans h2 (h5 a rfl r hr)
  ·
   rintro ⟨h1,⟨h2,h3⟩,h4⟩
   refine ⟨⟨h1 a (List.mem_cons_self ..),?_⟩,fun r hr => h1 r (List.mem_cons_of_mem _ hr),h3,?_⟩
   ·
    cases p with
    | none => rfl
    | some q => exact h4 q rfl a (List.mem_cons_self ..)
   ·
    rintro q ⟨⟩ r hr
    exact h2 r hr
theorem table_long {l : List Rt} (h : 24 < l.length) : tableB l = false := by
 unfold tableB
 rw [decide_eq_false (by omega)]
 rfl
theorem table_short {l : List Rt} (h : l.length ≤ 24) : tableB l = okAll none l := by
 unfold tableB
 rw [decide_eq_true h]
 rfl
def prevAt (l : List Rt) (k : Nat) : Option Rt := if k = 0 then none else l[k - 1]?
theorem okAll_at (l : List Rt) (k : Nat) (h : k < l.length) : okAll (prevAt l k) (l.drop k) = (ok (prevAt l k) l[k] && okAll (prevAt l (k + 1)) (l.drop (k + 1))) := by
 rw [List.drop_eq_getElem_cons h,okAll]
 congr 2
 unfold prevAt
 rw [if_neg (by omega),Nat.add_sub_cancel,List.getElem?_eq_getElem h]
end Go.Proofs.YtillcleccjgocaaGreat.Vt
namespace Go.Proofs.YtillcleccjgocaaGreat.Sr
open Go.RowKit
open Mem
def rv (r : T) : List Value := [.string r.name,.int .i64 r.next,.int .i64 r.limit,.bool r.shut]
theorem rv_len (r : T) : (rv r).length = 4 := rfl
theorem flat_len : ∀ rs : List T,(rs.flatMap rv).length = rs.length * 4
 | [] => rfl
 | r :: l => by
  rw [List.flatMap_cons,List.length_append,rv_len,flat_len l,List.length_cons]
  omega
theorem flat_at : ∀ (rs : List T) (k p : Nat) (hk : k < rs.length),p < 4 → (rs.flatMap rv)[k * 4 + p]? = (rv rs[k])[p]?
 | r :: l,0,p,_,hp => by
  rw [List.flatMap_cons,List.getElem?_append_left (by rw [rv_len]; omega),Nat.zero_mul,Nat.zero_add]
  rfl
 | r :: l,k + 1,p,hk,hp => by
  rw [List.flatMap_cons,List.getElem?_append_right (by rw [rv_len]; omega),rv_len,show (k + 1) * 4 + p - 4 = k * 4 + p by omega]
  exact flat_at l k p (by simpa using hk) hp
theorem one_cell (rs : List T) : ∀ v ∈ rs.flatMap rv,v.oneCell' = true := by
 intro v hv
 obtain ⟨r,_,h⟩ := List.mem_flatMap.1 hv
 unfold rv at h
 simp only [List.mem_cons,List.not_mem_nil,or_false] at h
 rcases h with rfl | rfl | rfl | rfl <;> rfl
theorem news_of {w : World} {b off : Nat} {rs : List T} (h : ∀ (k : Nat) (hk : k < rs.length),At w b (off + k * 4) rs[k]) (j : Nat) (u : Value) (hu : (rs.flatMap rv)[j]? = some u) : w.cell? ((⟨b,off,none⟩ : Addr).add j) = some u := by
 have hj : j < (rs.flatMap rv).length := by
  obtain ⟨hj,_⟩ := List.getElem?_eq_some_iff.1 hu
  exact hj
 rw [flat_len] at hj
 obtain ⟨k,p,rfl,hp⟩ : ∃ k p,j = k * 4 + p ∧ p < 4 := ⟨j / 4,j % 4,by omega,by omega⟩
 have hk : k < rs.length := by omega
 rw [flat_at rs k p hk hp] at hu
 have ha : (⟨b,off,none⟩ : Addr).add (k * 4 + p) = ⟨b,off + k * 4 + p,none⟩ := by
  unfold Addr.add
  split
  ·
   rename_i e
   simp only [Addr.mk.injEq,true_and,and_true]
   omega
  ·
   simp only [Addr.mk.injEq,true_and,and_true]
   omega
 rw [ha]
 obtain ⟨c0,c1,c2,c3⟩ := h k hk
 have hp' : p = 0 ∨ p = 1 ∨ p = 2 ∨ p = 3 := by omega
 unfold rv at hu
 rcases hp' with rfl | rfl | rfl | rfl
 all_goals simp at hu
 all_goals subst hu
 · exact c0
 · exact c1
 · exact c2
 · exact c3
def Own (w : World) (B : Nat) (v : Value) (xs : List T) : Prop := w.ownsRow B 66 4 v xs.length (xs.flatMap rv)
theorem own_nil (w : World) (B : Nat) : Own w B (.slice none 0 0) [] := ⟨rfl,.inl ⟨rfl,rfl⟩⟩
theorem own_ls {w : World} {B : Nat} {v : Value} {xs : List T} (h : Own w B v xs) (hs : ∀ r ∈ xs,Short r) : ∃ ao cap,v = .slice ao xs.length cap ∧ Ls w ao xs.length cap xs ∧ (∀ ad,ao = some ad → ∃ g,ad = ⟨g,0,none⟩ ∧ B ≤ g) := by
 rcases h.2 with ⟨h',h2⟩ | ⟨g,cap,cur,h',hb,hg,hnc,hcm,hcs,htake⟩
 ·
  have e : xs = [] := List.length_eq_zero_iff.1 h2
  subst e
  exact ⟨none,0,h',⟨rfl,Nat.le_refl _,by omega,fun _ => rfl,.inl rfl,hs⟩,fun ad k => by cases k⟩
 ·
  refine ⟨some ⟨g,0,none⟩,cap,h',⟨rfl,hnc,hcm,fun k => (by cases k),.inr ⟨g,0,rfl,fun k hk => ?_⟩,hs⟩,fun ad k => by cases k; exact ⟨g,rfl,hb⟩⟩
  have hcell : ∀ p,p < 4 → w.cell? ⟨g,0 + k * 4 + p,none⟩ = (rv xs[k])[p]? := by
   intro p hp
   rw [Nat.zero_add,cell_of_row w g _ _ _ _ hg,← flat_at xs k p hk hp,← htake,List.getElem?_take_of_lt (by omega)]
   simp
  exact ⟨hcell 0 (by omega),hcell 1 (by omega),hcell 2 (by omega),hcell 3 (by omega)⟩
def zero : T := ⟨.empty,0,0,false⟩
def zeroV : Value := .agg #[.string .empty,.int .i64 0,.int .i64 0,.bool false]
theorem info : (Tryz.prog.info? 66).map (fun i => (i.zero,i.size,i.bytes)) = some (some zeroV,4,40) := by kernel_rfl
theorem wp_append {o : Oper} {a : Act} {K : Act → World → Prop} {Q : Exit → Act → World → Prop} (w : World) (s x : Operand)
  (ho : o.op = .call { callee := .builtin .append,args := #[s,x],argTypes := #[25,25] })
  (B : Nat) (v : Value) (xs : List T) (hs : a.eval s = v) (hown : Own w B v xs)
  (ao : Option Addr) (n cap : Nat) (zs : List T) (hx : a.eval x = .slice ao n cap) (hn : n = zs.length) (hnil : ao = none → cap = 0) (hsrc : Seg w ao zs) (hl : (xs.length + n) * 40 ≤ 140737488355328) (hb : B ≤ w.heap.size)
  (h : ∀ v' w1,Own w1 B v' (xs ++ zs) → w.grownBy w1 v.ownBlock → (v'.ownBlock = v.ownBlock ∨ v'.ownBlock = some w.heap.size) → K (a.put o.dst v') w1) : o.wp Tryz.prog a w K Q := by
 have hzs : zeroV.cells.size = 4 := rfl
 obtain ⟨i0,hi,hz0,hz1,hz2⟩ := info_parts info
 have hmx : maxLen = 9223372036854775807 := rfl
 have empty : zs = [] → n = 0 → Own w B v (xs ++ zs) := by
  intro e _
  rw [e,List.append_nil]
  exact hown
 cases ao with
 | none =>
  obtain rfl : cap = 0 := hnil rfl
  rcases hsrc with e | ⟨b,off,e,_⟩
  ·
   obtain rfl : n = 0 := by rw [hn,e]; rfl
   have hrun := run_append_owned_none (P := Tryz.prog) (w := w) B 25 o.type 66 i0 4 Tryz.underlying25 hi v _ _ hown
   unfold Oper.wp
   simp [execOp,ho,resolve,invoke,builtin,hs,hx,hrun,Result.andThen]
   exact h v w (empty e rfl) ⟨rfl,rfl,rfl,Nat.le_refl _,fun _ _ _ => rfl⟩ (.inl rfl)
  · cases e
 | some ad =>
  obtain ⟨v',w',hr,h2,h3,_,h5⟩ := run_append_own_at (P := Tryz.prog) w B 25 o.type 66 i0 zeroV 4 40 Tryz.underlying25 hi hz0 hz1 hz2 hzs (by omega) v xs.length (xs.flatMap rv) hown ad n cap (zs.flatMap rv) (by rw [flat_len,hn]) (by
   rcases hsrc with e | ⟨b,off,e,hc⟩
   ·
    rw [e]
    intro j u hu
    simp at hu
   ·
    cases e
    exact fun j u hu => news_of hc j u hu) (one_cell zs) (by omega) hl hb
  unfold Oper.wp execOp
  simp only [ho,resolve,invoke,builtin,Sem.run_bind,Sem.run_pure,Result.andThen_ok,List.map_toArray,List.map_cons,List.map_nil,hs,hx,hr]
  refine h v' w' ?_ h3 h5
  unfold Own
  rw [List.flatMap_append,List.length_append,← hn]
  exact h2
theorem wpList_append {ops : Array Oper} {rest : List Oper} {o : Oper} {a : Act} {Q : Exit → Act → World → Prop} (w : World) (hgd : o.guard = none) (s x : Operand)
  (ho : o.op = .call { callee := .builtin .append,args := #[s,x],argTypes := #[25,25] })
  (B : Nat) (v : Value) (xs : List T) (hs : a.eval s = v) (hown : Own w B v xs)
  (ao : Option Addr) (n cap : Nat) (zs : List T) (hx : a.eval x = .slice ao n cap) (hn : n = zs.length) (hnil : ao = none → cap = 0) (hsrc : Seg w ao zs) (hl : (xs.length + n) * 40 ≤ 140737488355328) (hb : B ≤ w.heap.size)
  (h : ∀ v' w1,Own w1 B v' (xs ++ zs) → w.grownBy w1 v.ownBlock → (v'.ownBlock = v.ownBlock ∨ v'.ownBlock = some w.heap.size) → wpList Tryz.prog ops Q rest (a.put o.dst v') w1) : wpList Tryz.prog ops Q (o :: rest) a w :=
 wpList_plain hgd fun _ hK => wp_append w s x ho B v xs hs hown ao n cap zs hx hn hnil hsrc hl hb fun v' w1 h1 h2 h3 => hK _ _ (h v' w1 h1 h2 h3)
theorem own_alloc {w : World} {B : Nat} {v : Value} {xs : List T} (h : Own w B v xs) (o : Obj) : Own (w.alloc o) B v xs := World.ownsRow.alloc h o
theorem own_below {w u : World} {B : Nat} {v : Value} {xs : List T} (h : Own w B v xs) (k : Below w.heap.size w u) : Own u B v xs := by
 obtain ⟨h1,h2⟩ := h
 refine ⟨h1,?_⟩
 rcases h2 with h2 | ⟨g,cap,cur,h',hb,hg,h3⟩
 · exact .inl h2
 ·
  refine .inr ⟨g,cap,cur,h',hb,?_,h3⟩
  have hl : g < w.heap.size := by
   obtain ⟨hl,_⟩ := Array.getElem?_eq_some_iff.1 hg
   exact hl
  rw [k.block g hl]
  exact hg
def block (r : T) : Obj := .cells #[.string r.name,.int .i64 r.next,.int .i64 r.limit,.bool r.shut] 66 (0,0)
theorem seg_block {X : World} {g : Nat} {r : T} (h : X.heap[g]? = some (block r)) : Seg X (some ⟨g,0,none⟩) [r] := by
 refine .inr ⟨g,0,rfl,fun k hk => ?_⟩
 obtain rfl : k = 0 := by simpa using hk
 unfold block at h
 refine ⟨?_,?_,?_,?_⟩
 all_goals rw [cell_of_row X g _ _ _ _ h]
 all_goals rfl
end Go.Proofs.YtillcleccjgocaaGreat.Sr
set_option linter.unusedVariables false
namespace Go.Proofs.YtillcleccjgocaaGreat.Se
open Sr (T)
def lt (a b : ByteArray) : Bool := Op.bytesLess a.toList b.toList
theorem lt_trans {a b c : ByteArray} (h : lt a b = true) (k : lt b c = true) : lt a c = true := Vt.less_trans _ _ _ h k
theorem lt_irrefl (a : ByteArray) : lt a a = false := Vt.less_irrefl _
theorem lt_ne {a b : ByteArray} (h : lt a b = true) : a ≠ b := by
 rintro rfl
 rw [lt_irrefl] at h
 cases h
def lim (n : Int) : Bool := decide (1 ≤ n) && decide (n ≤ 1099511627776)
theorem lim_iff {n : Int} : lim n = true ↔ 1 ≤ n ∧ n ≤ 1099511627776 := by
 unfold lim
 rw [Bool.and_eq_true,decide_eq_true_iff,decide_eq_true_iff]
theorem lim_no {n : Int} : lim n = false ↔ n < 1 ∨ 1099511627776 < n := by
 rw [Bool.eq_false_iff,ne_eq,lim_iff]
 omega
def sound (r : T) : Bool := Rn.name (txt r.name) && (lim r.limit && (decide (1 ≤ r.next) && decide (r.next ≤ r.limit + 1)))
theorem sound_iff {r : T} : sound r = true ↔ Rn.name (txt r.name) = true ∧ lim r.limit = true ∧ 1 ≤ r.next ∧ r.next ≤ r.limit + 1 := by
 unfold sound
 rw [Bool.and_eq_true,Bool.and_eq_true,Bool.and_eq_true,decide_eq_true_iff,decide_eq_true_iff]
theorem sound_no {r : T} (h : Rn.name (txt r.name) = false ∨ lim r.limit = false ∨ r.next < 1 ∨ r.limit + 1 < r.next) : sound r = false := by
 rw [Bool.eq_false_iff]
 intro k
 obtain ⟨k1,k2,k3,k4⟩ := sound_iff.1 k
 rcases h with h | h | h | h
 · rw [k1] at h; cases h
 · rw [k2] at h; cases h
 · omega
 · omega
def ok (p : Option T) (r : T) : Bool := sound r && (match p with | none => true | some q => lt q.name r.name)
def okAll : Option T → List T → Bool
 | _,[] => true
 | p,r :: l => ok p r && okAll (some r) l
def rightB (l : List T) : Bool := decide (l.length ≤ 8) && okAll none l
def Sorted (l : List T) : Prop := l.Pairwise fun a b => lt a.name b.name = true
theorem okAll_iff : ∀ (l : List T) (p : Option T),okAll p l = true ↔ (∀ r ∈ l,sound r = true) ∧ Sorted l ∧ (∀ q,p = some q → ∀ r ∈ l,lt q.name r.name = true)
 | [],p => by simp [okAll,Sorted]
 | a :: l,p => by
  have ih := okAll_iff l (some a)
  rw [okAll,Bool.and_eq_true,ih]
  unfold ok Sorted
  rw [Bool.and_eq_true,List.pairwise_cons]
  constructor
  ·
   rintro ⟨⟨h1,h2⟩,h3,h4,h5⟩
   refine ⟨?_,⟨h5 a rfl,h4⟩,?_⟩
   ·
    intro r hr
    rcases List.mem_cons.1 hr with rfl | hr
    · exact h1
    · exact h3 r hr
   ·
    rintro q rfl r hr
    rcases List.mem_cons.1 hr with rfl | hr
    · exact h2
    · exact lt_trans h2 (h5 a rfl r hr)
  ·
   rintro ⟨h1,⟨h2,h3⟩,h4⟩
   refine ⟨⟨h1 a (List.mem_cons_self ..),?_⟩,fun r hr => h1 r (List.mem_cons_of_mem _ hr),h3,?_⟩
   ·
    cases p with
    | none => rfl
    | some q => exact h4 q rfl a (List.mem_cons_self ..)
   ·
    rintro q ⟨⟩ r hr
    exact h2 r hr
theorem right_iff (l : List T) : rightB l = true ↔ l.length ≤ 8 ∧ (∀ r ∈ l,sound r = true) ∧ Sorted l := by
 unfold rightB
 rw [Bool.and_eq_true,decide_eq_true_iff,okAll_iff]
 simp
theorem right_long {l : List T} (h : 8 < l.length) : rightB l = false := by
 unfold rightB
 rw [decide_eq_false (by omega)]
 rfl
theorem right_short {l : List T} (h : l.length ≤ 8) : rightB l = okAll none l := by
 unfold rightB
 rw [decide_eq_true h]
 rfl
def prevAt (l : List T) (k : Nat) : Option T := if k = 0 then none else l[k - 1]?
theorem okAll_at (l : List T) (k : Nat) (h : k < l.length) : okAll (prevAt l k) (l.drop k) = (ok (prevAt l k) l[k] && okAll (prevAt l (k + 1)) (l.drop (k + 1))) := by
 rw [List.drop_eq_getElem_cons h,okAll]
 congr 2
 unfold prevAt
 rw [if_neg (by omega),Nat.add_sub_cancel,List.getElem?_eq_getElem h]
theorem prev_at {l : List T} {j : Nat} {q : T} (h : j < l.length) (hq : l[j] = q) : prevAt l (j + 1) = some q := by
 unfold prevAt
 rw [if_neg (by omega),Nat.add_sub_cancel,List.getElem?_eq_getElem h,hq]
def ix (s : ByteArray) : List T → Nat
 | [] => 0
 | r :: l => if r.name = s then 0 else ix s l + 1
theorem ix_name {s : ByteArray} : ∀ {l : List T} (h : ix s l < l.length),(l[ix s l]).name = s
 | [],h => absurd h (Nat.not_lt_zero _)
 | r :: l,h => by
  by_cases e : r.name = s
  ·
   have h0 : ix s (r :: l) = 0 := if_pos e
   simp only [h0,List.getElem_cons_zero]
   exact e
  ·
   have h0 : ix s (r :: l) = ix s l + 1 := if_neg e
   have h1 : ix s l < l.length := by rw [h0] at h; simpa using h
   simp only [h0,List.getElem_cons_succ]
   exact ix_name h1
theorem ix_mem {s : ByteArray} {l : List T} : ix s l < l.length ↔ ∃ r ∈ l,r.name = s := by
 constructor
 ·
  intro h
  exact ⟨_,List.getElem_mem h,ix_name h⟩
 ·
  rintro ⟨r,hr,rfl⟩
  by_cases h : ix r.name l < l.length
  · exact h
  ·
   exfalso
   have : ∀ (l : List T),r ∈ l → ix r.name l < l.length := by
    intro l
    induction l with
    | nil => intro h; cases h
    | cons a l ih =>
     intro h
     unfold ix
     split
     · simp
     ·
      rename_i e
      rcases List.mem_cons.1 h with rfl | h
      · exact absurd rfl e
      ·
       have := ih h
       simp
       exact this
   exact h (this l hr)
end Go.Proofs.YtillcleccjgocaaGreat.Se
namespace Go.Proofs.YtillcleccjgocaaGreat.Pt
open Go.RowKit
open Mem
structure T where
 cat : ByteArray
 bp : Int
 net : Int
 tax : Int
def Short (r : T) : Prop := r.cat.size ≤ 140737488355328 ∧ Fit r.bp ∧ Fit r.net ∧ Fit r.tax
def box (w : World) (r : T) : World := w.alloc (.cells #[.string r.cat,.int .i64 r.bp,.int .i64 r.net,.int .i64 r.tax] 134)
def C (u : World) (b : Nat) (r : T) : Prop :=
 u.cell? ⟨b,0,none⟩ = some (.string r.cat) ∧ u.cell? ⟨b,1,none⟩ = some (.int .i64 r.bp) ∧ u.cell? ⟨b,2,none⟩ = some (.int .i64 r.net) ∧ u.cell? ⟨b,3,none⟩ = some (.int .i64 r.tax)
theorem C.below {u v : World} {b : Nat} {r : T} (h : C u b r) (k : Below u.heap.size u v) : C v b r := by
 obtain ⟨h0,h1,h2,h3⟩ := h
 have hl := cell_lt h0
 unfold C
 rw [(bcell k).1 _ _ hl,(bcell k).1 _ _ hl,(bcell k).1 _ _ hl,(bcell k).1 _ _ hl]
 exact ⟨h0,h1,h2,h3⟩
theorem c_box (w : World) (r : T) : C (box w r) w.heap.size r := by
 unfold box C
 simp [go_sem]
theorem below_own (w : World) (r : T) : Below w.heap.size w (box w r) := (Below.refl _ _).alloc (Nat.le_refl _) _
theorem boxed1 (w : World) (a : T) : ∃ W,w.alloc (.cells #[.string a.cat,.int .i64 a.bp,.int .i64 a.net,.int .i64 a.tax] 134) = W ∧ Below w.heap.size w W ∧ C W w.heap.size a :=
 ⟨_,rfl,below_own w a,c_box w a⟩
end Go.Proofs.YtillcleccjgocaaGreat.Pt
namespace Go.Proofs.YtillcleccjgocaaGreat.Pt
open Go.RowKit
open Mem
structure At (u : World) (b o : Nat) (r : T) : Prop where
 c0 : u.cell? ⟨b,o,none⟩ = some (.string r.cat)
 c1 : u.cell? ⟨b,o + 1,none⟩ = some (.int .i64 r.bp)
 c2 : u.cell? ⟨b,o + 2,none⟩ = some (.int .i64 r.net)
 c3 : u.cell? ⟨b,o + 3,none⟩ = some (.int .i64 r.tax)
theorem At.below {u v : World} {b o : Nat} {r : T} (h : At u b o r) (k : Below u.heap.size u v) : At v b o r := by
 have hl := cell_lt h.c0
 exact ⟨by rw [(bcell k).1 _ _ hl]; exact h.c0,by rw [(bcell k).1 _ _ hl]; exact h.c1,by rw [(bcell k).1 _ _ hl]; exact h.c2,by rw [(bcell k).1 _ _ hl]; exact h.c3⟩
def Seg (w : World) (ao : Option Addr) (rs : List T) : Prop := rs = [] ∨ ∃ b off,ao = some ⟨b,off,none⟩ ∧ ∀ (k : Nat) (hk : k < rs.length),At w b (off + k * 4) rs[k]
theorem Seg.below {w v : World} {ao : Option Addr} {rs : List T} (h : Seg w ao rs) (k : Below w.heap.size w v) : Seg v ao rs := by
 rcases h with h | ⟨b,off,e,h⟩
 · exact .inl h
 · exact .inr ⟨b,off,e,fun i hi => (h i hi).below k⟩
structure Ls (w : World) (ao : Option Addr) (n cap : Nat) (rs : List T) : Prop where
 len : n = rs.length
 fits : n ≤ cap
 reach : cap ≤ 9223372036854775807
 nil : ao = none → cap = 0
 seg : Seg w ao rs
 short : ∀ r ∈ rs,Short r
theorem Ls.below {w v : World} {ao : Option Addr} {n cap : Nat} {rs : List T} (h : Ls w ao n cap rs) (k : Below w.heap.size w v) : Ls v ao n cap rs :=
 ⟨h.len,h.fits,h.reach,h.nil,h.seg.below k,h.short⟩
theorem Ls.at {w : World} {ao : Option Addr} {n cap : Nat} {rs : List T} (h : Ls w ao n cap rs) (hn : 0 < n) : ∃ b off,ao = some ⟨b,off,none⟩ := by
 rcases h.seg with e | ⟨b,off,e,_⟩
 ·
  have := h.len
  rw [e] at this
  simp at this
  omega
 · exact ⟨b,off,e⟩
theorem Ls.row {w : World} {b off n cap : Nat} {rs : List T} (h : Ls w (some ⟨b,off,none⟩) n cap rs) (k : Nat) (hk : k < rs.length) : At w b (off + k * 4) rs[k] := by
 rcases h.seg with e | ⟨b',off',e,hs⟩
 ·
  subst e
  simp at hk
 ·
  cases e
  exact hs k hk
end Go.Proofs.YtillcleccjgocaaGreat.Pt
namespace Go.Proofs.YtillcleccjgocaaGreat.Iv
structure Tot where
 net : Int
 tax : Int
 gross : Int
 parts : List Pt.T
def Tot.zero : Tot := ⟨0,0,0,[]⟩
end Go.Proofs.YtillcleccjgocaaGreat.Iv
namespace Go.Proofs.YtillcleccjgocaaGreat.Mn
def Fit (x : Int) : Prop := -9223372036854775808 ≤ x ∧ x ≤ 9223372036854775807
instance (x : Int) : Decidable (Fit x) := inferInstanceAs (Decidable (_ ∧ _))
def amt (x : Int) : Int := if Fit x then x else 0
def err (x : Int) : Int := if Fit x then 0 else 7
theorem amt_fit {x : Int} (h : Fit x) : amt x = x := if_pos h
theorem err_fit {x : Int} (h : Fit x) : err x = 0 := if_pos h
theorem amt_not {x : Int} (h : ¬ Fit x) : amt x = 0 := if_neg h
theorem err_not {x : Int} (h : ¬ Fit x) : err x = 7 := if_neg h
theorem err_two (x : Int) : err x = 0 ∨ err x = 7 := by
 unfold err
 split
 · exact .inl rfl
 · exact .inr rfl
end Go.Proofs.YtillcleccjgocaaGreat.Mn
namespace Go.Proofs.YtillcleccjgocaaGreat.Sh
def sh (u bp all : Nat) : Nat := (2 * (u * bp) + all) / (2 * all)
theorem sh_split (u bp all : Nat) (h : 0 < all) : sh u bp all = u / all * bp + (2 * (u % all) * bp + all) / (2 * all) := by
 have e : 2 * (u * bp) + all = 2 * all * (u / all * bp) + (2 * (u % all) * bp + all) := by
  have h1 : u = all * (u / all) + u % all := (Nat.div_add_mod u all).symm
  have h2 : u * bp = all * (u / all * bp) + u % all * bp := by
   have h3 : u * bp = (all * (u / all) + u % all) * bp := by rw [← h1]
   rw [h3,Nat.add_mul,Nat.mul_assoc]
  rw [h2,Nat.mul_assoc 2 all,Nat.mul_assoc 2 (u % all)]
  omega
 unfold sh
 rw [e,Nat.mul_add_div (by omega)]
theorem last_le (r bp all : Nat) (hr : r < all) : (2 * r * bp + all) / (2 * all) ≤ bp := by
 have h1 : 2 * r * bp + all < 2 * all * (bp + 1) := by
  have h2 : r * bp ≤ all * bp := Nat.mul_le_mul_right _ (by omega)
  rw [Nat.mul_assoc,Nat.mul_assoc 2 all,Nat.mul_add,Nat.mul_one]
  omega
 have := (Nat.div_lt_iff_lt_mul (k := 2 * all) (by omega) (x := 2 * r * bp + all) (y := bp + 1)).2 (by rw [Nat.mul_comm (bp + 1)]; exact h1)
 omega
theorem sh_none (u all : Nat) (h : 0 < all) : sh u 0 all = 0 := by
 unfold sh
 rw [Nat.mul_zero,Nat.mul_zero,Nat.zero_add]
 exact Nat.div_eq_of_lt (by omega)
def side (n : Int) (s : Nat) : Int := if n < 0 then -(s : Int) else (s : Int)
def val (n : Int) (bp all : Nat) : Int := if sh n.natAbs bp all ≤ 9223372036854775807 then side n (sh n.natAbs bp all) else 0
def why (n : Int) (bp all : Nat) : Int := if sh n.natAbs bp all ≤ 9223372036854775807 then 0 else 7
def Right (bp : Int) : Prop := 0 ≤ bp ∧ bp ≤ 100000
instance (x : Int) : Decidable (Right x) := inferInstanceAs (Decidable (_ ∧ _))
def taxV (n bp : Int) : Int := if Right bp then val n bp.toNat 10000 else 0
def taxE (n bp : Int) : Int := if Right bp then why n bp.toNat 10000 else 1
def inV (n bp : Int) : Int := if Right bp then val n bp.toNat (10000 + bp.toNat) else 0
def inE (n bp : Int) : Int := if Right bp then why n bp.toNat (10000 + bp.toNat) else 1
theorem side_neg (n : Int) (s : Nat) (h : n ≠ 0 ∨ s = 0) : side (-n) s = -side n s := by
 unfold side
 by_cases h1 : n < 0
 · rw [if_pos h1,if_neg (by omega)]; omega
 ·
  rw [if_neg h1]
  by_cases h2 : -n < 0
  · rw [if_pos h2]
  · rw [if_neg h2]; omega
theorem sh_zero (bp all : Nat) (h : 0 < all) : sh 0 bp all = 0 := by
 unfold sh
 rw [Nat.zero_mul,Nat.mul_zero,Nat.zero_add]
 exact Nat.div_eq_of_lt (by omega)
theorem val_neg (n : Int) (bp all : Nat) (h : 0 < all) : val (-n) bp all = -val n bp all := by
 unfold val
 rw [Int.natAbs_neg]
 split
 ·
  apply side_neg
  by_cases h0 : n = 0
  · subst h0; exact .inr (sh_zero bp all h)
  · exact .inl h0
 · rfl
theorem why_neg (n : Int) (bp all : Nat) : why (-n) bp all = why n bp all := by
 unfold why
 rw [Int.natAbs_neg]
theorem tax_neg (n bp : Int) : taxV (-n) bp = -taxV n bp ∧ taxE (-n) bp = taxE n bp := by
 unfold taxV taxE
 split
 · exact ⟨val_neg _ _ _ (by omega),why_neg _ _ _⟩
 · exact ⟨rfl,rfl⟩
end Go.Proofs.YtillcleccjgocaaGreat.Sh
namespace Go.Proofs.YtillcleccjgocaaGreat.Iv
open Vt (Rt)
def lt (a b : ByteArray) : Bool := Op.bytesLess a.toList b.toList
theorem lt_trans {a b c : ByteArray} (h : lt a b = true) (k : lt b c = true) : lt a c = true := Vt.less_trans _ _ _ h k
def Sorted (l : List Pt.T) : Prop := l.Pairwise fun a b => lt a.cat b.cat = true
def taxed (p : Pt.T) : Pt.T := ⟨p.cat,p.bp,p.net,Sh.taxV p.net p.bp⟩
def nets : List Pt.T → Int
 | [] => 0
 | p :: l => p.net + nets l
end Go.Proofs.YtillcleccjgocaaGreat.Iv
namespace Go.Proofs.YtillcleccjgocaaGreat.Iv
def negP (p : Pt.T) : Pt.T := ⟨p.cat,p.bp,-p.net,-p.tax⟩
def back (t : Tot) : Tot := ⟨-t.net,-t.tax,-t.gross,t.parts.map negP⟩
def badP (p : Pt.T) : Bool := decide (Mn.err (-p.net) ≠ 0 ∨ Mn.err (-p.tax) ≠ 0)
def backE (t : Tot) : Int := if Mn.err (-t.net) ≠ 0 ∨ Mn.err (-t.tax) ≠ 0 ∨ Mn.err (-t.gross) ≠ 0 then 7 else if t.parts.any badP = true then 7 else 0
def backT (t : Tot) : Tot := if backE t = 0 then back t else Tot.zero
theorem err_0 {x : Int} (h : Mn.err x = 0) : Mn.Fit x := by
 unfold Mn.err at h
 split at h
 · assumption
 · omega
theorem back_head {t : Tot} (h : Mn.err (-t.net) ≠ 0 ∨ Mn.err (-t.tax) ≠ 0 ∨ Mn.err (-t.gross) ≠ 0) : backE t = 7 ∧ backT t = Tot.zero := by
 have e : backE t = 7 := if_pos h
 exact ⟨e,by unfold backT; rw [e]; rfl⟩
theorem back_part {t : Tot} (h1 : Mn.err (-t.net) = 0) (h2 : Mn.err (-t.tax) = 0) (h3 : Mn.err (-t.gross) = 0) {p : Pt.T} (hp : p ∈ t.parts) (h : badP p = true) : backE t = 7 ∧ backT t = Tot.zero := by
 have e : backE t = 7 := by
  unfold backE
  rw [if_neg (by rw [h1,h2,h3]; simp),if_pos (List.any_eq_true.2 ⟨p,hp,h⟩)]
 exact ⟨e,by unfold backT; rw [e]; rfl⟩
theorem back_ok {t : Tot} (h1 : Mn.err (-t.net) = 0) (h2 : Mn.err (-t.tax) = 0) (h3 : Mn.err (-t.gross) = 0) (h : ∀ p ∈ t.parts,badP p = false) : backE t = 0 ∧ backT t = back t := by
 have e : backE t = 0 := by
  unfold backE
  rw [if_neg (by rw [h1,h2,h3]; simp),if_neg (by rw [Bool.not_eq_true,List.any_eq_false]; intro p hp; rw [h p hp]; simp)]
 exact ⟨e,by unfold backT; rw [e]; rfl⟩
theorem bad_no {p : Pt.T} (h1 : Mn.err (-p.net) = 0) (h2 : Mn.err (-p.tax) = 0) : badP p = false := decide_eq_false (by rw [h1,h2]; simp)
theorem bad_yes {p : Pt.T} (h : Mn.err (-p.net) ≠ 0 ∨ Mn.err (-p.tax) ≠ 0) : badP p = true := decide_eq_true h
end Go.Proofs.YtillcleccjgocaaGreat.Iv
namespace Go.Proofs.YtillcleccjgocaaGreat.Ba
open Go.RowKit
open Mem
structure T where
 acct : ByteArray
 amt : Int
def Short (r : T) : Prop := r.acct.size ≤ 140737488355328 ∧ Fit r.amt
def box (w : World) (r : T) : World := w.alloc (.cells #[.string r.acct,.int .i64 r.amt] 70)
def C (u : World) (b : Nat) (r : T) : Prop :=
 u.cell? ⟨b,0,none⟩ = some (.string r.acct) ∧ u.cell? ⟨b,1,none⟩ = some (.int .i64 r.amt)
theorem c_box (w : World) (r : T) : C (box w r) w.heap.size r := by
 unfold box C
 simp [go_sem]
theorem below_own (w : World) (r : T) : Below w.heap.size w (box w r) := (Below.refl _ _).alloc (Nat.le_refl _) _
theorem boxed1 (w : World) (a : T) : ∃ W,w.alloc (.cells #[.string a.acct,.int .i64 a.amt] 70) = W ∧ Below w.heap.size w W ∧ C W w.heap.size a :=
 ⟨_,rfl,below_own w a,c_box w a⟩
end Go.Proofs.YtillcleccjgocaaGreat.Ba
namespace Go.Proofs.YtillcleccjgocaaGreat.Ba
open Go.RowKit
open Mem
structure At (u : World) (b o : Nat) (r : T) : Prop where
 c0 : u.cell? ⟨b,o,none⟩ = some (.string r.acct)
 c1 : u.cell? ⟨b,o + 1,none⟩ = some (.int .i64 r.amt)
theorem At.below {u v : World} {b o : Nat} {r : T} (h : At u b o r) (k : Below u.heap.size u v) : At v b o r := by
 have hl := cell_lt h.c0
 exact ⟨by rw [(bcell k).1 _ _ hl]; exact h.c0,by rw [(bcell k).1 _ _ hl]; exact h.c1⟩
def Seg (w : World) (ao : Option Addr) (rs : List T) : Prop := rs = [] ∨ ∃ b off,ao = some ⟨b,off,none⟩ ∧ ∀ (k : Nat) (hk : k < rs.length),At w b (off + k * 2) rs[k]
theorem Seg.below {w v : World} {ao : Option Addr} {rs : List T} (h : Seg w ao rs) (k : Below w.heap.size w v) : Seg v ao rs := by
 rcases h with h | ⟨b,off,e,h⟩
 · exact .inl h
 · exact .inr ⟨b,off,e,fun i hi => (h i hi).below k⟩
structure Ls (w : World) (ao : Option Addr) (n cap : Nat) (rs : List T) : Prop where
 len : n = rs.length
 fits : n ≤ cap
 reach : cap ≤ 9223372036854775807
 nil : ao = none → cap = 0
 seg : Seg w ao rs
 short : ∀ r ∈ rs,Short r
theorem Ls.below {w v : World} {ao : Option Addr} {n cap : Nat} {rs : List T} (h : Ls w ao n cap rs) (k : Below w.heap.size w v) : Ls v ao n cap rs :=
 ⟨h.len,h.fits,h.reach,h.nil,h.seg.below k,h.short⟩
theorem Ls.at {w : World} {ao : Option Addr} {n cap : Nat} {rs : List T} (h : Ls w ao n cap rs) (hn : 0 < n) : ∃ b off,ao = some ⟨b,off,none⟩ := by
 rcases h.seg with e | ⟨b,off,e,_⟩
 ·
  have := h.len
  rw [e] at this
  simp at this
  omega
 · exact ⟨b,off,e⟩
theorem Ls.row {w : World} {b off n cap : Nat} {rs : List T} (h : Ls w (some ⟨b,off,none⟩) n cap rs) (k : Nat) (hk : k < rs.length) : At w b (off + k * 2) rs[k] := by
 rcases h.seg with e | ⟨b',off',e,hs⟩
 ·
  subst e
  simp at hk
 ·
  cases e
  exact hs k hk
theorem ls_nil (w : World) : Ls w none 0 0 [] := ⟨rfl,Nat.le_refl _,by omega,fun _ => rfl,.inl rfl,by simp⟩
theorem und : Tryz.prog.underlying 27 = some (.slice (Tryz.prog.elem 27)) := by kernel_rfl
theorem size (u : World) : (sizeOf (Tryz.prog.elem 27)).run Tryz.prog u = .ok 2 u := by
 have h : (Tryz.prog.info? (Tryz.prog.elem 27)).map (·.size) = some 2 := by kernel_rfl
 obtain ⟨i,hi,hs⟩ := Option.map_eq_some_iff.1 h
 simp [sizeOf,typeInfo,hi,hs]
end Go.Proofs.YtillcleccjgocaaGreat.Ba
namespace Go.Proofs.YtillcleccjgocaaGreat.Po
def lt (a b : ByteArray) : Bool := Op.bytesLess a.toList b.toList
theorem lt_trans {a b c : ByteArray} (h : lt a b = true) (k : lt b c = true) : lt a c = true := Vt.less_trans _ _ _ h k
theorem lt_irrefl (a : ByteArray) : lt a a = false := Vt.less_irrefl _
theorem lt_tri (a b : ByteArray) : lt a b = true ∨ a = b ∨ lt b a = true := by
 rcases Vt.less_tri a.toList b.toList with h | h | h
 · exact .inl h
 · exact .inr (.inl (Vt.cat_ext h))
 · exact .inr (.inr h)
theorem lt_ne {a b : ByteArray} (h : lt a b = true) : a ≠ b := by
 rintro rfl
 rw [lt_irrefl] at h
 cases h
theorem lt_asymm {a b : ByteArray} (h : lt a b = true) : lt b a = false := by
 rw [Bool.eq_false_iff]
 intro k
 have := lt_trans h k
 rw [lt_irrefl] at this
 cases this
def Sorted (l : List Ba.T) : Prop := l.Pairwise fun a b => lt a.acct b.acct = true
def rightB : List Ba.T → Bool
 | a :: b :: l => lt a.acct b.acct && rightB (b :: l)
 | _ => true
theorem right_iff : ∀ l : List Ba.T,rightB l = true ↔ Sorted l
 | [] => ⟨fun _ => List.Pairwise.nil,fun _ => rfl⟩
 | [a] => ⟨fun _ => List.pairwise_singleton _ _,fun _ => rfl⟩
 | a :: b :: l => by
  have ih := right_iff (b :: l)
  rw [rightB,Bool.and_eq_true,ih]
  constructor
  ·
   rintro ⟨h1,h2⟩
   refine List.pairwise_cons.2 ⟨fun x hx => ?_,h2⟩
   rcases List.mem_cons.1 hx with rfl | hx
   · exact h1
   · exact lt_trans h1 ((List.pairwise_cons.1 h2).1 x hx)
  ·
   intro h
   have h1 := List.pairwise_cons.1 h
   exact ⟨h1.1 b (by simp),h1.2⟩
theorem right_yes {l : List Ba.T} (h : ∀ i,(hi : i + 1 < l.length) → lt l[i].acct l[i + 1].acct = true) : rightB l = true := by
 induction l with
 | nil => rfl
 | cons a l ih =>
  cases l with
  | nil => rfl
  | cons b l =>
   rw [rightB,Bool.and_eq_true]
   exact ⟨h 0 (by simp),ih fun i hi => h (i + 1) (by simpa using hi)⟩
theorem right_no {l : List Ba.T} {i : Nat} (hi : i + 1 < l.length) (h : lt l[i].acct l[i + 1].acct = false) : rightB l = false := by
 rw [Bool.eq_false_iff]
 intro k
 have := List.pairwise_iff_getElem.1 ((right_iff l).1 k) i (i + 1) (by omega) hi (by omega)
 rw [h] at this
 cases this
def spot (c : ByteArray) : List Ba.T → Nat
 | [] => 0
 | a :: l => if lt a.acct c = true then spot c l + 1 else 0
theorem spot_le (c : ByteArray) : ∀ l,spot c l ≤ l.length
 | [] => Nat.le_refl _
 | a :: l => by
  have := spot_le c l
  unfold spot
  split
  · simp; omega
  · simp
def has (c : ByteArray) : List Ba.T → Bool
 | [] => false
 | a :: l => if lt a.acct c = true then has c l else decide (a.acct = c)
theorem has_spot (c : ByteArray) : ∀ l : List Ba.T,has c l = match l[spot c l]? with | none => false | some a => decide (a.acct = c)
 | [] => rfl
 | a :: l => by
  unfold has spot
  by_cases h : lt a.acct c = true
  · rw [if_pos h,if_pos h,has_spot c l,List.getElem?_cons_succ]
  ·
   rw [if_neg h,if_neg h]
   rfl
def part (c : ByteArray) : List Ba.T → Ba.T
 | [] => ⟨c,0⟩
 | a :: l => if lt a.acct c = true then part c l else if a.acct = c then a else ⟨c,0⟩
def ins (c : ByteArray) : List Ba.T → List Ba.T
 | [] => [⟨c,0⟩]
 | a :: l => if lt a.acct c = true then a :: ins c l else if a.acct = c then a :: l else ⟨c,0⟩ :: a :: l
theorem ins_has {c : ByteArray} : ∀ {l : List Ba.T},has c l = true → ins c l = l
 | [],h => by cases h
 | a :: l,h => by
  unfold has at h
  unfold ins
  by_cases k : lt a.acct c = true
  ·
   rw [if_pos k] at h ⊢
   rw [ins_has h]
  ·
   rw [if_neg k] at h ⊢
   rw [if_pos (of_decide_eq_true h)]
theorem ins_new {c : ByteArray} : ∀ {l : List Ba.T},has c l = false → ins c l = l.take (spot c l) ++ ⟨c,0⟩ :: l.drop (spot c l)
 | [],_ => rfl
 | a :: l,h => by
  unfold has at h
  unfold ins spot
  by_cases k : lt a.acct c = true
  ·
   rw [if_pos k] at h ⊢
   rw [if_pos k,ins_new h]
   rfl
  ·
   rw [if_neg k] at h ⊢
   rw [if_neg k,if_neg (of_decide_eq_false h)]
   rfl
theorem ins_at {c : ByteArray} : ∀ (l : List Ba.T),(ins c l)[spot c l]? = some (part c l)
 | [] => rfl
 | a :: l => by
  unfold ins spot part
  by_cases k : lt a.acct c = true
  · rw [if_pos k,if_pos k,if_pos k,List.getElem?_cons_succ,ins_at l]
  ·
   rw [if_neg k,if_neg k,if_neg k]
   by_cases e : a.acct = c
   ·
    rw [if_pos e,if_pos e]
    rfl
   ·
    rw [if_neg e,if_neg e]
    rfl
theorem ins_len {c : ByteArray} : ∀ (l : List Ba.T),(ins c l).length ≤ l.length + 1
 | [] => Nat.le_refl _
 | a :: l => by
  have := ins_len (c := c) l
  unfold ins
  split
  · simp; omega
  · split <;> simp
theorem ins_lt {c : ByteArray} (l : List Ba.T) : spot c l < (ins c l).length := by
 have := ins_at (c := c) l
 obtain ⟨h,_⟩ := List.getElem?_eq_some_iff.1 this
 exact h
def more (p : Ba.T) (n : Int) : Ba.T := ⟨p.acct,p.amt + n⟩
def enter (c : ByteArray) (n : Int) (l : List Ba.T) : List Ba.T := (ins c l).set (spot c l) (more (part c l) n)
def enterE (c : ByteArray) (n : Int) (l : List Ba.T) : Int := Mn.err ((part c l).amt + n)
theorem enter_len {c : ByteArray} {n : Int} (l : List Ba.T) : (enter c n l).length ≤ l.length + 1 := by
 unfold enter
 rw [List.length_set]
 exact ins_len l
theorem enter_nil (c : ByteArray) (n : Int) : enter c n [] = [⟨c,0 + n⟩] := rfl
theorem enter_cons (c : ByteArray) (n : Int) (a : Ba.T) (l : List Ba.T) : enter c n (a :: l) = if lt a.acct c = true then a :: enter c n l else if a.acct = c then more a n :: l else ⟨c,0 + n⟩ :: a :: l := by
 unfold enter
 rw [ins,spot,part]
 by_cases h : lt a.acct c = true
 ·
  rw [if_pos h,if_pos h,if_pos h,if_pos h]
  rfl
 ·
  rw [if_neg h,if_neg h,if_neg h,if_neg h]
  by_cases k : a.acct = c
  ·
   rw [if_pos k,if_pos k,if_pos k]
   rfl
  ·
   rw [if_neg k,if_neg k,if_neg k]
   rfl
section
variable {c : ByteArray} {n : Int} {a : Ba.T} {l : List Ba.T}
theorem enter_lt (h : lt a.acct c = true) : enter c n (a :: l) = a :: enter c n l := by rw [enter_cons,if_pos h]
theorem enter_eq (h : a.acct = c) : enter c n (a :: l) = more a n :: l := by
 rw [enter_cons,if_neg (by rw [h,lt_irrefl]; simp),if_pos h]
theorem enter_gt (h : lt c a.acct = true) : enter c n (a :: l) = ⟨c,0 + n⟩ :: a :: l := by
 rw [enter_cons,if_neg (by rw [lt_asymm h]; simp),if_neg (fun k => lt_ne h k.symm)]
end
def goE : List Ba.T → List Ba.T → Int
 | [],_ => 0
 | x :: l,b => if enterE x.acct x.amt b ≠ 0 then 7 else goE l (enter x.acct x.amt b)
def goL : List Ba.T → List Ba.T → List Ba.T
 | [],b => b
 | x :: l,b => goL l (enter x.acct x.amt b)
theorem goE_at (ls b : List Ba.T) (k : Nat) (h : k < ls.length) : goE (ls.drop k) b = if enterE ls[k].acct ls[k].amt b ≠ 0 then 7 else goE (ls.drop (k + 1)) (enter ls[k].acct ls[k].amt b) := by
 rw [List.drop_eq_getElem_cons h,goE]
theorem goL_at (ls b : List Ba.T) (k : Nat) (h : k < ls.length) : goL (ls.drop k) b = goL (ls.drop (k + 1)) (enter ls[k].acct ls[k].amt b) := by
 rw [List.drop_eq_getElem_cons h,goL]
theorem goL_app : ∀ (l m b : List Ba.T),goL (l ++ m) b = goL m (goL l b)
 | [],_,_ => rfl
 | x :: l,m,b => by rw [List.cons_append,goL,goL,goL_app l m]
def entE (b l : List Ba.T) : Int := if rightB b = false then 1 else goE l b
def entL (b l : List Ba.T) : List Ba.T := if entE b l = 0 then goL l b else []
theorem ent_arg {b l : List Ba.T} (h : rightB b = false) : entE b l = 1 ∧ entL b l = [] := by
 have e : entE b l = 1 := if_pos h
 exact ⟨e,by unfold entL; rw [e]; rfl⟩
theorem ent_go {b l : List Ba.T} (h : rightB b = true) : entE b l = goE l b := by
 unfold entE
 rw [if_neg (by rw [h]; simp)]
theorem enter_accts {c : ByteArray} {n : Int} : ∀ {l : List Ba.T} {x : Ba.T},x ∈ enter c n l → x.acct = c ∨ ∃ a ∈ l,x.acct = a.acct
 | [],x,h => by
  rw [enter_nil] at h
  obtain rfl := List.mem_singleton.1 h
  exact .inl rfl
 | a :: l,x,h => by
  rcases lt_tri a.acct c with k | k | k
  ·
   rw [enter_lt k] at h
   rcases List.mem_cons.1 h with rfl | h
   · exact .inr ⟨x,by simp,rfl⟩
   ·
    rcases enter_accts h with h | ⟨b,hb,e⟩
    · exact .inl h
    · exact .inr ⟨b,by simp [hb],e⟩
  ·
   rw [enter_eq k] at h
   rcases List.mem_cons.1 h with rfl | h
   · exact .inl k
   · exact .inr ⟨x,by simp [h],rfl⟩
  ·
   rw [enter_gt k] at h
   rcases List.mem_cons.1 h with rfl | h
   · exact .inl rfl
   · exact .inr ⟨x,h,rfl⟩
theorem enter_sorted {c : ByteArray} {n : Int} : ∀ {l : List Ba.T},Sorted l → Sorted (enter c n l)
 | [],_ => by
  rw [enter_nil]
  exact List.pairwise_singleton _ _
 | a :: l,h => by
  have h1 := (List.pairwise_cons.1 h).1
  have h2 := (List.pairwise_cons.1 h).2
  rcases lt_tri a.acct c with k | k | k
  ·
   rw [enter_lt k]
   refine List.pairwise_cons.2 ⟨fun x hx => ?_,enter_sorted h2⟩
   rcases enter_accts hx with e | ⟨b,hb,e⟩
   · rw [e]; exact k
   · rw [e]; exact h1 b hb
  ·
   rw [enter_eq k]
   exact List.pairwise_cons.2 ⟨h1,h2⟩
  ·
   rw [enter_gt k]
   refine List.pairwise_cons.2 ⟨fun x hx => ?_,h⟩
   rcases List.mem_cons.1 hx with rfl | hx
   · exact k
   · exact lt_trans k (h1 x hx)
theorem goL_sorted : ∀ (ls : List Ba.T) {b : List Ba.T},Sorted b → Sorted (goL ls b)
 | [],_,h => h
 | _ :: l,_,h => goL_sorted l (enter_sorted h)
def sumA : List Ba.T → Int
 | [] => 0
 | a :: l => a.amt + sumA l
theorem sum_app : ∀ l m : List Ba.T,sumA (l ++ m) = sumA l + sumA m
 | [],m => by rw [List.nil_append]; show _ = 0 + _; omega
 | a :: l,m => by
  rw [List.cons_append,sumA,sumA,sum_app l m]
  omega
def val (c : ByteArray) (l : List Ba.T) : Int := (part c l).amt
def rows (c : ByteArray) : List Ba.T → Int
 | [] => 0
 | x :: l => (if x.acct = c then x.amt else 0) + rows c l
def named (c : ByteArray) (l : List Ba.T) : Bool := l.any fun x => decide (x.acct = c)
theorem part_cons (c : ByteArray) (a : Ba.T) (l : List Ba.T) : part c (a :: l) = if lt a.acct c = true then part c l else if a.acct = c then a else ⟨c,0⟩ := rfl
theorem has_cons (c : ByteArray) (a : Ba.T) (l : List Ba.T) : has c (a :: l) = if lt a.acct c = true then has c l else decide (a.acct = c) := rfl
theorem val_enter (c e : ByteArray) (n : Int) : ∀ l : List Ba.T,val c (enter e n l) = val c l + (if e = c then n else 0) ∧ has c (enter e n l) = (has c l || decide (e = c))
 | [] => by
  rw [enter_nil]
  unfold val
  rw [part_cons,has_cons]
  rcases lt_tri e c with k | k | k
  ·
   rw [if_pos k,if_pos k,if_neg (lt_ne k),decide_eq_false (lt_ne k)]
   exact ⟨by show (0 : Int) = 0 + 0; omega,rfl⟩
  ·
   subst k
   rw [if_neg (by rw [lt_irrefl]; simp),if_pos rfl,if_pos rfl,if_neg (by rw [lt_irrefl]; simp)]
   exact ⟨rfl,by simp [has]⟩
  ·
   have hne : e ≠ c := fun h => lt_ne k h.symm
   rw [if_neg (by rw [lt_asymm k]; simp),if_neg hne,if_neg hne,if_neg (by rw [lt_asymm k]; simp),decide_eq_false hne]
   exact ⟨by show (0 : Int) = 0 + 0; omega,rfl⟩
 | a :: l => by
  have ih := val_enter c e n l
  unfold val at ih ⊢
  rcases lt_tri a.acct e with k | k | k
  ·
   rw [enter_lt k,part_cons,part_cons,has_cons,has_cons]
   by_cases h : lt a.acct c = true
   ·
    rw [if_pos h,if_pos h,if_pos h,if_pos h]
    exact ih
   ·
    rw [if_neg h,if_neg h,if_neg h,if_neg h]
    have hne : e ≠ c := by
     rintro rfl
     exact h k
    rw [if_neg hne,decide_eq_false hne,Bool.or_false]
    exact ⟨by omega,rfl⟩
  ·
   rw [enter_eq k,part_cons,part_cons,has_cons,has_cons]
   subst k
   show (if lt a.acct c = true then part c l else if a.acct = c then more a n else ⟨c,0⟩).amt = _ ∧ (if lt a.acct c = true then has c l else decide (a.acct = c)) = _
   by_cases h : lt a.acct c = true
   ·
    rw [if_pos h,if_pos h,if_pos h,if_neg (lt_ne h),decide_eq_false (lt_ne h),Bool.or_false]
    exact ⟨by omega,rfl⟩
   ·
    rw [if_neg h,if_neg h,if_neg h]
    by_cases e' : a.acct = c
    ·
     rw [if_pos e',if_pos e',if_pos e']
     exact ⟨rfl,by simp [e']⟩
    ·
     rw [if_neg e',if_neg e',if_neg e']
     exact ⟨by omega,by simp [e']⟩
  ·
   rw [enter_gt k,part_cons,has_cons]
   show (if lt e c = true then part c (a :: l) else if e = c then ⟨e,0 + n⟩ else ⟨c,0⟩).amt = _ ∧ (if lt e c = true then has c (a :: l) else decide (e = c)) = _
   rcases lt_tri e c with h | h | h
   ·
    rw [if_pos h,if_pos h,if_neg (lt_ne h),decide_eq_false (lt_ne h),Bool.or_false]
    exact ⟨by omega,rfl⟩
   ·
    subst h
    rw [if_neg (by rw [lt_irrefl]; simp),if_pos rfl,if_pos rfl,if_neg (by rw [lt_irrefl]; simp),part_cons,if_neg (by rw [lt_asymm k]; simp),if_neg (fun q => lt_ne k q.symm)]
    exact ⟨rfl,by simp⟩
   ·
    have hne : e ≠ c := fun q => lt_ne h q.symm
    have hca : lt c a.acct = true := lt_trans h k
    rw [if_neg (by rw [lt_asymm h]; simp),if_neg hne,if_neg hne,if_neg (by rw [lt_asymm h]; simp),part_cons,has_cons,if_neg (by rw [lt_asymm hca]; simp),if_neg (fun q => lt_ne hca q.symm),if_neg (by rw [lt_asymm hca]; simp),decide_eq_false hne,decide_eq_false (fun q => lt_ne hca q.symm)]
    exact ⟨by show (0 : Int) = 0 + 0; omega,rfl⟩
theorem val_goL (c : ByteArray) : ∀ (ls b : List Ba.T),val c (goL ls b) = val c b + rows c ls ∧ has c (goL ls b) = (has c b || named c ls)
 | [],b => by
  refine ⟨by show _ = _ + 0; rw [goL]; omega,?_⟩
  rw [goL]
  show _ = (_ || false)
  rw [Bool.or_false]
 | x :: l,b => by
  have h1 := val_goL c l (enter x.acct x.amt b)
  have h2 := val_enter c x.acct x.amt b
  rw [goL,h1.1,h1.2,h2.1,h2.2]
  refine ⟨by rw [rows]; omega,?_⟩
  show _ = (_ || (decide (x.acct = c) || named c l))
  rw [Bool.or_assoc]
theorem look {c : ByteArray} : ∀ {l : List Ba.T},Sorted l → ∀ {x : Ba.T},x ∈ l → x.acct = c → part c l = x ∧ has c l = true
 | a :: l,h,x,hx,e => by
  have h1 := (List.pairwise_cons.1 h).1
  have h2 := (List.pairwise_cons.1 h).2
  rw [part_cons,has_cons]
  rcases List.mem_cons.1 hx with rfl | hx
  ·
   rw [if_neg (by rw [e,lt_irrefl]; simp),if_pos e,if_neg (by rw [e,lt_irrefl]; simp)]
   exact ⟨rfl,decide_eq_true e⟩
  ·
   have := h1 x hx
   rw [e] at this
   rw [if_pos this,if_pos this]
   exact look h2 hx e
theorem has_mem {c : ByteArray} : ∀ {l : List Ba.T},has c l = true → ∃ x ∈ l,x.acct = c
 | a :: l,h => by
  rw [has_cons] at h
  by_cases k : lt a.acct c = true
  ·
   rw [if_pos k] at h
   obtain ⟨x,hx,e⟩ := has_mem h
   exact ⟨x,by simp [hx],e⟩
  ·
   rw [if_neg k] at h
   exact ⟨a,by simp,of_decide_eq_true h⟩
theorem val_no {c : ByteArray} : ∀ {l : List Ba.T},has c l = false → val c l = 0
 | [],_ => rfl
 | a :: l,h => by
  unfold val
  rw [has_cons] at h
  rw [part_cons]
  by_cases k : lt a.acct c = true
  ·
   rw [if_pos k] at h ⊢
   exact val_no h
  ·
   rw [if_neg k] at h ⊢
   rw [if_neg (of_decide_eq_false h)]
end Go.Proofs.YtillcleccjgocaaGreat.Po
namespace Go.Proofs.YtillcleccjgocaaGreat.Po
def owedA : ByteArray := ⟨#[111,119,101,100]⟩
def netA : ByteArray := ⟨#[110,101,116,47]⟩
def taxA : ByteArray := ⟨#[116,97,120,47]⟩
def rowsOf (p : Pt.T) : List Ba.T := [⟨netA ++ p.cat,-p.net⟩,⟨taxA ++ p.cat,-p.tax⟩]
def entrL (g : Int) (ps : List Pt.T) : List Ba.T := ⟨owedA,g⟩ :: ps.flatMap rowsOf
def badE (p : Pt.T) : Bool := decide (Mn.err (-p.net) ≠ 0 ∨ Mn.err (-p.tax) ≠ 0)
def entrE (ps : List Pt.T) : Int := if ps.any badE = true then 7 else 0
def entrR (g : Int) (ps : List Pt.T) : List Ba.T := if entrE ps = 0 then entrL g ps else []
theorem entr_bad {ps : List Pt.T} {p : Pt.T} (g : Int) (hp : p ∈ ps) (h : badE p = true) : entrE ps = 7 ∧ entrR g ps = [] := by
 have e : entrE ps = 7 := if_pos (List.any_eq_true.2 ⟨p,hp,h⟩)
 exact ⟨e,by unfold entrR; rw [e]; rfl⟩
theorem entr_ok {ps : List Pt.T} (g : Int) (h : ∀ p ∈ ps,badE p = false) : entrE ps = 0 ∧ entrR g ps = entrL g ps := by
 have e : entrE ps = 0 := if_neg (by rw [Bool.not_eq_true,List.any_eq_false]; intro p hp; rw [h p hp]; simp)
 exact ⟨e,by unfold entrR; rw [e]; rfl⟩
theorem bad_no {p : Pt.T} (h1 : Mn.err (-p.net) = 0) (h2 : Mn.err (-p.tax) = 0) : badE p = false := decide_eq_false (by rw [h1,h2]; simp)
theorem bad_yes {p : Pt.T} (h : Mn.err (-p.net) ≠ 0 ∨ Mn.err (-p.tax) ≠ 0) : badE p = true := decide_eq_true h
theorem entr_step (g : Int) (ps : List Pt.T) (k : Nat) (h : k < ps.length) : entrL g (ps.take (k + 1)) = entrL g (ps.take k) ++ rowsOf ps[k] := by
 unfold entrL
 rw [List.take_succ_eq_append_getElem h,List.flatMap_append,List.cons_append]
 simp
end Go.Proofs.YtillcleccjgocaaGreat.Po
namespace Go.Proofs.YtillcleccjgocaaGreat.Sn
open Go.RowKit
open Mem
structure T where
 id : Int
 last : Int
 why : Int
 num : Int
 gross : Int
def val (r : T) : Value := .agg #[.int .i64 r.id,.int .i64 r.last,.int .i64 r.why,.int .i64 r.num,.int .i64 r.gross]
def Short (r : T) : Prop := Fit r.id ∧ Fit r.last ∧ Fit r.why ∧ Fit r.num ∧ Fit r.gross
def box (w : World) (r : T) : World := w.alloc (.cells #[.int .i64 r.id,.int .i64 r.last,.int .i64 r.why,.int .i64 r.num,.int .i64 r.gross] 73)
def C (u : World) (b : Nat) (r : T) : Prop :=
 u.cell? ⟨b,0,none⟩ = some (.int .i64 r.id) ∧ u.cell? ⟨b,1,none⟩ = some (.int .i64 r.last) ∧ u.cell? ⟨b,2,none⟩ = some (.int .i64 r.why) ∧ u.cell? ⟨b,3,none⟩ = some (.int .i64 r.num) ∧ u.cell? ⟨b,4,none⟩ = some (.int .i64 r.gross)
theorem C.below {u v : World} {b : Nat} {r : T} (h : C u b r) (k : Below u.heap.size u v) : C v b r := by
 obtain ⟨h0,h1,h2,h3,h4⟩ := h
 have hl := cell_lt h0
 unfold C
 rw [(bcell k).1 _ _ hl,(bcell k).1 _ _ hl,(bcell k).1 _ _ hl,(bcell k).1 _ _ hl,(bcell k).1 _ _ hl]
 exact ⟨h0,h1,h2,h3,h4⟩
theorem c_box (w : World) (r : T) : C (box w r) w.heap.size r := by
 unfold box C
 simp [go_sem]
theorem below_own (w : World) (r : T) : Below w.heap.size w (box w r) := (Below.refl _ _).alloc (Nat.le_refl _) _
theorem boxed1 (w : World) (a : T) : ∃ W,w.alloc (.cells #[.int .i64 a.id,.int .i64 a.last,.int .i64 a.why,.int .i64 a.num,.int .i64 a.gross] 73) = W ∧ Below w.heap.size w W ∧ C W w.heap.size a :=
 ⟨_,rfl,below_own w a,c_box w a⟩
end Go.Proofs.YtillcleccjgocaaGreat.Sn
namespace Go.Proofs.YtillcleccjgocaaGreat.Sn
open Go.RowKit
open Mem
structure At (u : World) (b o : Nat) (r : T) : Prop where
 c0 : u.cell? ⟨b,o,none⟩ = some (.int .i64 r.id)
 c1 : u.cell? ⟨b,o + 1,none⟩ = some (.int .i64 r.last)
 c2 : u.cell? ⟨b,o + 2,none⟩ = some (.int .i64 r.why)
 c3 : u.cell? ⟨b,o + 3,none⟩ = some (.int .i64 r.num)
 c4 : u.cell? ⟨b,o + 4,none⟩ = some (.int .i64 r.gross)
theorem At.below {u v : World} {b o : Nat} {r : T} (h : At u b o r) (k : Below u.heap.size u v) : At v b o r := by
 have hl := cell_lt h.c0
 exact ⟨by rw [(bcell k).1 _ _ hl]; exact h.c0,by rw [(bcell k).1 _ _ hl]; exact h.c1,by rw [(bcell k).1 _ _ hl]; exact h.c2,by rw [(bcell k).1 _ _ hl]; exact h.c3,by rw [(bcell k).1 _ _ hl]; exact h.c4⟩
def Seg (w : World) (ao : Option Addr) (rs : List T) : Prop := rs = [] ∨ ∃ b off,ao = some ⟨b,off,none⟩ ∧ ∀ (k : Nat) (hk : k < rs.length),At w b (off + k * 5) rs[k]
theorem Seg.below {w v : World} {ao : Option Addr} {rs : List T} (h : Seg w ao rs) (k : Below w.heap.size w v) : Seg v ao rs := by
 rcases h with h | ⟨b,off,e,h⟩
 · exact .inl h
 · exact .inr ⟨b,off,e,fun i hi => (h i hi).below k⟩
structure Ls (w : World) (ao : Option Addr) (n cap : Nat) (rs : List T) : Prop where
 len : n = rs.length
 fits : n ≤ cap
 reach : cap ≤ 9223372036854775807
 nil : ao = none → cap = 0
 seg : Seg w ao rs
 short : ∀ r ∈ rs,Short r
theorem Ls.below {w v : World} {ao : Option Addr} {n cap : Nat} {rs : List T} (h : Ls w ao n cap rs) (k : Below w.heap.size w v) : Ls v ao n cap rs :=
 ⟨h.len,h.fits,h.reach,h.nil,h.seg.below k,h.short⟩
theorem Ls.at {w : World} {ao : Option Addr} {n cap : Nat} {rs : List T} (h : Ls w ao n cap rs) (hn : 0 < n) : ∃ b off,ao = some ⟨b,off,none⟩ := by
 rcases h.seg with e | ⟨b,off,e,_⟩
 ·
  have := h.len
  rw [e] at this
  simp at this
  omega
 · exact ⟨b,off,e⟩
theorem Ls.row {w : World} {b off n cap : Nat} {rs : List T} (h : Ls w (some ⟨b,off,none⟩) n cap rs) (k : Nat) (hk : k < rs.length) : At w b (off + k * 5) rs[k] := by
 rcases h.seg with e | ⟨b',off',e,hs⟩
 ·
  subst e
  simp at hk
 ·
  cases e
  exact hs k hk
theorem ls_nil (w : World) : Ls w none 0 0 [] := ⟨rfl,Nat.le_refl _,by omega,fun _ => rfl,.inl rfl,by simp⟩
end Go.Proofs.YtillcleccjgocaaGreat.Sn
namespace Go.Proofs.YtillcleccjgocaaGreat.Sn
open Go.RowKit
open Mem
def rv (r : T) : List Value := [.int .i64 r.id,.int .i64 r.last,.int .i64 r.why,.int .i64 r.num,.int .i64 r.gross]
theorem rv_len (r : T) : (rv r).length = 5 := rfl
theorem flat_len : ∀ rs : List T,(rs.flatMap rv).length = rs.length * 5
 | [] => rfl
 | r :: l => by
  rw [List.flatMap_cons,List.length_append,rv_len,flat_len l,List.length_cons]
  omega
theorem flat_at : ∀ (rs : List T) (k p : Nat) (hk : k < rs.length),p < 5 → (rs.flatMap rv)[k * 5 + p]? = (rv rs[k])[p]?
 | r :: l,0,p,_,hp => by
  rw [List.flatMap_cons,List.getElem?_append_left (by rw [rv_len]; omega),Nat.zero_mul,Nat.zero_add]
  rfl
 | r :: l,k + 1,p,hk,hp => by
  rw [List.flatMap_cons,List.getElem?_append_right (by rw [rv_len]; omega),rv_len,show (k + 1) * 5 + p - 5 = k * 5 + p by omega]
  exact flat_at l k p (by simpa using hk) hp
theorem one_cell (rs : List T) : ∀ v ∈ rs.flatMap rv,v.oneCell' = true := by
 intro v hv
 obtain ⟨r,_,h⟩ := List.mem_flatMap.1 hv
 unfold rv at h
 simp only [List.mem_cons,List.not_mem_nil,or_false] at h
 rcases h with rfl | rfl | rfl | rfl | rfl <;> rfl
theorem news_of {w : World} {b off : Nat} {rs : List T} (h : ∀ (k : Nat) (hk : k < rs.length),At w b (off + k * 5) rs[k]) (j : Nat) (u : Value) (hu : (rs.flatMap rv)[j]? = some u) : w.cell? ((⟨b,off,none⟩ : Addr).add j) = some u := by
 have hj : j < (rs.flatMap rv).length := by
  obtain ⟨hj,_⟩ := List.getElem?_eq_some_iff.1 hu
  exact hj
 rw [flat_len] at hj
 obtain ⟨k,p,rfl,hp⟩ : ∃ k p,j = k * 5 + p ∧ p < 5 := ⟨j / 5,j % 5,by omega,by omega⟩
 have hk : k < rs.length := by omega
 rw [flat_at rs k p hk hp] at hu
 have ha : (⟨b,off,none⟩ : Addr).add (k * 5 + p) = ⟨b,off + k * 5 + p,none⟩ := by
  unfold Addr.add
  split
  ·
   rename_i e
   simp only [Addr.mk.injEq,true_and,and_true]
   omega
  ·
   simp only [Addr.mk.injEq,true_and,and_true]
   omega
 rw [ha]
 obtain ⟨c0,c1,c2,c3,c4⟩ := h k hk
 have hp' : p = 0 ∨ p = 1 ∨ p = 2 ∨ p = 3 ∨ p = 4 := by omega
 unfold rv at hu
 rcases hp' with rfl | rfl | rfl | rfl | rfl
 all_goals simp at hu
 all_goals subst hu
 · exact c0
 · exact c1
 · exact c2
 · exact c3
 · exact c4
def Own (w : World) (B : Nat) (v : Value) (xs : List T) : Prop := w.ownsRow B 73 5 v xs.length (xs.flatMap rv)
theorem own_nil (w : World) (B : Nat) : Own w B (.slice none 0 0) [] := ⟨rfl,.inl ⟨rfl,rfl⟩⟩
theorem own_ls {w : World} {B : Nat} {v : Value} {xs : List T} (h : Own w B v xs) (hs : ∀ r ∈ xs,Short r) : ∃ ao cap,v = .slice ao xs.length cap ∧ Ls w ao xs.length cap xs ∧ (∀ ad,ao = some ad → ∃ g,ad = ⟨g,0,none⟩ ∧ B ≤ g) := by
 rcases h.2 with ⟨h',h2⟩ | ⟨g,cap,cur,h',hb,hg,hnc,hcm,hcs,htake⟩
 ·
  have e : xs = [] := List.length_eq_zero_iff.1 h2
  subst e
  exact ⟨none,0,h',⟨rfl,Nat.le_refl _,by omega,fun _ => rfl,.inl rfl,hs⟩,fun ad k => by cases k⟩
 ·
  refine ⟨some ⟨g,0,none⟩,cap,h',⟨rfl,hnc,hcm,fun k => (by cases k),.inr ⟨g,0,rfl,fun k hk => ?_⟩,hs⟩,fun ad k => by cases k; exact ⟨g,rfl,hb⟩⟩
  have hcell : ∀ p,p < 5 → w.cell? ⟨g,0 + k * 5 + p,none⟩ = (rv xs[k])[p]? := by
   intro p hp
   rw [Nat.zero_add,cell_of_row w g _ _ _ _ hg,← flat_at xs k p hk hp,← htake,List.getElem?_take_of_lt (by omega)]
   simp
  exact ⟨hcell 0 (by omega),hcell 1 (by omega),hcell 2 (by omega),hcell 3 (by omega),hcell 4 (by omega)⟩
def zero : T := ⟨0,0,0,0,0⟩
def zeroV : Value := .agg #[.int .i64 0,.int .i64 0,.int .i64 0,.int .i64 0,.int .i64 0]
theorem info : (Tryz.prog.info? 73).map (fun i => (i.zero,i.size,i.bytes)) = some (some zeroV,5,40) := by kernel_rfl
theorem wp_append {o : Oper} {a : Act} {K : Act → World → Prop} {Q : Exit → Act → World → Prop} (w : World) (s x : Operand)
  (ho : o.op = .call { callee := .builtin .append,args := #[s,x],argTypes := #[28,28] })
  (B : Nat) (v : Value) (xs : List T) (hs : a.eval s = v) (hown : Own w B v xs)
  (ao : Option Addr) (n cap : Nat) (zs : List T) (hx : a.eval x = .slice ao n cap) (hn : n = zs.length) (hnil : ao = none → cap = 0) (hsrc : Seg w ao zs) (hl : (xs.length + n) * 40 ≤ 140737488355328) (hb : B ≤ w.heap.size)
  (h : ∀ v' w1,Own w1 B v' (xs ++ zs) → w.grownBy w1 v.ownBlock → (v'.ownBlock = v.ownBlock ∨ v'.ownBlock = some w.heap.size) → K (a.put o.dst v') w1) : o.wp Tryz.prog a w K Q := by
 have hzs : zeroV.cells.size = 5 := rfl
 obtain ⟨i0,hi,hz0,hz1,hz2⟩ := info_parts info
 have hmx : maxLen = 9223372036854775807 := rfl
 have empty : zs = [] → n = 0 → Own w B v (xs ++ zs) := by
  intro e _
  rw [e,List.append_nil]
  exact hown
 cases ao with
 | none =>
  obtain rfl : cap = 0 := hnil rfl
  rcases hsrc with e | ⟨b,off,e,_⟩
  ·
   obtain rfl : n = 0 := by rw [hn,e]; rfl
   have hrun := run_append_owned_none (P := Tryz.prog) (w := w) B 28 o.type 73 i0 5 Tryz.underlying28 hi v _ _ hown
   unfold Oper.wp
   simp [execOp,ho,resolve,invoke,builtin,hs,hx,hrun,Result.andThen]
   exact h v w (empty e rfl) ⟨rfl,rfl,rfl,Nat.le_refl _,fun _ _ _ => rfl⟩ (.inl rfl)
  · cases e
 | some ad =>
  obtain ⟨v',w',hr,h2,h3,_,h5⟩ := run_append_own_at (P := Tryz.prog) w B 28 o.type 73 i0 zeroV 5 40 Tryz.underlying28 hi hz0 hz1 hz2 hzs (by omega) v xs.length (xs.flatMap rv) hown ad n cap (zs.flatMap rv) (by rw [flat_len,hn]) (by
   rcases hsrc with e | ⟨b,off,e,hc⟩
   ·
    rw [e]
    intro j u hu
    simp at hu
   ·
    cases e
    exact fun j u hu => news_of hc j u hu) (one_cell zs) (by omega) hl hb
  unfold Oper.wp execOp
  simp only [ho,resolve,invoke,builtin,Sem.run_bind,Sem.run_pure,Result.andThen_ok,List.map_toArray,List.map_cons,List.map_nil,hs,hx,hr]
  refine h v' w' ?_ h3 h5
  unfold Own
  rw [List.flatMap_append,List.length_append,← hn]
  exact h2
theorem wpList_append {ops : Array Oper} {rest : List Oper} {o : Oper} {a : Act} {Q : Exit → Act → World → Prop} (w : World) (hgd : o.guard = none) (s x : Operand)
  (ho : o.op = .call { callee := .builtin .append,args := #[s,x],argTypes := #[28,28] })
  (B : Nat) (v : Value) (xs : List T) (hs : a.eval s = v) (hown : Own w B v xs)
  (ao : Option Addr) (n cap : Nat) (zs : List T) (hx : a.eval x = .slice ao n cap) (hn : n = zs.length) (hnil : ao = none → cap = 0) (hsrc : Seg w ao zs) (hl : (xs.length + n) * 40 ≤ 140737488355328) (hb : B ≤ w.heap.size)
  (h : ∀ v' w1,Own w1 B v' (xs ++ zs) → w.grownBy w1 v.ownBlock → (v'.ownBlock = v.ownBlock ∨ v'.ownBlock = some w.heap.size) → wpList Tryz.prog ops Q rest (a.put o.dst v') w1) : wpList Tryz.prog ops Q (o :: rest) a w :=
 wpList_plain hgd fun _ hK => wp_append w s x ho B v xs hs hown ao n cap zs hx hn hnil hsrc hl hb fun v' w1 h1 h2 h3 => hK _ _ (h v' w1 h1 h2 h3)
theorem own_alloc {w : World} {B : Nat} {v : Value} {xs : List T} (h : Own w B v xs) (o : Obj) : Own (w.alloc o) B v xs := World.ownsRow.alloc h o
def block (r : T) : Obj := .cells #[.int .i64 r.id,.int .i64 r.last,.int .i64 r.why,.int .i64 r.num,.int .i64 r.gross] 73 (0,0)
theorem seg_block {X : World} {g : Nat} {r : T} (h : X.heap[g]? = some (block r)) : Seg X (some ⟨g,0,none⟩) [r] := by
 refine .inr ⟨g,0,rfl,fun k hk => ?_⟩
 obtain rfl : k = 0 := by simpa using hk
 unfold block at h
 refine ⟨?_,?_,?_,?_,?_⟩
 all_goals rw [cell_of_row X g _ _ _ _ h]
 all_goals rfl
end Go.Proofs.YtillcleccjgocaaGreat.Sn
namespace Go.Proofs.YtillcleccjgocaaGreat.Sp
open Sn (T)
def lt (a b : Int) : Bool := decide (a < b)
theorem lt_iff {a b : Int} : lt a b = true ↔ a < b := decide_eq_true_iff
def zeroB (r : T) : Bool := decide (r.why = 0) && (decide (r.num = 0) && decide (r.gross = 0))
theorem zero_iff {r : T} : zeroB r = true ↔ r.why = 0 ∧ r.num = 0 ∧ r.gross = 0 := by
 unfold zeroB
 rw [Bool.and_eq_true,Bool.and_eq_true,decide_eq_true_iff,decide_eq_true_iff,decide_eq_true_iff]
def numB (n : Int) : Bool := decide (1 ≤ n) && decide (n ≤ 1099511627776)
theorem num_iff {n : Int} : numB n = true ↔ 1 ≤ n ∧ n ≤ 1099511627776 := by
 unfold numB
 rw [Bool.and_eq_true,decide_eq_true_iff,decide_eq_true_iff]
def sound (r : T) : Bool := decide (1 ≤ r.id) && (decide (0 ≤ r.last) && (decide (r.last ≤ 1099511627776) && (!(decide (r.last = 0)) || zeroB r)))
theorem sound_iff {r : T} : sound r = true ↔ 1 ≤ r.id ∧ 0 ≤ r.last ∧ r.last ≤ 1099511627776 ∧ (r.last = 0 → r.why = 0 ∧ r.num = 0 ∧ r.gross = 0) := by
 unfold sound
 rw [Bool.and_eq_true,Bool.and_eq_true,Bool.and_eq_true,Bool.or_eq_true,decide_eq_true_iff,decide_eq_true_iff,decide_eq_true_iff,zero_iff,Bool.not_eq_true',decide_eq_false_iff_not]
 constructor
 ·
  rintro ⟨h1,h2,h3,h4⟩
  exact ⟨h1,h2,h3,fun e => h4.resolve_left fun k => k e⟩
 ·
  rintro ⟨h1,h2,h3,h4⟩
  refine ⟨h1,h2,h3,?_⟩
  by_cases e : r.last = 0
  · exact .inr (h4 e)
  · exact .inl e
def ok (p : Option T) (r : T) : Bool := sound r && (match p with | none => true | some q => lt q.id r.id)
def okAll : Option T → List T → Bool
 | _,[] => true
 | p,r :: l => ok p r && okAll (some r) l
def rightB (l : List T) : Bool := decide (l.length ≤ 8) && okAll none l
theorem right_long {l : List T} (h : 8 < l.length) : rightB l = false := by
 unfold rightB
 rw [decide_eq_false (by omega)]
 rfl
theorem right_short {l : List T} (h : l.length ≤ 8) : rightB l = okAll none l := by
 unfold rightB
 rw [decide_eq_true h]
 rfl
def prevAt (l : List T) (k : Nat) : Option T := if k = 0 then none else l[k - 1]?
theorem okAll_at (l : List T) (k : Nat) (h : k < l.length) : okAll (prevAt l k) (l.drop k) = (ok (prevAt l k) l[k] && okAll (prevAt l (k + 1)) (l.drop (k + 1))) := by
 rw [List.drop_eq_getElem_cons h,okAll]
 congr 2
 unfold prevAt
 rw [if_neg (by omega),Nat.add_sub_cancel,List.getElem?_eq_getElem h]
theorem prev_at {l : List T} {j : Nat} {q : T} (h : j < l.length) (hq : l[j] = q) : prevAt l (j + 1) = some q := by
 unfold prevAt
 rw [if_neg (by omega),Nat.add_sub_cancel,List.getElem?_eq_getElem h,hq]
def new (i : Int) : T := ⟨i,0,0,0,0⟩
section
variable {l : List T} {i : Int}
end
section
variable {l : List T} {i : Int}
end
section
variable {l : List T} {i q : Int}
end
section
variable {l : List T} {i q y n g : Int}
end
end Go.Proofs.YtillcleccjgocaaGreat.Sp
namespace Go.Proofs.YtillcleccjgocaaGreat.Bl
open Vt (Rt)
structure Ps where
 ser : ByteArray
 num : Int
 y : Int
 m : Int
 d : Int
 tot : Iv.Tot
 ofS : ByteArray
 ofN : Int
 back : Bool
structure St where
 tab : List Rt
 ser : List Sr.T
 post : List Ps
 book : List Ba.T
 sess : List Sn.T
 next : Int
def new : St := ⟨[],[],[],[],[],1⟩
def Own (p : Ps) : Prop := p.ofS = .empty ∧ p.ofN = 0
def Takes (p q : Ps) : Prop := q.ofS = p.ser ∧ q.ofN = p.num
def cnt (c : ByteArray) : List Ps → Nat
 | [] => 0
 | p :: l => (if p.ser = c then 1 else 0) + cnt c l
theorem cnt_app (c : ByteArray) : ∀ l m : List Ps,cnt c (l ++ m) = cnt c l + cnt c m
 | [],m => by rw [List.nil_append,cnt,Nat.zero_add]
 | p :: l,m => by rw [List.cons_append,cnt,cnt,cnt_app c l m]; omega
theorem cnt_one (c : ByteArray) (p : Ps) : cnt c [p] = if p.ser = c then 1 else 0 := by rw [cnt,cnt,Nat.add_zero]
theorem cnt_take (c : ByteArray) (l : List Ps) (i : Nat) (h : i < l.length) : cnt c (l.take (i + 1)) = cnt c (l.take i) + (if l[i].ser = c then 1 else 0) := by
 rw [List.take_succ_eq_append_getElem h,cnt_app,cnt_one]
theorem cnt_mono (c : ByteArray) (l : List Ps) {i j : Nat} (h : i ≤ j) : cnt c (l.take i) ≤ cnt c (l.take j) := by
 have : l.take j = l.take i ++ (l.take j).drop i := by
  have := List.take_append_drop i (l.take j)
  rw [List.take_take,Nat.min_eq_left h] at this
  exact this.symm
 rw [this,cnt_app]
 omega
def netsP : List Pt.T → Int
 | [] => 0
 | p :: l => p.net + netsP l
def taxesP : List Pt.T → Int
 | [] => 0
 | p :: l => p.tax + taxesP l
structure TotR (t : Iv.Tot) : Prop where
 some : t.parts ≠ []
 few : t.parts.length ≤ 12
 each : ∀ p ∈ t.parts,Rn.name (txt p.cat) = true ∧ 0 ≤ p.bp ∧ p.bp ≤ 100000 ∧ Sh.taxE p.net p.bp = 0 ∧ Sh.taxV p.net p.bp = p.tax
 so : Iv.Sorted t.parts
 net : t.net = netsP t.parts
 tax : t.tax = taxesP t.parts
 gross : t.gross = t.net + t.tax
 fit : Mn.Fit t.net ∧ Mn.Fit t.tax ∧ Mn.Fit t.gross
def enterAll : List Ps → List Ba.T → Option (List Ba.T)
 | [],b => some b
 | p :: l,b => if Po.entrE p.tot.parts = 0 ∧ Po.entE b (Po.entrL p.tot.gross p.tot.parts) = 0 then enterAll l (Po.goL (Po.entrL p.tot.gross p.tot.parts) b) else none
theorem enterAll_app : ∀ (l m : List Ps) (b : List Ba.T),enterAll (l ++ m) b = (enterAll l b).bind (enterAll m)
 | [],m,b => rfl
 | p :: l,m,b => by
  rw [List.cons_append,enterAll,enterAll]
  split
  · exact enterAll_app l m _
  · rfl
structure Link (l : List Ps) (i : Nat) (h : i < l.length) : Prop where
 back : l[i].back = true ↔ ∃ j,∃ hj : j < l.length,i < j ∧ Takes l[i] l[j]
 one : ∀ j k,(hj : j < l.length) → (hk : k < l.length) → i < j → i < k → Takes l[i] l[j] → Takes l[i] l[k] → j = k
 of : ¬ Own l[i] → l[i].back = false ∧ ∃ k,∃ hk : k < i,Takes (l[k]'(by omega)) l[i] ∧ Own (l[k]'(by omega)) ∧ Dt.days (l[k]'(by omega)).y (l[k]'(by omega)).m (l[k]'(by omega)).d ≤ Dt.days l[i].y l[i].m l[i].d ∧ Iv.backE (l[k]'(by omega)).tot = 0 ∧ l[i].tot = Iv.back (l[k]'(by omega)).tot
structure Right (s : St) : Prop where
 tab : Vt.tableB s.tab = true
 ser : Se.rightB s.ser = true
 sess : Sp.rightB s.sess = true
 few : s.post.length ≤ 40
 next : 1 ≤ s.next ∧ s.next ≤ 1099511627776
 ids : ∀ x ∈ s.sess,x.id < s.next
 has : ∀ p ∈ s.post,Se.ix p.ser s.ser < s.ser.length
 num : ∀ i (h : i < s.post.length),s.post[i].num = (cnt s.post[i].ser (s.post.take i) : Int) + 1
 full : ∀ r ∈ s.ser,(cnt r.name s.post : Int) = r.next - 1
 day : ∀ p ∈ s.post,Dt.rightB p.y p.m p.d = true
 tot : ∀ p ∈ s.post,TotR p.tot
 link : ∀ i (h : i < s.post.length),Link s.post i h
 book : enterAll s.post [] = some s.book
theorem right_new : Right new := by
 refine ⟨rfl,rfl,rfl,by simp [new],⟨by show (1 : Int) ≤ 1; omega,by show (1 : Int) ≤ _; omega⟩,?_,?_,?_,?_,?_,?_,?_,rfl⟩
 ·
  intro x hx
  cases hx
 ·
  intro x hx
  cases hx
 ·
  intro i h
  exact absurd h (Nat.not_lt_zero _)
 ·
  intro x hx
  cases hx
 ·
  intro x hx
  cases hx
 ·
  intro x hx
  cases hx
 ·
  intro i h
  exact absurd h (Nat.not_lt_zero _)
theorem Right.pos {s : St} (h : Right s) (i : Nat) (hi : i < s.post.length) : 1 ≤ s.post[i].num := by
 have := h.num i hi
 omega
end Go.Proofs.YtillcleccjgocaaGreat.Bl
namespace Go.Proofs.YtillcleccjgocaaGreat.Bl
open Vt (Rt)
theorem get_new {l : List Ps} {p : Ps} (h : l.length < (l ++ [p]).length) : (l ++ [p])[l.length] = p := by
 rw [List.getElem_append_right (Nat.le_refl _)]
 simp
end Go.Proofs.YtillcleccjgocaaGreat.Bl
namespace Go.Proofs.YtillcleccjgocaaGreat.Bl
open Vt (Rt)
theorem nets_taxed : ∀ l : List Pt.T,netsP (l.map Iv.taxed) = Iv.nets l
 | [] => rfl
 | p :: l => by
  rw [List.map_cons,netsP,Iv.nets,nets_taxed l]
  rfl
theorem nets_neg : ∀ l : List Pt.T,netsP (l.map Iv.negP) = -netsP l
 | [] => rfl
 | p :: l => by
  rw [List.map_cons,netsP,netsP,nets_neg l]
  show -p.net + _ = _
  omega
theorem taxes_neg : ∀ l : List Pt.T,taxesP (l.map Iv.negP) = -taxesP l
 | [] => rfl
 | p :: l => by
  rw [List.map_cons,taxesP,taxesP,taxes_neg l]
  show -p.tax + _ = _
  omega
theorem back_right {t : Iv.Tot} (h : TotR t) (he : Iv.backE t = 0) : TotR (Iv.back t) := by
 have fit0 : ∀ {x : Int},¬ Mn.err x ≠ 0 → Mn.Fit x := fun {x} q => by
  have q' := Decidable.not_not.1 q
  unfold Mn.err at q'
  split at q'
  · assumption
  · omega
 have hfit : Mn.Fit (-t.net) ∧ Mn.Fit (-t.tax) ∧ Mn.Fit (-t.gross) := by
  unfold Iv.backE at he
  split at he
  · omega
  ·
   rename_i q
   exact ⟨fit0 fun k => q (.inl k),fit0 fun k => q (.inr (.inl k)),fit0 fun k => q (.inr (.inr k))⟩
 unfold Iv.back
 refine ⟨?_,by rw [List.length_map]; exact h.few,?_,?_,?_,?_,?_,hfit⟩
 ·
  intro e
  have := congrArg List.length e
  rw [List.length_map] at this
  exact h.some (List.length_eq_zero_iff.1 this)
 ·
  intro p hp
  obtain ⟨q,hq,rfl⟩ := List.mem_map.1 hp
  obtain ⟨a1,a2,a3,a4,a5⟩ := h.each q hq
  have hn := Sh.tax_neg q.net q.bp
  exact ⟨a1,a2,a3,by show Sh.taxE (-q.net) q.bp = 0; rw [hn.2]; exact a4,by show Sh.taxV (-q.net) q.bp = -q.tax; rw [hn.1,a5]⟩
 · exact List.pairwise_map.2 h.so
 ·
  show -t.net = _
  rw [nets_neg,h.net]
 ·
  show -t.tax = _
  rw [taxes_neg,h.tax]
 ·
  show -t.gross = -t.net + -t.tax
  rw [h.gross]
  omega
end Go.Proofs.YtillcleccjgocaaGreat.Bl
namespace Go.Proofs.YtillcleccjgocaaGreat.Rp
open Go.RowKit
open Mem
structure T where
 why : Int
 num : Int
 gross : Int
def Short (r : T) : Prop := Fit r.why ∧ Fit r.num ∧ Fit r.gross
end Go.Proofs.YtillcleccjgocaaGreat.Rp
namespace Go.Proofs.YtillcleccjgocaaGreat.Bl
open Vt (Rt)
instance (p : Ps) : Decidable (Own p) := inferInstanceAs (Decidable (p.ofS = .empty ∧ p.ofN = 0))
def pix (c : ByteArray) (n : Int) : List Ps → Nat
 | [] => 0
 | p :: l => if p.ser = c ∧ p.num = n then 0 else pix c n l + 1
theorem pix_le (c : ByteArray) (n : Int) : ∀ l,pix c n l ≤ l.length
 | [] => Nat.le_refl _
 | p :: l => by
  rw [pix,List.length_cons]
  have := pix_le c n l
  split <;> omega
theorem pix_hit {c : ByteArray} {n : Int} : ∀ {l : List Ps} (h : pix c n l < l.length),l[pix c n l].ser = c ∧ l[pix c n l].num = n
 | [],h => absurd h (Nat.not_lt_zero _)
 | p :: l,h => by
  by_cases q : p.ser = c ∧ p.num = n
  ·
   have e : pix c n (p :: l) = 0 := if_pos q
   simp only [e,List.getElem_cons_zero]
   exact q
  ·
   have e : pix c n (p :: l) = pix c n l + 1 := if_neg q
   simp only [e,List.getElem_cons_succ]
   exact pix_hit (by rw [e,List.length_cons] at h; omega)
theorem pix_none {c : ByteArray} {n : Int} : ∀ {l : List Ps},(∀ p ∈ l,¬ (p.ser = c ∧ p.num = n)) → pix c n l = l.length
 | [],_ => rfl
 | p :: l,h => by
  rw [pix,if_neg (h p (by simp)),pix_none fun q hq => h q (by simp [hq]),List.length_cons]
end Go.Proofs.YtillcleccjgocaaGreat.Bl
namespace Go.Proofs.YtillcleccjgocaaGreat.Bl
def CntOk (c : ByteArray) (l : List Ps) : Prop := ∀ i (h : i < l.length),l[i].ser = c → l[i].num = (cnt c (l.take i) : Int) + 1
def cntAll (l : List Ps) : List Sr.T → Nat
 | [] => 0
 | r :: rs => cnt r.name l + cntAll l rs
theorem cntAll_app (l : List Ps) : ∀ a b : List Sr.T,cntAll l (a ++ b) = cntAll l a + cntAll l b
 | [],b => by rw [List.nil_append,cntAll,Nat.zero_add]
 | r :: a,b => by rw [List.cons_append,cntAll,cntAll,cntAll_app l a b]; omega
theorem cntAll_take (l : List Ps) (rs : List Sr.T) (k : Nat) (h : k < rs.length) : cntAll l (rs.take (k + 1)) = cntAll l (rs.take k) + cnt rs[k].name l := by
 rw [List.take_succ_eq_append_getElem h,cntAll_app,cntAll,cntAll,Nat.add_zero]
theorem cnt_len (c : ByteArray) : ∀ l : List Ps,cnt c l ≤ l.length
 | [] => Nat.le_refl _
 | p :: l => by
  have := cnt_len c l
  rw [cnt,List.length_cons]
  split <;> omega
structure NumR (l : List Ps) (rs : List Sr.T) : Prop where
 each : ∀ r ∈ rs,CntOk r.name l ∧ (cnt r.name l : Int) = r.next - 1
 all : cntAll l rs = l.length
def hit (c : ByteArray) : List Sr.T → Nat
 | [] => 0
 | r :: rs => (if c = r.name then 1 else 0) + hit c rs
theorem hit_none {c : ByteArray} : ∀ {rs : List Sr.T},(∀ r ∈ rs,r.name ≠ c) → hit c rs = 0
 | [],_ => rfl
 | r :: rs,h => by rw [hit,if_neg (fun e => h r (by simp) e.symm),hit_none fun q hq => h q (by simp [hq])]
theorem hit_le {c : ByteArray} : ∀ {rs : List Sr.T},Se.Sorted rs → hit c rs ≤ 1
 | [],_ => Nat.zero_le _
 | r :: rs,h => by
  rw [hit]
  have h1 := List.pairwise_cons.1 h
  by_cases e : c = r.name
  ·
   rw [if_pos e,hit_none]
   · exact Nat.le_refl _
   ·
    intro q hq k
    exact Se.lt_ne (h1.1 q hq) (by rw [k,e])
  ·
   rw [if_neg e]
   have := hit_le (c := c) h1.2
   omega
theorem hit_some {c : ByteArray} : ∀ {rs : List Sr.T},0 < hit c rs ↔ ∃ r ∈ rs,r.name = c
 | [] => by simp [hit]
 | r :: rs => by
  rw [hit]
  by_cases e : c = r.name
  ·
   rw [if_pos e]
   exact ⟨fun _ => ⟨r,by simp,e.symm⟩,fun _ => by omega⟩
  ·
   rw [if_neg e,Nat.zero_add,hit_some]
   constructor
   ·
    rintro ⟨q,hq,k⟩
    exact ⟨q,by simp [hq],k⟩
   ·
    rintro ⟨q,hq,k⟩
    rcases List.mem_cons.1 hq with rfl | hq
    · exact absurd k.symm e
    · exact ⟨q,hq,k⟩
theorem cntAll_cons (p : Ps) (l : List Ps) : ∀ rs : List Sr.T,cntAll (p :: l) rs = hit p.ser rs + cntAll l rs
 | [] => rfl
 | r :: rs => by rw [cntAll,cntAll,cnt,hit,cntAll_cons p l rs]; omega
theorem cntAll_nil : ∀ rs : List Sr.T,cntAll [] rs = 0
 | [] => rfl
 | r :: rs => by rw [cntAll,cntAll_nil rs,cnt]
theorem cntAll_le {rs : List Sr.T} (hs : Se.Sorted rs) : ∀ l : List Ps,cntAll l rs ≤ l.length
 | [] => by rw [cntAll_nil]; exact Nat.zero_le _
 | p :: l => by
  have := cntAll_le hs l
  have := hit_le (c := p.ser) hs
  rw [cntAll_cons,List.length_cons]
  omega
theorem cntAll_full {rs : List Sr.T} (hs : Se.Sorted rs) : ∀ l : List Ps,cntAll l rs = l.length ↔ ∀ p ∈ l,Se.ix p.ser rs < rs.length
 | [] => by rw [cntAll_nil]; simp
 | p :: l => by
  have h1 := cntAll_le hs l
  have h2 := hit_le (c := p.ser) hs
  have ih := cntAll_full hs l
  have h3 : 0 < hit p.ser rs ↔ Se.ix p.ser rs < rs.length := hit_some.trans Se.ix_mem.symm
  rw [cntAll_cons,List.length_cons]
  constructor
  ·
   intro h q hq
   rcases List.mem_cons.1 hq with rfl | hq
   · exact h3.1 (by omega)
   · exact ih.1 (by omega) q hq
  ·
   intro h
   have := ih.2 fun q hq => h q (by simp [hq])
   have := h3.2 (h p (by simp))
   omega
theorem num_iff {l : List Ps} {rs : List Sr.T} (hs : Se.Sorted rs) : NumR l rs ↔ (∀ p ∈ l,Se.ix p.ser rs < rs.length) ∧ (∀ i (h : i < l.length),l[i].num = (cnt l[i].ser (l.take i) : Int) + 1) ∧ (∀ r ∈ rs,(cnt r.name l : Int) = r.next - 1) := by
 constructor
 ·
  intro h
  have hh := (cntAll_full hs l).1 h.all
  refine ⟨hh,fun i hi => ?_,fun r hr => (h.each r hr).2⟩
  obtain ⟨r,hr,e⟩ := Se.ix_mem.1 (hh _ (List.getElem_mem hi))
  have := (h.each r hr).1 i hi e.symm
  rw [e] at this
  exact this
 ·
  rintro ⟨h1,h2,h3⟩
  refine ⟨fun r hr => ⟨fun i hi e => ?_,h3 r hr⟩,(cntAll_full hs l).2 h1⟩
  have := h2 i hi
  rw [e] at this
  exact this
def crd (c : ByteArray) (n : Int) : List Ps → Nat
 | [] => 0
 | p :: l => (if p.ofS = c ∧ p.ofN = n then 1 else 0) + crd c n l
theorem crd_app (c : ByteArray) (n : Int) : ∀ l m : List Ps,crd c n (l ++ m) = crd c n l + crd c n m
 | [],m => by rw [List.nil_append,crd,Nat.zero_add]
 | p :: l,m => by rw [List.cons_append,crd,crd,crd_app c n l m]; omega
theorem crd_take (c : ByteArray) (n : Int) (l : List Ps) (k : Nat) (h : k < l.length) : crd c n (l.take (k + 1)) = crd c n (l.take k) + (if l[k].ofS = c ∧ l[k].ofN = n then 1 else 0) := by
 rw [List.take_succ_eq_append_getElem h,crd_app,crd,crd,Nat.add_zero]
theorem crd_some {c : ByteArray} {n : Int} : ∀ {l : List Ps},0 < crd c n l → ∃ j,∃ h : j < l.length,l[j].ofS = c ∧ l[j].ofN = n
 | [],h => absurd h (Nat.lt_irrefl _)
 | p :: l,h => by
  by_cases e : p.ofS = c ∧ p.ofN = n
  · exact ⟨0,by simp,e⟩
  ·
   rw [crd,if_neg e,Nat.zero_add] at h
   obtain ⟨j,hj,k⟩ := crd_some h
   exact ⟨j + 1,by rw [List.length_cons]; omega,k⟩
theorem crd_pos {c : ByteArray} {n : Int} : ∀ {l : List Ps} {j : Nat} (h : j < l.length),l[j].ofS = c ∧ l[j].ofN = n → 0 < crd c n l
 | [],j,h,_ => absurd h (Nat.not_lt_zero _)
 | p :: l,0,h,e => by
  have e' : p.ofS = c ∧ p.ofN = n := e
  rw [crd,if_pos e']
  omega
 | p :: l,j + 1,h,e => by
  have := crd_pos (c := c) (n := n) (l := l) (j := j) (by rw [List.length_cons] at h; omega) e
  rw [crd]
  omega
theorem crd_two {c : ByteArray} {n : Int} : ∀ {l : List Ps} {i j : Nat} (hi : i < l.length) (hj : j < l.length),i < j → l[i].ofS = c ∧ l[i].ofN = n → l[j].ofS = c ∧ l[j].ofN = n → 2 ≤ crd c n l
 | [],i,j,hi,_,_,_,_ => absurd hi (Nat.not_lt_zero _)
 | p :: l,0,j + 1,hi,hj,_,e,k => by
  have e' : p.ofS = c ∧ p.ofN = n := e
  have := crd_pos (c := c) (n := n) (l := l) (j := j) (by rw [List.length_cons] at hj; omega) k
  rw [crd,if_pos e']
  omega
 | p :: l,i + 1,j + 1,hi,hj,q,e,k => by
  have := crd_two (c := c) (n := n) (l := l) (i := i) (j := j) (by rw [List.length_cons] at hi; omega) (by rw [List.length_cons] at hj; omega) (by omega) e k
  rw [crd]
  omega
 | p :: l,i,0,_,_,q,_,_ => absurd q (Nat.not_lt_zero _)
theorem crd_one {c : ByteArray} {n : Int} : ∀ {l : List Ps},(∀ i j (hi : i < l.length) (hj : j < l.length),(l[i].ofS = c ∧ l[i].ofN = n) → (l[j].ofS = c ∧ l[j].ofN = n) → i = j) → crd c n l ≤ 1
 | [],_ => Nat.zero_le _
 | p :: l,h => by
  have ih := crd_one (c := c) (n := n) (l := l) fun i j hi hj a b => by
   have := h (i + 1) (j + 1) (by rw [List.length_cons]; omega) (by rw [List.length_cons]; omega) a b
   omega
  rw [crd]
  by_cases e : p.ofS = c ∧ p.ofN = n
  ·
   rw [if_pos e]
   rcases Nat.eq_zero_or_pos (crd c n l) with z | z
   · omega
   ·
    obtain ⟨j,hj,k⟩ := crd_some z
    have := h 0 (j + 1) (by simp) (by rw [List.length_cons]; omega) e k
    omega
  ·
   rw [if_neg e]
   omega
def Undo (p : Ps) (l : List Ps) : Prop := ∃ h : pix p.ofS p.ofN l < l.length,Own l[pix p.ofS p.ofN l] ∧ Dt.days l[pix p.ofS p.ofN l].y l[pix p.ofS p.ofN l].m l[pix p.ofS p.ofN l].d ≤ Dt.days p.y p.m p.d ∧ Iv.backE l[pix p.ofS p.ofN l].tot = 0 ∧ p.tot = Iv.back l[pix p.ofS p.ofN l].tot
structure CredR (l : List Ps) (i : Nat) (h : i < l.length) : Prop where
 of : ¬ Own l[i] → Undo l[i] (l.take i)
 cnt : crd l[i].ser l[i].num l = if l[i].back = true then 1 else 0
theorem pix_lt {c : ByteArray} {n : Int} : ∀ {l : List Ps} {k : Nat} (h : k < l.length),l[k].ser = c → l[k].num = n → pix c n l < l.length
 | [],k,h,_,_ => absurd h (Nat.not_lt_zero _)
 | p :: l,0,h,e,f => by
  have : pix c n (p :: l) = 0 := if_pos ⟨e,f⟩
  rw [this]
  exact h
 | p :: l,k + 1,h,e,f => by
  have := pix_lt (c := c) (n := n) (l := l) (k := k) (by rw [List.length_cons] at h; omega) e f
  rw [pix,List.length_cons]
  split <;> omega
theorem takes_own {l : List Ps} (pos : ∀ i (hi : i < l.length),1 ≤ l[i].num) {i j : Nat} (hi : i < l.length) (hj : j < l.length) (h : l[j].ofS = l[i].ser ∧ l[j].ofN = l[i].num) : ¬ Own l[j] := fun o => by
 have := pos i hi
 have := o.2
 omega
section
variable {l : List Ps} (inj : ∀ i j (hi : i < l.length) (hj : j < l.length),l[i].ser = l[j].ser → l[i].num = l[j].num → i = j) (pos : ∀ i (hi : i < l.length),1 ≤ l[i].num)
include inj pos
theorem link_cred (h : ∀ i (q : i < l.length),Link l i q) (i : Nat) (q : i < l.length) : CredR l i q := by
 have later : ∀ {i j : Nat} (hi : i < l.length) (hj : j < l.length),l[j].ofS = l[i].ser ∧ l[j].ofN = l[i].num → i < j := by
  intro i j hi hj e
  obtain ⟨_,k,hk,ht,_⟩ := (h j hj).of (takes_own pos hi hj e)
  have := inj k i (by omega) hi (ht.1.symm.trans e.1) (ht.2.symm.trans e.2)
  omega
 refine ⟨fun o => ?_,?_⟩
 ·
  obtain ⟨_,k,hk,ht,ho,hd,he,hb⟩ := (h i q).of o
  have hkt : k < (l.take i).length := by rw [List.length_take]; omega
  have hp : pix l[i].ofS l[i].ofN (l.take i) < (l.take i).length := pix_lt hkt (by rw [List.getElem_take]; exact ht.1.symm) (by rw [List.getElem_take]; exact ht.2.symm)
  obtain ⟨e1,e2⟩ := pix_hit hp
  rw [List.getElem_take] at e1 e2
  have hkp : pix l[i].ofS l[i].ofN (l.take i) = k := inj _ k (by rw [List.length_take] at hp; omega) (by omega) (e1.trans ht.1) (e2.trans ht.2)
  refine ⟨hp,?_⟩
  simp only [List.getElem_take,hkp]
  exact ⟨ho,hd,he,hb⟩
 ·
  have h1 : crd l[i].ser l[i].num l ≤ 1 := crd_one fun a b ha hb ea eb => (h i q).one a b ha hb (later q ha ea) (later q hb eb) ea eb
  by_cases hb : l[i].back = true
  ·
   rw [if_pos hb]
   obtain ⟨j,hj,_,ht⟩ := (h i q).back.1 hb
   have := crd_pos hj ht
   omega
  ·
   rw [if_neg hb]
   rcases Nat.eq_zero_or_pos (crd l[i].ser l[i].num l) with z | z
   · exact z
   ·
    obtain ⟨j,hj,k⟩ := crd_some z
    exact absurd ((h i q).back.2 ⟨j,hj,later q hj k,k⟩) hb
theorem cred_link (h : ∀ i (q : i < l.length),CredR l i q) (i : Nat) (q : i < l.length) : Link l i q := by
 have undo : ∀ {j : Nat} (hj : j < l.length),¬ Own l[j] → ∃ k,∃ hk : k < j,Takes (l[k]'(by omega)) l[j] ∧ Own (l[k]'(by omega)) ∧ Dt.days (l[k]'(by omega)).y (l[k]'(by omega)).m (l[k]'(by omega)).d ≤ Dt.days l[j].y l[j].m l[j].d ∧ Iv.backE (l[k]'(by omega)).tot = 0 ∧ l[j].tot = Iv.back (l[k]'(by omega)).tot := by
  intro j hj o
  obtain ⟨hp,u⟩ := (h j hj).of o
  obtain ⟨e1,e2⟩ := pix_hit hp
  rw [List.getElem_take] at e1 e2
  simp only [List.getElem_take] at u
  exact ⟨_,by rw [List.length_take] at hp; omega,⟨e1.symm,e2.symm⟩,u⟩
 have later : ∀ {i j : Nat} (hi : i < l.length) (hj : j < l.length),l[j].ofS = l[i].ser ∧ l[j].ofN = l[i].num → i < j ∧ Own l[i] := by
  intro i j hi hj e
  obtain ⟨k,hk,ht,ho,_⟩ := undo hj (takes_own pos hi hj e)
  obtain rfl := inj k i (by omega) hi (ht.1.symm.trans e.1) (ht.2.symm.trans e.2)
  exact ⟨hk,ho⟩
 have hc := (h i q).cnt
 refine ⟨⟨fun hb => ?_,?_⟩,fun j k hj hk _ _ ej ek => ?_,fun o => ⟨?_,undo q o⟩⟩
 ·
  rw [if_pos hb] at hc
  obtain ⟨j,hj,k⟩ := crd_some (c := l[i].ser) (n := l[i].num) (l := l) (by omega)
  exact ⟨j,hj,(later q hj k).1,k⟩
 ·
  rintro ⟨j,hj,_,ht⟩
  have := crd_pos hj ht
  by_cases hb : l[i].back = true
  · exact hb
  ·
   rw [if_neg hb] at hc
   omega
 ·
  have h1 : crd l[i].ser l[i].num l ≤ 1 := by rw [hc]; split <;> omega
  rcases Nat.lt_trichotomy j k with r | r | r
  ·
   have := crd_two hj hk r ej ek
   omega
  · exact r
  ·
   have := crd_two hk hj r ek ej
   omega
 ·
  cases hb : l[i].back
  · rfl
  ·
   rw [if_pos hb] at hc
   obtain ⟨j,hj,k⟩ := crd_some (c := l[i].ser) (n := l[i].num) (l := l) (by omega)
   exact absurd (later q hj k).2 o
end
def flat (l : List Ps) : List Ba.T := l.flatMap fun p => Po.entrL p.tot.gross p.tot.parts
structure BookR (l : List Ps) (b : List Ba.T) : Prop where
 entr : ∀ p ∈ l,Po.entrE p.tot.parts = 0
 entE : Po.entE [] (flat l) = 0
 book : Po.goL (flat l) [] = b
theorem goE_app : ∀ (l m b : List Ba.T),Po.goE (l ++ m) b = if Po.goE l b ≠ 0 then 7 else Po.goE m (Po.goL l b)
 | [],m,b => rfl
 | x :: l,m,b => by
  rw [List.cons_append,Po.goE,Po.goE,Po.goL,goE_app l m]
  by_cases e : Po.enterE x.acct x.amt b ≠ 0
  · rw [if_pos e,if_pos e,if_pos (by omega)]
  · rw [if_neg e,if_neg e]
theorem enterAll_flat : ∀ (l : List Ps) (b c : List Ba.T),Po.Sorted b → (enterAll l b = some c ↔ (∀ p ∈ l,Po.entrE p.tot.parts = 0) ∧ Po.goE (flat l) b = 0 ∧ Po.goL (flat l) b = c)
 | [],b,c,_ => by
  show (some b = some c ↔ _)
  rw [Option.some.injEq]
  exact ⟨fun h => ⟨by simp,rfl,h⟩,fun h => h.2.2⟩
 | p :: l,b,c,hb => by
  have hf : flat (p :: l) = Po.entrL p.tot.gross p.tot.parts ++ flat l := rfl
  have ih := enterAll_flat l (Po.goL (Po.entrL p.tot.gross p.tot.parts) b) c (Po.goL_sorted _ hb)
  have he : Po.entE b (Po.entrL p.tot.gross p.tot.parts) = Po.goE (Po.entrL p.tot.gross p.tot.parts) b := Po.ent_go ((Po.right_iff b).2 hb)
  rw [hf,goE_app,Po.goL_app,enterAll,he]
  constructor
  ·
   intro h
   split at h
   ·
    rename_i q
    obtain ⟨h1,h2,h3⟩ := ih.1 h
    refine ⟨fun r hr => ?_,?_,h3⟩
    ·
     rcases List.mem_cons.1 hr with rfl | hr
     · exact q.1
     · exact h1 r hr
    ·
     rw [if_neg (by rw [q.2]; simp)]
     exact h2
   · cases h
  ·
   rintro ⟨h1,h2,h3⟩
   split at h2
   · omega
   ·
    rename_i q
    rw [if_pos ⟨h1 p (by simp),Decidable.not_not.1 q⟩]
    exact ih.2 ⟨fun r hr => h1 r (by simp [hr]),h2,h3⟩
theorem book_iff (l : List Ps) (b : List Ba.T) : BookR l b ↔ enterAll l [] = some b := by
 rw [enterAll_flat l [] b List.Pairwise.nil]
 have he : Po.entE [] (flat l) = Po.goE (flat l) [] := Po.ent_go rfl
 exact ⟨fun h => ⟨h.entr,he ▸ h.entE,h.book⟩,fun ⟨h1,h2,h3⟩ => ⟨h1,he.trans h2,h3⟩⟩
structure Landed (s : St) : Prop where
 tab : Vt.tableB s.tab = true
 ser : Se.rightB s.ser = true
 next : 1 ≤ s.next ∧ s.next ≤ 1099511627776
 sess : Sp.rightB s.sess = true
 ids : ∀ x ∈ s.sess,x.id < s.next
 few : s.post.length ≤ 40
 num : NumR s.post s.ser
 each : ∀ p ∈ s.post,Dt.rightB p.y p.m p.d = true ∧ TotR p.tot
 cred : ∀ i (h : i < s.post.length),CredR s.post i h
 book : BookR s.post s.book
theorem num_inj {l : List Ps} (h : ∀ i (q : i < l.length),l[i].num = (cnt l[i].ser (l.take i) : Int) + 1) : ∀ i j (hi : i < l.length) (hj : j < l.length),l[i].ser = l[j].ser → l[i].num = l[j].num → i = j := by
 have key : ∀ i j (hi : i < l.length) (hj : j < l.length),l[i].ser = l[j].ser → l[i].num = l[j].num → ¬ i < j := by
  intro i j hi hj e f q
  have h1 := h i hi
  have h2 := h j hj
  have h3 := cnt_take l[i].ser l i hi
  rw [if_pos rfl] at h3
  have h4 := cnt_mono l[i].ser l (i := i + 1) (j := j) (by omega)
  rw [← e] at h2
  omega
 intro i j hi hj e f
 have := key i j hi hj e f
 have := key j i hj hi e.symm f.symm
 omega
theorem landed_iff (s : St) : Landed s ↔ Right s := by
 constructor
 ·
  intro h
  have hs := ((Se.right_iff _).1 h.ser).2.2
  obtain ⟨h1,h2,h3⟩ := (num_iff hs).1 h.num
  have pos : ∀ i (hi : i < s.post.length),1 ≤ s.post[i].num := fun i hi => by have := h2 i hi; omega
  exact ⟨h.tab,h.ser,h.sess,h.few,h.next,h.ids,h1,h2,h3,fun p hp => (h.each p hp).1,fun p hp => (h.each p hp).2,cred_link (num_inj h2) pos h.cred,(book_iff _ _).1 h.book⟩
 ·
  intro h
  have hs := ((Se.right_iff _).1 h.ser).2.2
  exact ⟨h.tab,h.ser,h.next,h.sess,h.ids,h.few,(num_iff hs).2 ⟨h.has,h.num,h.full⟩,fun p hp => ⟨h.day p hp,h.tot p hp⟩,link_cred (num_inj h.num) (fun i hi => h.pos i hi) h.link,(book_iff _ _).2 h.book⟩
end Go.Proofs.YtillcleccjgocaaGreat.Bl
namespace Go.Proofs.YtillcleccjgocaaGreat.Im
open Pk Cm
def itemsB {α : Type} (f : α → List UInt8) : List α → List UInt8
 | [] => []
 | a :: l => f a ++ itemsB f l
def listB {α : Type} (f : α → List UInt8) (l : List α) : List UInt8 := nm (l.length : Int) ++ itemsB f l
def flB (b : Bool) : List UInt8 := nm (if b = true then 1 else 0)
def rateB (r : Vt.Rt) : List UInt8 := tx r.cat ++ (dayB r.y r.m r.d ++ nm r.bp)
def serB (r : Sr.T) : List UInt8 := tx r.name ++ (nm r.limit ++ flB r.shut)
def partB (p : Pt.T) : List UInt8 := tx p.cat ++ (nm p.bp ++ nm p.net)
def postB (p : Bl.Ps) : List UInt8 := tx p.ser ++ (dayB p.y p.m p.d ++ (tx p.ofS ++ (nm p.ofN ++ listB partB p.tot.parts)))
def sessB (x : Sn.T) : List UInt8 := nm x.id ++ (nm x.last ++ (nm x.why ++ (nm x.num ++ nm x.gross)))
def stB (s : Bl.St) : List UInt8 := listB rateB s.tab ++ (listB serB s.ser ++ (listB postB s.post ++ (listB sessB s.sess ++ nm s.next)))
theorem itemsB_app {α : Type} (f : α → List UInt8) : ∀ a b : List α,itemsB f (a ++ b) = itemsB f a ++ itemsB f b
 | [],_ => rfl
 | x :: a,b => by rw [List.cons_append,itemsB,itemsB,itemsB_app f a b,List.append_assoc]
theorem itemsB_map {α : Type} (f : α → List UInt8) (g : α → α) (h : ∀ a,f (g a) = f a) : ∀ l : List α,itemsB f (l.map g) = itemsB f l
 | [] => rfl
 | a :: l => by rw [List.map_cons,itemsB,itemsB,h,itemsB_map f g h l]
theorem listB_map {α : Type} (f : α → List UInt8) (g : α → α) (h : ∀ a,f (g a) = f a) (l : List α) : listB f (l.map g) = listB f l := by
 unfold listB
 rw [List.length_map,itemsB_map f g h]
def rItems {α : Type} (f : St → α × St) : Nat → St → List α × St
 | 0,s => ([],s)
 | k + 1,s => ((f s).1 :: (rItems f k (f s).2).1,(rItems f k (f s).2).2)
def rList {α : Type} (bs : List UInt8) (most : Int) (f : St → α × St) (s : St) : List α × St := rItems f (rCount bs most s).1.toNat (rCount bs most s).2
def rFlag (bs : List UInt8) (s : St) : Bool × St := if (rNum bs s).1 ≠ 0 ∧ (rNum bs s).1 ≠ 1 then (false,⟨s.at',4⟩) else (decide ((rNum bs s).1 = 1),(rNum bs s).2)
def rRate (bs : List UInt8) (s : St) : Vt.Rt × St :=
 let a := rText bs 64 s; let b := rDay bs a.2; let c := rNum bs b.2
 (⟨a.1,b.1.1,b.1.2.1,b.1.2.2,c.1⟩,c.2)
def rSer (bs : List UInt8) (s : St) : Sr.T × St :=
 let a := rText bs 64 s; let b := rNum bs a.2; let c := rFlag bs b.2
 (⟨a.1,0,b.1,c.1⟩,c.2)
def rPart (bs : List UInt8) (s : St) : Pt.T × St :=
 let a := rText bs 64 s; let b := rNum bs a.2; let c := rNum bs b.2
 (⟨a.1,b.1,c.1,0⟩,c.2)
def rPost (bs : List UInt8) (s : St) : Bl.Ps × St :=
 let a := rText bs 64 s; let b := rDay bs a.2; let c := rText bs 64 b.2; let d := rNum bs c.2; let e := rList bs 12 (rPart bs) d.2
 (⟨a.1,0,b.1.1,b.1.2.1,b.1.2.2,⟨0,0,0,e.1⟩,c.1,d.1,false⟩,e.2)
def rSess (bs : List UInt8) (s : St) : Sn.T × St :=
 let a := rNum bs s; let b := rNum bs a.2; let c := rNum bs b.2; let d := rNum bs c.2; let e := rNum bs d.2
 (⟨a.1,b.1,c.1,d.1,e.1⟩,e.2)
def rState (bs : List UInt8) (s : St) : Bl.St × St :=
 let a := rList bs 24 (rRate bs) s; let b := rList bs 8 (rSer bs) a.2; let c := rList bs 40 (rPost bs) b.2; let d := rList bs 8 (rSess bs) c.2; let e := rNum bs d.2
 (⟨a.1,b.1,c.1,[],d.1,e.1⟩,e.2)
def Fwd {α : Type} (bs : List UInt8) (f : St → α × St) (B : α → List UInt8) (ok : α → Prop) : Prop := ∀ a s r,ok a → Rem bs s (B a ++ r) → (f s).1 = a ∧ Rem bs (f s).2 r
def Bwd {α : Type} (bs : List UInt8) (f : St → α × St) (B : α → List UInt8) (ok : α → Prop) : Prop := ∀ s r,Rem bs (f s).2 r → Rem bs s (B (f s).1 ++ r) ∧ ok (f s).1
section
variable {α : Type} {bs : List UInt8} {f : St → α × St} {B : α → List UInt8} {ok : α → Prop}
theorem fwd_items (hf : Fwd bs f B ok) : ∀ (l : List α) (s : St) (r : List UInt8),(∀ a ∈ l,ok a) → Rem bs s (itemsB B l ++ r) → (rItems f l.length s).1 = l ∧ Rem bs (rItems f l.length s).2 r
 | [],_,_,_,h => ⟨rfl,h⟩
 | a :: l,s,r,ho,h => by
  rw [itemsB,List.append_assoc] at h
  obtain ⟨h1,h2⟩ := hf a s _ (ho a (by simp)) h
  obtain ⟨g1,g2⟩ := fwd_items hf l _ r (fun x hx => ho x (by simp [hx])) h2
  rw [List.length_cons,rItems,h1,g1]
  exact ⟨rfl,g2⟩
theorem rItems_len (f : St → α × St) : ∀ (k : Nat) (s : St),(rItems f k s).1.length = k
 | 0,_ => rfl
 | k + 1,s => by rw [rItems,List.length_cons,rItems_len f k]
theorem bwd_items (hf : Bwd bs f B ok) : ∀ (k : Nat) (s : St) (r : List UInt8),Rem bs (rItems f k s).2 r → Rem bs s (itemsB B (rItems f k s).1 ++ r) ∧ ∀ a ∈ (rItems f k s).1,ok a
 | 0,_,_,h => ⟨h,fun _ h => by cases h⟩
 | k + 1,s,r,h => by
  obtain ⟨h1,h2⟩ := bwd_items hf k _ r h
  obtain ⟨g1,g2⟩ := hf s _ h1
  rw [rItems,itemsB,List.append_assoc]
  refine ⟨g1,fun a ha => ?_⟩
  rcases List.mem_cons.1 ha with rfl | ha
  · exact g2
  · exact h2 a ha
theorem itemsB_len (hp : ∀ a,1 ≤ (B a).length) : ∀ l : List α,l.length ≤ (itemsB B l).length
 | [] => Nat.le_refl _
 | a :: l => by
  have h1 := itemsB_len hp l
  have h2 := hp a
  rw [itemsB,List.length_append,List.length_cons]
  omega
theorem fwd_list (hf : Fwd bs f B ok) (hp : ∀ a,1 ≤ (B a).length) {most : Int} (hm : most ≤ 1000) {l : List α} (hl : (l.length : Int) ≤ most) (ho : ∀ a ∈ l,ok a) {s : St} {r : List UInt8} (h : Rem bs s (listB B l ++ r)) : (rList bs most f s).1 = l ∧ Rem bs (rList bs most f s).2 r := by
 unfold listB at h
 rw [List.append_assoc] at h
 have h0 := itemsB_len hp l
 obtain ⟨h1,h2⟩ := fwd_count h hl hm (by rw [List.length_append]; omega)
 obtain ⟨g1,g2⟩ := fwd_items hf l _ r ho h2
 unfold rList
 rw [h1,Int.toNat_natCast]
 exact ⟨g1,g2⟩
theorem bwd_list (hf : Bwd bs f B ok) {most : Int} {s : St} {r : List UInt8} (h : Rem bs (rList bs most f s).2 r) : Rem bs s (listB B (rList bs most f s).1 ++ r) ∧ ((rList bs most f s).1.length : Int) ≤ most ∧ ∀ a ∈ (rList bs most f s).1,ok a := by
 unfold rList at h ⊢
 obtain ⟨h1,h2⟩ := bwd_items hf _ _ r h
 obtain ⟨g1,g2,g3,_⟩ := bwd_count h1
 unfold listB
 rw [rItems_len,List.append_assoc]
 have e : (((rCount bs most s).1.toNat : Nat) : Int) = (rCount bs most s).1 := by omega
 rw [e]
 exact ⟨g1,g3,h2⟩
end
def OkRate (r : Vt.Rt) : Prop := r.cat.size ≤ 64 ∧ Fit r.y ∧ Fit r.m ∧ Fit r.d ∧ Fit r.bp
def OkSer (r : Sr.T) : Prop := r.name.size ≤ 64 ∧ Fit r.limit ∧ r.next = 0
def OkPart (p : Pt.T) : Prop := p.cat.size ≤ 64 ∧ Fit p.bp ∧ Fit p.net ∧ p.tax = 0
def OkPost (p : Bl.Ps) : Prop := p.ser.size ≤ 64 ∧ (Fit p.y ∧ Fit p.m ∧ Fit p.d) ∧ p.ofS.size ≤ 64 ∧ Fit p.ofN ∧ (p.tot.parts.length ≤ 12 ∧ ∀ x ∈ p.tot.parts,OkPart x) ∧ p.num = 0 ∧ p.back = false ∧ p.tot.net = 0 ∧ p.tot.tax = 0 ∧ p.tot.gross = 0
def OkSess (x : Sn.T) : Prop := Fit x.id ∧ Fit x.last ∧ Fit x.why ∧ Fit x.num ∧ Fit x.gross
structure Raw (s : Bl.St) : Prop where
 tab : s.tab.length ≤ 24 ∧ ∀ r ∈ s.tab,OkRate r
 ser : s.ser.length ≤ 8 ∧ ∀ r ∈ s.ser,OkSer r
 post : s.post.length ≤ 40 ∧ ∀ p ∈ s.post,OkPost p
 sess : s.sess.length ≤ 8 ∧ ∀ x ∈ s.sess,OkSess x
 book : s.book = []
 next : Fit s.next
theorem tx_pos (t : ByteArray) : 1 ≤ (tx t).length := by
 unfold tx
 rw [List.length_append]
 have := nm_pos (t.size : Int)
 omega
theorem rateB_pos (r : Vt.Rt) : 1 ≤ (rateB r).length := by
 unfold rateB
 rw [List.length_append]
 have := tx_pos r.cat
 omega
theorem serB_pos (r : Sr.T) : 1 ≤ (serB r).length := by
 unfold serB
 rw [List.length_append]
 have := tx_pos r.name
 omega
theorem partB_pos (p : Pt.T) : 1 ≤ (partB p).length := by
 unfold partB
 rw [List.length_append]
 have := tx_pos p.cat
 omega
theorem postB_pos (p : Bl.Ps) : 1 ≤ (postB p).length := by
 unfold postB
 rw [List.length_append]
 have := tx_pos p.ser
 omega
theorem sessB_pos (x : Sn.T) : 1 ≤ (sessB x).length := by
 unfold sessB
 rw [List.length_append]
 have := nm_pos x.id
 omega
variable {bs : List UInt8}
theorem fwd_flag {s : St} {b : Bool} {r : List UInt8} (h : Rem bs s (flB b ++ r)) : (rFlag bs s).1 = b ∧ Rem bs (rFlag bs s).2 r := by
 unfold flB at h
 have hf : Fit (if b = true then (1 : Int) else 0) := by cases b <;> exact ⟨by decide,by decide⟩
 obtain ⟨h1,h2⟩ := fwd_num h hf
 unfold rFlag
 rw [if_neg (by rw [h1]; cases b <;> simp),h1]
 refine ⟨?_,h2⟩
 cases b <;> rfl
theorem bwd_flag {s : St} {r : List UInt8} (h : Rem bs (rFlag bs s).2 r) : Rem bs s (flB (rFlag bs s).1 ++ r) := by
 by_cases hb : (rNum bs s).1 ≠ 0 ∧ (rNum bs s).1 ≠ 1
 ·
  unfold rFlag at h
  rw [if_pos hb] at h
  exact absurd h.1 (by simp)
 ·
  have e : rFlag bs s = (decide ((rNum bs s).1 = 1),(rNum bs s).2) := if_neg hb
  rw [e] at h ⊢
  have h1 := bwd_num h
  have e2 : (if decide ((rNum bs s).1 = 1) = true then (1 : Int) else 0) = (rNum bs s).1 := by
   by_cases z : (rNum bs s).1 = 1
   ·
    rw [z]
    rfl
   ·
    have : (rNum bs s).1 = 0 := Decidable.byContradiction fun y => hb ⟨y,z⟩
    rw [this]
    rfl
  unfold flB
  rw [e2]
  exact h1
theorem fwd_rate : Fwd bs (rRate bs) rateB OkRate := by
 intro a s r ho h
 unfold rateB at h
 rw [List.append_assoc,List.append_assoc] at h
 obtain ⟨a1,a2⟩ := fwd_text h ho.1
 obtain ⟨b1,b2⟩ := fwd_day a2 ho.2.1 ho.2.2.1 ho.2.2.2.1
 obtain ⟨c1,c2⟩ := fwd_num b2 ho.2.2.2.2
 unfold rRate
 simp only [a1,b1,c1]
 exact ⟨trivial,c2⟩
theorem bwd_rate : Bwd bs (rRate bs) rateB OkRate := by
 intro s r h
 unfold rRate at h ⊢
 simp only at h ⊢
 have c := bwd_num h
 have b := bwd_day c
 obtain ⟨a,a2⟩ := bwd_text b
 unfold rateB
 rw [List.append_assoc,List.append_assoc]
 exact ⟨a,a2,rNum_fit _ _,rNum_fit _ _,rNum_fit _ _,rNum_fit _ _⟩
theorem fwd_ser : Fwd bs (rSer bs) serB OkSer := by
 intro a s r ho h
 unfold serB at h
 rw [List.append_assoc,List.append_assoc] at h
 obtain ⟨a1,a2⟩ := fwd_text h ho.1
 obtain ⟨b1,b2⟩ := fwd_num a2 ho.2.1
 obtain ⟨c1,c2⟩ := fwd_flag b2
 unfold rSer
 simp only [a1,b1,c1]
 refine ⟨?_,c2⟩
 cases a
 have := ho.2.2
 simp only at this
 rw [this]
theorem bwd_ser : Bwd bs (rSer bs) serB OkSer := by
 intro s r h
 unfold rSer at h ⊢
 simp only at h ⊢
 have c := bwd_flag h
 have b := bwd_num c
 obtain ⟨a,a2⟩ := bwd_text b
 unfold serB
 rw [List.append_assoc,List.append_assoc]
 exact ⟨a,a2,rNum_fit _ _,rfl⟩
theorem fwd_part : Fwd bs (rPart bs) partB OkPart := by
 intro a s r ho h
 unfold partB at h
 rw [List.append_assoc,List.append_assoc] at h
 obtain ⟨a1,a2⟩ := fwd_text h ho.1
 obtain ⟨b1,b2⟩ := fwd_num a2 ho.2.1
 obtain ⟨c1,c2⟩ := fwd_num b2 ho.2.2.1
 unfold rPart
 simp only [a1,b1,c1]
 refine ⟨?_,c2⟩
 cases a
 have := ho.2.2.2
 simp only at this
 rw [this]
theorem bwd_part : Bwd bs (rPart bs) partB OkPart := by
 intro s r h
 unfold rPart at h ⊢
 simp only at h ⊢
 have c := bwd_num h
 have b := bwd_num c
 obtain ⟨a,a2⟩ := bwd_text b
 unfold partB
 rw [List.append_assoc,List.append_assoc]
 exact ⟨a,a2,rNum_fit _ _,rNum_fit _ _,rfl⟩
theorem fwd_post : Fwd bs (rPost bs) postB OkPost := by
 intro a s r ho h
 unfold postB at h
 simp only [List.append_assoc] at h
 obtain ⟨a1,a2⟩ := fwd_text h ho.1
 obtain ⟨b1,b2⟩ := fwd_day a2 ho.2.1.1 ho.2.1.2.1 ho.2.1.2.2
 obtain ⟨c1,c2⟩ := fwd_text b2 ho.2.2.1
 obtain ⟨d1,d2⟩ := fwd_num c2 ho.2.2.2.1
 obtain ⟨e1,e2⟩ := fwd_list (ok := OkPart) fwd_part partB_pos (most := 12) (by omega) (by have := ho.2.2.2.2.1.1; omega) ho.2.2.2.2.1.2 d2
 unfold rPost
 simp only [a1,b1,c1,d1,e1]
 refine ⟨?_,e2⟩
 obtain ⟨q1,q2,q3,q4,q5⟩ := ho.2.2.2.2.2
 obtain ⟨ser,num,y,m,d,⟨net,tax,gross,parts⟩,ofS,ofN,back⟩ := a
 simp only at q1 q2 q3 q4 q5
 subst q1 q2 q3 q4 q5
 rfl
theorem bwd_post : Bwd bs (rPost bs) postB OkPost := by
 intro s r h
 unfold rPost at h ⊢
 simp only at h ⊢
 obtain ⟨e,e2,e3⟩ := bwd_list bwd_part h
 have d := bwd_num e
 obtain ⟨c,c2⟩ := bwd_text d
 have b := bwd_day c
 obtain ⟨a,a2⟩ := bwd_text b
 unfold postB
 simp only [List.append_assoc]
 exact ⟨a,a2,⟨rNum_fit _ _,rNum_fit _ _,rNum_fit _ _⟩,c2,rNum_fit _ _,⟨by simp only at e2 ⊢; omega,e3⟩,rfl,rfl,rfl,rfl,rfl⟩
theorem fwd_sess : Fwd bs (rSess bs) sessB OkSess := by
 intro a s r ho h
 unfold sessB at h
 simp only [List.append_assoc] at h
 obtain ⟨a1,a2⟩ := fwd_num h ho.1
 obtain ⟨b1,b2⟩ := fwd_num a2 ho.2.1
 obtain ⟨c1,c2⟩ := fwd_num b2 ho.2.2.1
 obtain ⟨d1,d2⟩ := fwd_num c2 ho.2.2.2.1
 obtain ⟨e1,e2⟩ := fwd_num d2 ho.2.2.2.2
 unfold rSess
 simp only [a1,b1,c1,d1,e1]
 exact ⟨trivial,e2⟩
theorem bwd_sess : Bwd bs (rSess bs) sessB OkSess := by
 intro s r h
 unfold rSess at h ⊢
 simp only at h ⊢
 have e := bwd_num h
 have d := bwd_num e
 have c := bwd_num d
 have b := bwd_num c
 have a := bwd_num b
 unfold sessB
 simp only [List.append_assoc]
 exact ⟨a,rNum_fit _ _,rNum_fit _ _,rNum_fit _ _,rNum_fit _ _,rNum_fit _ _⟩
theorem fwd_state {s : St} {t : Bl.St} {r : List UInt8} (ho : Raw t) (h : Rem bs s (stB t ++ r)) : (rState bs s).1 = t ∧ Rem bs (rState bs s).2 r := by
 unfold stB at h
 simp only [List.append_assoc] at h
 obtain ⟨a1,a2⟩ := fwd_list (ok := OkRate) fwd_rate rateB_pos (most := 24) (by omega) (by have := ho.tab.1; omega) ho.tab.2 h
 obtain ⟨b1,b2⟩ := fwd_list (ok := OkSer) fwd_ser serB_pos (most := 8) (by omega) (by have := ho.ser.1; omega) ho.ser.2 a2
 obtain ⟨c1,c2⟩ := fwd_list (ok := OkPost) fwd_post postB_pos (most := 40) (by omega) (by have := ho.post.1; omega) ho.post.2 b2
 obtain ⟨d1,d2⟩ := fwd_list (ok := OkSess) fwd_sess sessB_pos (most := 8) (by omega) (by have := ho.sess.1; omega) ho.sess.2 c2
 obtain ⟨e1,e2⟩ := fwd_num d2 ho.next
 unfold rState
 simp only [a1,b1,c1,d1,e1]
 refine ⟨?_,e2⟩
 have := ho.book
 cases t
 simp only at this
 rw [this]
theorem bwd_state {s : St} {r : List UInt8} (h : Rem bs (rState bs s).2 r) : Rem bs s (stB (rState bs s).1 ++ r) ∧ Raw (rState bs s).1 := by
 unfold rState at h ⊢
 simp only at h ⊢
 have e := bwd_num h
 obtain ⟨d,d2,d3⟩ := bwd_list bwd_sess e
 obtain ⟨c,c2,c3⟩ := bwd_list bwd_post d
 obtain ⟨b,b2,b3⟩ := bwd_list bwd_ser c
 obtain ⟨a,a2,a3⟩ := bwd_list bwd_rate b
 unfold stB
 simp only [List.append_assoc]
 exact ⟨a,⟨⟨by simp only at a2 ⊢; omega,a3⟩,⟨by simp only at b2 ⊢; omega,b3⟩,⟨by simp only at c2 ⊢; omega,c3⟩,⟨by simp only at d2 ⊢; omega,d3⟩,rfl,rNum_fit _ _⟩⟩
end Go.Proofs.YtillcleccjgocaaGreat.Im
namespace Go.Proofs.YtillcleccjgocaaGreat.Bl
open Vt (Rt)
theorem get_last {l : List Ps} {p : Ps} {n : Nat} (e : l.length = n) (h : n < (l ++ [p]).length) : (l ++ [p])[n] = p := by
 subst e
 exact get_new h
end Go.Proofs.YtillcleccjgocaaGreat.Bl
namespace Go.Proofs.YtillcleccjgocaaGreat.Mem
structure Sl where
 ao : Option Addr
 n : Nat
 cap : Nat
end Go.Proofs.YtillcleccjgocaaGreat.Mem
namespace Go.Proofs.YtillcleccjgocaaGreat.Pd
open Go.RowKit
open Mem
structure T where
 ser : ByteArray
 num : Int
 y : Int
 m : Int
 d : Int
 net : Int
 tax : Int
 gross : Int
 parts : Sl
 ofS : ByteArray
 ofN : Int
 back : Bool
def val (r : T) : Value := .agg #[.string r.ser,.int .i64 r.num,.int .i64 r.y,.int .i64 r.m,.int .i64 r.d,.int .i64 r.net,.int .i64 r.tax,.int .i64 r.gross,.slice r.parts.ao r.parts.n r.parts.cap,.string r.ofS,.int .i64 r.ofN,.bool r.back]
def Short (r : T) : Prop := r.ser.size ≤ 140737488355328 ∧ Fit r.num ∧ Fit r.y ∧ Fit r.m ∧ Fit r.d ∧ Fit r.net ∧ Fit r.tax ∧ Fit r.gross ∧ r.ofS.size ≤ 140737488355328 ∧ Fit r.ofN
def box (w : World) (r : T) : World := w.alloc (.cells #[.string r.ser,.int .i64 r.num,.int .i64 r.y,.int .i64 r.m,.int .i64 r.d,.int .i64 r.net,.int .i64 r.tax,.int .i64 r.gross,.slice r.parts.ao r.parts.n r.parts.cap,.string r.ofS,.int .i64 r.ofN,.bool r.back] 100)
def C (u : World) (b : Nat) (r : T) : Prop :=
 u.cell? ⟨b,0,none⟩ = some (.string r.ser) ∧ u.cell? ⟨b,1,none⟩ = some (.int .i64 r.num) ∧ u.cell? ⟨b,2,none⟩ = some (.int .i64 r.y) ∧ u.cell? ⟨b,3,none⟩ = some (.int .i64 r.m) ∧ u.cell? ⟨b,4,none⟩ = some (.int .i64 r.d) ∧ u.cell? ⟨b,5,none⟩ = some (.int .i64 r.net) ∧ u.cell? ⟨b,6,none⟩ = some (.int .i64 r.tax) ∧ u.cell? ⟨b,7,none⟩ = some (.int .i64 r.gross) ∧ u.cell? ⟨b,8,none⟩ = some (.slice r.parts.ao r.parts.n r.parts.cap) ∧ u.cell? ⟨b,9,none⟩ = some (.string r.ofS) ∧ u.cell? ⟨b,10,none⟩ = some (.int .i64 r.ofN) ∧ u.cell? ⟨b,11,none⟩ = some (.bool r.back)
theorem C.below {u v : World} {b : Nat} {r : T} (h : C u b r) (k : Below u.heap.size u v) : C v b r := by
 obtain ⟨h0,h1,h2,h3,h4,h5,h6,h7,h8,h9,h10,h11⟩ := h
 have hl := cell_lt h0
 unfold C
 rw [(bcell k).1 _ _ hl,(bcell k).1 _ _ hl,(bcell k).1 _ _ hl,(bcell k).1 _ _ hl,(bcell k).1 _ _ hl,(bcell k).1 _ _ hl,(bcell k).1 _ _ hl,(bcell k).1 _ _ hl,(bcell k).1 _ _ hl,(bcell k).1 _ _ hl,(bcell k).1 _ _ hl,(bcell k).1 _ _ hl]
 exact ⟨h0,h1,h2,h3,h4,h5,h6,h7,h8,h9,h10,h11⟩
theorem c_box (w : World) (r : T) : C (box w r) w.heap.size r := by
 unfold box C
 simp [go_sem]
theorem below_own (w : World) (r : T) : Below w.heap.size w (box w r) := (Below.refl _ _).alloc (Nat.le_refl _) _
theorem boxed1 (w : World) (a : T) : ∃ W,w.alloc (.cells #[.string a.ser,.int .i64 a.num,.int .i64 a.y,.int .i64 a.m,.int .i64 a.d,.int .i64 a.net,.int .i64 a.tax,.int .i64 a.gross,.slice a.parts.ao a.parts.n a.parts.cap,.string a.ofS,.int .i64 a.ofN,.bool a.back] 100) = W ∧ Below w.heap.size w W ∧ C W w.heap.size a :=
 ⟨_,rfl,below_own w a,c_box w a⟩
end Go.Proofs.YtillcleccjgocaaGreat.Pd
namespace Go.Proofs.YtillcleccjgocaaGreat.Pd
open Go.RowKit
open Mem
structure At (u : World) (b o : Nat) (r : T) : Prop where
 c0 : u.cell? ⟨b,o,none⟩ = some (.string r.ser)
 c1 : u.cell? ⟨b,o + 1,none⟩ = some (.int .i64 r.num)
 c2 : u.cell? ⟨b,o + 2,none⟩ = some (.int .i64 r.y)
 c3 : u.cell? ⟨b,o + 3,none⟩ = some (.int .i64 r.m)
 c4 : u.cell? ⟨b,o + 4,none⟩ = some (.int .i64 r.d)
 c5 : u.cell? ⟨b,o + 5,none⟩ = some (.int .i64 r.net)
 c6 : u.cell? ⟨b,o + 6,none⟩ = some (.int .i64 r.tax)
 c7 : u.cell? ⟨b,o + 7,none⟩ = some (.int .i64 r.gross)
 c8 : u.cell? ⟨b,o + 8,none⟩ = some (.slice r.parts.ao r.parts.n r.parts.cap)
 c9 : u.cell? ⟨b,o + 9,none⟩ = some (.string r.ofS)
 c10 : u.cell? ⟨b,o + 10,none⟩ = some (.int .i64 r.ofN)
 c11 : u.cell? ⟨b,o + 11,none⟩ = some (.bool r.back)
theorem At.below {u v : World} {b o : Nat} {r : T} (h : At u b o r) (k : Below u.heap.size u v) : At v b o r := by
 have hl := cell_lt h.c0
 exact ⟨by rw [(bcell k).1 _ _ hl]; exact h.c0,by rw [(bcell k).1 _ _ hl]; exact h.c1,by rw [(bcell k).1 _ _ hl]; exact h.c2,by rw [(bcell k).1 _ _ hl]; exact h.c3,by rw [(bcell k).1 _ _ hl]; exact h.c4,by rw [(bcell k).1 _ _ hl]; exact h.c5,by rw [(bcell k).1 _ _ hl]; exact h.c6,by rw [(bcell k).1 _ _ hl]; exact h.c7,by rw [(bcell k).1 _ _ hl]; exact h.c8,by rw [(bcell k).1 _ _ hl]; exact h.c9,by rw [(bcell k).1 _ _ hl]; exact h.c10,by rw [(bcell k).1 _ _ hl]; exact h.c11⟩
def Seg (w : World) (ao : Option Addr) (rs : List T) : Prop := rs = [] ∨ ∃ b off,ao = some ⟨b,off,none⟩ ∧ ∀ (k : Nat) (hk : k < rs.length),At w b (off + k * 12) rs[k]
theorem Seg.below {w v : World} {ao : Option Addr} {rs : List T} (h : Seg w ao rs) (k : Below w.heap.size w v) : Seg v ao rs := by
 rcases h with h | ⟨b,off,e,h⟩
 · exact .inl h
 · exact .inr ⟨b,off,e,fun i hi => (h i hi).below k⟩
structure Ls (w : World) (ao : Option Addr) (n cap : Nat) (rs : List T) : Prop where
 len : n = rs.length
 fits : n ≤ cap
 reach : cap ≤ 9223372036854775807
 nil : ao = none → cap = 0
 seg : Seg w ao rs
 short : ∀ r ∈ rs,Short r
theorem Ls.below {w v : World} {ao : Option Addr} {n cap : Nat} {rs : List T} (h : Ls w ao n cap rs) (k : Below w.heap.size w v) : Ls v ao n cap rs :=
 ⟨h.len,h.fits,h.reach,h.nil,h.seg.below k,h.short⟩
theorem Ls.at {w : World} {ao : Option Addr} {n cap : Nat} {rs : List T} (h : Ls w ao n cap rs) (hn : 0 < n) : ∃ b off,ao = some ⟨b,off,none⟩ := by
 rcases h.seg with e | ⟨b,off,e,_⟩
 ·
  have := h.len
  rw [e] at this
  simp at this
  omega
 · exact ⟨b,off,e⟩
theorem Ls.row {w : World} {b off n cap : Nat} {rs : List T} (h : Ls w (some ⟨b,off,none⟩) n cap rs) (k : Nat) (hk : k < rs.length) : At w b (off + k * 12) rs[k] := by
 rcases h.seg with e | ⟨b',off',e,hs⟩
 ·
  subst e
  simp at hk
 ·
  cases e
  exact hs k hk
theorem ls_nil (w : World) : Ls w none 0 0 [] := ⟨rfl,Nat.le_refl _,by omega,fun _ => rfl,.inl rfl,by simp⟩
theorem und : Tryz.prog.underlying 26 = some (.slice (Tryz.prog.elem 26)) := by kernel_rfl
theorem size (u : World) : (sizeOf (Tryz.prog.elem 26)).run Tryz.prog u = .ok 12 u := by
 have h : (Tryz.prog.info? (Tryz.prog.elem 26)).map (·.size) = some 12 := by kernel_rfl
 obtain ⟨i,hi,hs⟩ := Option.map_eq_some_iff.1 h
 simp [sizeOf,typeInfo,hi,hs]
theorem Ls.to {w : World} {ao : Option Addr} {n cap : Nat} {rs : List T} (h : Ls w ao n cap rs) (k : Nat) (hk : k ≤ n) :
  (∀ u,(Instr.slice 26 (.slice ao n cap) none (some (.int .i64 (k : Int))) none).run Tryz.prog u = .ok (.slice ao k cap) u) ∧ Ls w ao k cap (rs.take k) := by
 have hl := h.len
 have hf := h.fits
 refine ⟨fun u => ?_,⟨by rw [List.length_take]; omega,by omega,h.reach,h.nil,?_,fun r hr => h.short r (List.mem_of_mem_take hr)⟩⟩
 ·
  rw [run_slice_h u 26 ao n cap und .i64 k (by omega) (by omega),size]
  have e : Option.map (fun x : Addr => x.add 0) ao = ao := by cases ao <;> simp [Addr.add]
  simp [Result.andThen,sliced,e]
 ·
  rcases h.seg with e | ⟨b,off,e,hc⟩
  · exact .inl (by rw [e]; simp)
  ·
   refine .inr ⟨b,off,e,fun j hj => ?_⟩
   rw [List.length_take] at hj
   rw [List.getElem_take]
   exact hc j (by omega)
theorem Ls.from {w : World} {ao : Option Addr} {n cap : Nat} {rs : List T} (h : Ls w ao n cap rs) (k : Nat) (hk : k ≤ n) :
  ∃ ao2 cap2,(∀ u,(Instr.slice 26 (.slice ao n cap) (some (.int .i64 (k : Int))) none none).run Tryz.prog u = .ok (.slice ao2 (n - k) cap2) u) ∧ Ls w ao2 (n - k) cap2 (rs.drop k) := by
 have hl := h.len
 have hf := h.fits
 refine ⟨if cap = k then ao else ao.map (·.add (k * 12)),cap - k,fun u => ?_,⟨by rw [List.length_drop]; omega,by omega,by have := h.reach; omega,?_,?_,fun r hr => h.short r (List.mem_of_mem_drop hr)⟩⟩
 ·
  rw [run_slice_l u 26 ao n cap und .i64 k (by omega) (by omega),size]
  simp [Result.andThen,sliced]
 ·
  by_cases e : cap = k
  · omega
  ·
   rw [if_neg e]
   cases ao with
   | none => have := h.nil rfl; omega
   | some a => exact fun k => by cases k
 ·
  by_cases hkn : k = n
  · exact .inl (List.drop_eq_nil_of_le (by omega))
  ·
   rcases h.seg with e | ⟨b,off,rfl,hc⟩
   · exact .inl (by rw [e]; simp)
   ·
    refine .inr ⟨b,off + k * 12,?_,fun j hj => ?_⟩
    ·
     rw [if_neg (by omega)]
     unfold Addr.add
     simp only [Option.map_some,Option.some.injEq]
     split
     ·
      rename_i e
      rw [e]
      rfl
     · rfl
    ·
     rw [List.length_drop] at hj
     rw [List.getElem_drop,show off + k * 12 + j * 12 = off + (k + j) * 12 by omega]
     exact hc (k + j) (by omega)
end Go.Proofs.YtillcleccjgocaaGreat.Pd
