import Derived.Maps.AppendAt
import Derived.Laws.AppendOwnNone
import Derived.Laws.Rows
import Derived.RegionTactic
import Derived.Lib.QuietBelow
import Derived.SizedLaws
import Derived.Deep.Slices
import Derived.Lib.SmallJoins
import Derived.Deep.MidRow
import Derived.Lib.SlicesCompact
import Derived.Lib.Bytealg
import Derived.Test.YtjpfpojbalepeaaGreatZG1
import Derived.Test.YtjpfpojbalepeaaGreatZG2
import Derived.Test.YtjpfpojbalepeaaGreatZG3
namespace Go.Proofs.YtjpfpojbalepeaaGreat.Ba
open Go.RowKit
open Mem
def rv (r : T) : List Value := [.string r.acct,.int .i64 r.amt]
theorem rv_len (r : T) : (rv r).length = 2 := rfl
theorem flat_len : ∀ rs : List T,(rs.flatMap rv).length = rs.length * 2
 | [] => rfl
 | r :: l => by
  rw [List.flatMap_cons,List.length_append,rv_len,flat_len l,List.length_cons]
  omega
theorem flat_at : ∀ (rs : List T) (k p : Nat) (hk : k < rs.length),p < 2 → (rs.flatMap rv)[k * 2 + p]? = (rv rs[k])[p]?
 | r :: l,0,p,_,hp => by
  rw [List.flatMap_cons,List.getElem?_append_left (by rw [rv_len]; omega),Nat.zero_mul,Nat.zero_add]
  rfl
 | r :: l,k + 1,p,hk,hp => by
  rw [List.flatMap_cons,List.getElem?_append_right (by rw [rv_len]; omega),rv_len,show (k + 1) * 2 + p - 2 = k * 2 + p by omega]
  exact flat_at l k p (by simpa using hk) hp
theorem one_cell (rs : List T) : ∀ v ∈ rs.flatMap rv,v.oneCell' = true := by
 intro v hv
 obtain ⟨r,_,h⟩ := List.mem_flatMap.1 hv
 unfold rv at h
 simp only [List.mem_cons,List.not_mem_nil,or_false] at h
 rcases h with rfl | rfl <;> rfl
theorem news_of {w : World} {b off : Nat} {rs : List T} (h : ∀ (k : Nat) (hk : k < rs.length),At w b (off + k * 2) rs[k]) (j : Nat) (u : Value) (hu : (rs.flatMap rv)[j]? = some u) : w.cell? ((⟨b,off,none⟩ : Addr).add j) = some u := by
 have hj : j < (rs.flatMap rv).length := by
  obtain ⟨hj,_⟩ := List.getElem?_eq_some_iff.1 hu
  exact hj
 rw [flat_len] at hj
 obtain ⟨k,p,rfl,hp⟩ : ∃ k p,j = k * 2 + p ∧ p < 2 := ⟨j / 2,j % 2,by omega,by omega⟩
 have hk : k < rs.length := by omega
 rw [flat_at rs k p hk hp] at hu
 have ha : (⟨b,off,none⟩ : Addr).add (k * 2 + p) = ⟨b,off + k * 2 + p,none⟩ := by
  unfold Addr.add
  split
  ·
   rename_i e
   simp only [Addr.mk.injEq,true_and,and_true]
   omega
  ·
   simp only [Addr.mk.injEq,true_and,and_true]
   omega
 rw [ha]
 obtain ⟨c0,c1⟩ := h k hk
 have hp' : p = 0 ∨ p = 1 := by omega
 unfold rv at hu
 rcases hp' with rfl | rfl
 all_goals simp at hu
 all_goals subst hu
 · exact c0
 · exact c1
def Own (w : World) (B : Nat) (v : Value) (xs : List T) : Prop := w.ownsRow B 94 2 v xs.length (xs.flatMap rv)
theorem own_nil (w : World) (B : Nat) : Own w B (.slice none 0 0) [] := ⟨rfl,.inl ⟨rfl,rfl⟩⟩
theorem own_ls {w : World} {B : Nat} {v : Value} {xs : List T} (h : Own w B v xs) (hs : ∀ r ∈ xs,Short r) : ∃ ao cap,v = .slice ao xs.length cap ∧ Ls w ao xs.length cap xs ∧ (∀ ad,ao = some ad → ∃ g,ad = ⟨g,0,none⟩ ∧ B ≤ g) := by
 rcases h.2 with ⟨h',h2⟩ | ⟨g,cap,cur,h',hb,hg,hnc,hcm,hcs,htake⟩
 ·
  have e : xs = [] := List.length_eq_zero_iff.1 h2
  subst e
  exact ⟨none,0,h',⟨rfl,Nat.le_refl _,by omega,fun _ => rfl,.inl rfl,hs⟩,fun ad k => by cases k⟩
 ·
  refine ⟨some ⟨g,0,none⟩,cap,h',⟨rfl,hnc,hcm,fun k => (by cases k),.inr ⟨g,0,rfl,fun k hk => ?_⟩,hs⟩,fun ad k => by cases k; exact ⟨g,rfl,hb⟩⟩
  have hcell : ∀ p,p < 2 → w.cell? ⟨g,0 + k * 2 + p,none⟩ = (rv xs[k])[p]? := by
   intro p hp
   rw [Nat.zero_add,cell_of_row w g _ _ _ _ hg,← flat_at xs k p hk hp,← htake,List.getElem?_take_of_lt (by omega)]
   simp
  exact ⟨hcell 0 (by omega),hcell 1 (by omega)⟩
def zero : T := ⟨.empty,0⟩
def zeroV : Value := .agg #[.string .empty,.int .i64 0]
theorem info : (Tryz.prog.info? 94).map (fun i => (i.zero,i.size,i.bytes)) = some (some zeroV,2,24) := by kernel_rfl
theorem wp_append {o : Oper} {a : Act} {K : Act → World → Prop} {Q : Exit → Act → World → Prop} (w : World) (s x : Operand)
  (ho : o.op = .call { callee := .builtin .append,args := #[s,x],argTypes := #[39,39] })
  (B : Nat) (v : Value) (xs : List T) (hs : a.eval s = v) (hown : Own w B v xs)
  (ao : Option Addr) (n cap : Nat) (zs : List T) (hx : a.eval x = .slice ao n cap) (hn : n = zs.length) (hnil : ao = none → cap = 0) (hsrc : Seg w ao zs) (hl : (xs.length + n) * 24 ≤ 140737488355328) (hb : B ≤ w.heap.size)
  (h : ∀ v' w1,Own w1 B v' (xs ++ zs) → w.grownBy w1 v.ownBlock → (v'.ownBlock = v.ownBlock ∨ v'.ownBlock = some w.heap.size) → K (a.put o.dst v') w1) : o.wp Tryz.prog a w K Q := by
 have hzs : zeroV.cells.size = 2 := rfl
 obtain ⟨i0,hi,hz0,hz1,hz2⟩ := info_parts info
 have hmx : maxLen = 9223372036854775807 := rfl
 have empty : zs = [] → n = 0 → Own w B v (xs ++ zs) := by
  intro e _
  rw [e,List.append_nil]
  exact hown
 cases ao with
 | none =>
  obtain rfl : cap = 0 := hnil rfl
  rcases hsrc with e | ⟨b,off,e,_⟩
  ·
   obtain rfl : n = 0 := by rw [hn,e]; rfl
   have hrun := run_append_owned_none (P := Tryz.prog) (w := w) B 39 o.type 94 i0 2 Tryz.underlying39 hi v _ _ hown
   unfold Oper.wp
   simp [execOp,ho,resolve,invoke,builtin,hs,hx,hrun,Result.andThen]
   exact h v w (empty e rfl) ⟨rfl,rfl,rfl,Nat.le_refl _,fun _ _ _ => rfl⟩ (.inl rfl)
  · cases e
 | some ad =>
  obtain ⟨v',w',hr,h2,h3,_,h5⟩ := run_append_own_at (P := Tryz.prog) w B 39 o.type 94 i0 zeroV 2 24 Tryz.underlying39 hi hz0 hz1 hz2 hzs (by omega) v xs.length (xs.flatMap rv) hown ad n cap (zs.flatMap rv) (by rw [flat_len,hn]) (by
   rcases hsrc with e | ⟨b,off,e,hc⟩
   ·
    rw [e]
    intro j u hu
    simp at hu
   ·
    cases e
    exact fun j u hu => news_of hc j u hu) (one_cell zs) (by omega) hl hb
  unfold Oper.wp execOp
  simp only [ho,resolve,invoke,builtin,Sem.run_bind,Sem.run_pure,Result.andThen_ok,List.map_toArray,List.map_cons,List.map_nil,hs,hx,hr]
  refine h v' w' ?_ h3 h5
  unfold Own
  rw [List.flatMap_append,List.length_append,← hn]
  exact h2
theorem wpList_append {ops : Array Oper} {rest : List Oper} {o : Oper} {a : Act} {Q : Exit → Act → World → Prop} (w : World) (hgd : o.guard = none) (s x : Operand)
  (ho : o.op = .call { callee := .builtin .append,args := #[s,x],argTypes := #[39,39] })
  (B : Nat) (v : Value) (xs : List T) (hs : a.eval s = v) (hown : Own w B v xs)
  (ao : Option Addr) (n cap : Nat) (zs : List T) (hx : a.eval x = .slice ao n cap) (hn : n = zs.length) (hnil : ao = none → cap = 0) (hsrc : Seg w ao zs) (hl : (xs.length + n) * 24 ≤ 140737488355328) (hb : B ≤ w.heap.size)
  (h : ∀ v' w1,Own w1 B v' (xs ++ zs) → w.grownBy w1 v.ownBlock → (v'.ownBlock = v.ownBlock ∨ v'.ownBlock = some w.heap.size) → wpList Tryz.prog ops Q rest (a.put o.dst v') w1) : wpList Tryz.prog ops Q (o :: rest) a w :=
 wpList_plain hgd fun _ hK => wp_append w s x ho B v xs hs hown ao n cap zs hx hn hnil hsrc hl hb fun v' w1 h1 h2 h3 => hK _ _ (h v' w1 h1 h2 h3)
theorem own_ge {w : World} {B : Nat} {v : Value} {xs : List T} (h : Own w B v xs) : ∀ k,v.ownBlock = some k → B ≤ k := by
 intro k hk
 rcases h.2 with ⟨h',_⟩ | ⟨g,cap,cur,h',hb,_⟩
 ·
  rw [h'] at hk
  cases hk
 ·
  rw [h'] at hk
  simp only [Value.ownBlock,Option.some.injEq] at hk
  omega
theorem own_mono {w : World} {B C : Nat} {v : Value} {xs : List T} (h : Own w B v xs) (hc : C ≤ B) : Own w C v xs := by
 obtain ⟨h1,h2⟩ := h
 refine ⟨h1,?_⟩
 rcases h2 with h2 | ⟨g,cap,cur,h',hb,h3⟩
 · exact .inl h2
 · exact .inr ⟨g,cap,cur,h',by omega,h3⟩
theorem own_alloc {w : World} {B : Nat} {v : Value} {xs : List T} (h : Own w B v xs) (o : Obj) : Own (w.alloc o) B v xs := World.ownsRow.alloc h o
theorem own_below {w u : World} {B : Nat} {v : Value} {xs : List T} (h : Own w B v xs) (k : Below w.heap.size w u) : Own u B v xs := by
 obtain ⟨h1,h2⟩ := h
 refine ⟨h1,?_⟩
 rcases h2 with h2 | ⟨g,cap,cur,h',hb,hg,h3⟩
 · exact .inl h2
 ·
  refine .inr ⟨g,cap,cur,h',hb,?_,h3⟩
  have hl : g < w.heap.size := by
   obtain ⟨hl,_⟩ := Array.getElem?_eq_some_iff.1 hg
   exact hl
  rw [k.block g hl]
  exact hg
def block (r : T) : Obj := .cells #[.string r.acct,.int .i64 r.amt] 94 (0,0)
theorem seg_block {X : World} {g : Nat} {r : T} (h : X.heap[g]? = some (block r)) : Seg X (some ⟨g,0,none⟩) [r] := by
 refine .inr ⟨g,0,rfl,fun k hk => ?_⟩
 obtain rfl : k = 0 := by simpa using hk
 unfold block at h
 refine ⟨?_,?_⟩
 all_goals rw [cell_of_row X g _ _ _ _ h]
 all_goals rfl
end Go.Proofs.YtjpfpojbalepeaaGreat.Ba
namespace Go.Proofs.YtjpfpojbalepeaaGreat
open Go.RowKit
open Vt (Rt)
def rv (r : Rt) : List Value := [.string r.cat,.int .i64 r.y,.int .i64 r.m,.int .i64 r.d,.int .i64 r.bp]
theorem rv_len (r : Rt) : (rv r).length = 5 := rfl
theorem flat_len : ∀ rs : List Rt,(rs.flatMap rv).length = rs.length * 5
 | [] => rfl
 | r :: l => by
  rw [List.flatMap_cons,List.length_append,rv_len,flat_len l,List.length_cons]
  omega
theorem flat_at : ∀ (rs : List Rt) (k p : Nat) (hk : k < rs.length),p < 5 → (rs.flatMap rv)[k * 5 + p]? = (rv rs[k])[p]?
 | r :: l,0,p,_,hp => by
  rw [List.flatMap_cons,List.getElem?_append_left (by rw [rv_len]; omega),Nat.zero_mul,Nat.zero_add]
  rfl
 | r :: l,k + 1,p,hk,hp => by
  rw [List.flatMap_cons,List.getElem?_append_right (by rw [rv_len]; omega),rv_len,show (k + 1) * 5 + p - 5 = k * 5 + p by omega]
  exact flat_at l k p (by simpa using hk) hp
theorem oneR (rs : List Rt) : ∀ v ∈ rs.flatMap rv,v.oneCell' = true := by
 intro v hv
 obtain ⟨r,_,h⟩ := List.mem_flatMap.1 hv
 unfold rv at h
 simp only [List.mem_cons,List.not_mem_nil,or_false] at h
 rcases h with rfl | rfl | rfl | rfl | rfl <;> rfl
theorem news_of {w : World} {b off : Nat} {rs : List Rt} (h : ∀ (k : Nat) (hk : k < rs.length),RowAt w b (off + k * 5) rs[k]) (j : Nat) (u : Value) (hu : (rs.flatMap rv)[j]? = some u) : w.cell? ((⟨b,off,none⟩ : Addr).add j) = some u := by
 have hj : j < (rs.flatMap rv).length := by
  obtain ⟨hj,_⟩ := List.getElem?_eq_some_iff.1 hu
  exact hj
 rw [flat_len] at hj
 obtain ⟨k,p,rfl,hp⟩ : ∃ k p,j = k * 5 + p ∧ p < 5 := ⟨j / 5,j % 5,by omega,by omega⟩
 have hk : k < rs.length := by omega
 rw [flat_at rs k p hk hp] at hu
 have ha : (⟨b,off,none⟩ : Addr).add (k * 5 + p) = ⟨b,off + k * 5 + p,none⟩ := by
  unfold Addr.add
  split
  ·
   rename_i e
   simp only [Addr.mk.injEq,true_and,and_true]
   omega
  ·
   simp only [Addr.mk.injEq,true_and,and_true]
   omega
 rw [ha]
 obtain ⟨c0,c1,c2,c3,c4⟩ := h k hk
 have hp' : p = 0 ∨ p = 1 ∨ p = 2 ∨ p = 3 ∨ p = 4 := by omega
 unfold rv at hu
 rcases hp' with rfl | rfl | rfl | rfl | rfl
 all_goals simp at hu
 all_goals subst hu
 · exact c0
 · exact c1
 · exact c2
 · exact c3
 · exact c4
def OwnR (w : World) (B : Nat) (v : Value) (xs : List Rt) : Prop := w.ownsRow B 25 5 v xs.length (xs.flatMap rv)
theorem own_rts {w : World} {B : Nat} {v : Value} {xs : List Rt} (h : OwnR w B v xs) (hs : ∀ r ∈ xs,Short r) : ∃ ao cap,v = .slice ao xs.length cap ∧ Rts w ao xs.length cap xs ∧ (∀ ad,ao = some ad → ∃ g,ad = ⟨g,0,none⟩ ∧ B ≤ g) := by
 rcases h.2 with ⟨h',h2⟩ | ⟨g,cap,cur,h',hb,hg,hnc,hcm,hcs,htake⟩
 ·
  have e : xs = [] := List.length_eq_zero_iff.1 h2
  subst e
  exact ⟨none,0,h',⟨rfl,Nat.le_refl _,by omega,fun _ => rfl,.inl rfl,hs⟩,fun ad k => by cases k⟩
 ·
  refine ⟨some ⟨g,0,none⟩,cap,h',⟨rfl,hnc,hcm,fun k => (by cases k),.inr ⟨g,0,rfl,fun k hk => ?_⟩,hs⟩,fun ad k => by cases k; exact ⟨g,rfl,hb⟩⟩
  have hcell : ∀ p,p < 5 → w.cell? ⟨g,0 + k * 5 + p,none⟩ = (rv xs[k])[p]? := by
   intro p hp
   rw [Nat.zero_add,cell_of_row w g _ _ _ _ hg,← flat_at xs k p hk hp,← htake,List.getElem?_take_of_lt (by omega)]
   simp
  exact ⟨hcell 0 (by omega),hcell 1 (by omega),hcell 2 (by omega),hcell 3 (by omega),hcell 4 (by omega)⟩
theorem infoR : ∃ z,(Tryz.prog.info? 25).map (fun i => (i.zero,i.size,i.bytes)) = some (some z,5,48) ∧ z.cells.size = 5 := ⟨.agg #[.string .empty,.int .i64 0,.int .i64 0,.int .i64 0,.int .i64 0],by kernel_rfl,rfl⟩
theorem wp_append_rows {o : Oper} {a : Act} {K : Act → World → Prop} {Q : Exit → Act → World → Prop} (w : World) (s x : Operand)
  (ho : o.op = .call { callee := .builtin .append,args := #[s,x],argTypes := #[36,36] })
  (B : Nat) (v : Value) (xs : List Rt) (hs : a.eval s = v) (hown : OwnR w B v xs)
  (ao : Option Addr) (n cap : Nat) (zs : List Rt) (hx : a.eval x = .slice ao n cap) (hn : n = zs.length) (hnil : ao = none → cap = 0) (hsrc : SegR w ao zs) (hl : (xs.length + n) * 48 ≤ 140737488355328) (hb : B ≤ w.heap.size)
  (h : ∀ v' w1,OwnR w1 B v' (xs ++ zs) → w.grownBy w1 v.ownBlock → (v'.ownBlock = v.ownBlock ∨ v'.ownBlock = some w.heap.size) → K (a.put o.dst v') w1) : o.wp Tryz.prog a w K Q := by
 obtain ⟨z,hinf,hzs⟩ := infoR
 obtain ⟨i0,hi,hz0,hz1,hz2⟩ := info_parts hinf
 have hmx : maxLen = 9223372036854775807 := rfl
 have empty : zs = [] → n = 0 → OwnR w B v (xs ++ zs) := by
  intro e _
  rw [e,List.append_nil]
  exact hown
 cases ao with
 | none =>
  obtain rfl : cap = 0 := hnil rfl
  rcases hsrc with e | ⟨b,off,e,_⟩
  ·
   obtain rfl : n = 0 := by rw [hn,e]; rfl
   have hrun := run_append_owned_none (P := Tryz.prog) (w := w) B 36 o.type 25 i0 5 Tryz.underlying36 hi v _ _ hown
   unfold Oper.wp
   simp [execOp,ho,resolve,invoke,builtin,hs,hx,hrun,Result.andThen]
   exact h v w (empty e rfl) ⟨rfl,rfl,rfl,Nat.le_refl _,fun _ _ _ => rfl⟩ (.inl rfl)
  · cases e
 | some ad =>
  obtain ⟨v',w',hr,h2,h3,_,h5⟩ := run_append_own_at (P := Tryz.prog) w B 36 o.type 25 i0 z 5 48 Tryz.underlying36 hi hz0 hz1 hz2 hzs (by omega) v xs.length (xs.flatMap rv) hown ad n cap (zs.flatMap rv) (by rw [flat_len,hn]) (by
   rcases hsrc with e | ⟨b,off,e,hc⟩
   ·
    rw [e]
    intro j u hu
    simp at hu
   ·
    cases e
    exact fun j u hu => news_of hc j u hu) (oneR zs) (by omega) hl hb
  unfold Oper.wp execOp
  simp only [ho,resolve,invoke,builtin,Sem.run_bind,Sem.run_pure,Result.andThen_ok,List.map_toArray,List.map_cons,List.map_nil,hs,hx,hr]
  refine h v' w' ?_ h3 h5
  unfold OwnR
  rw [List.flatMap_append,List.length_append,← hn]
  exact h2
theorem wpList_append_rows {ops : Array Oper} {rest : List Oper} {o : Oper} {a : Act} {Q : Exit → Act → World → Prop} (w : World) (hgd : o.guard = none) (s x : Operand)
  (ho : o.op = .call { callee := .builtin .append,args := #[s,x],argTypes := #[36,36] })
  (B : Nat) (v : Value) (xs : List Rt) (hs : a.eval s = v) (hown : OwnR w B v xs)
  (ao : Option Addr) (n cap : Nat) (zs : List Rt) (hx : a.eval x = .slice ao n cap) (hn : n = zs.length) (hnil : ao = none → cap = 0) (hsrc : SegR w ao zs) (hl : (xs.length + n) * 48 ≤ 140737488355328) (hb : B ≤ w.heap.size)
  (h : ∀ v' w1,OwnR w1 B v' (xs ++ zs) → w.grownBy w1 v.ownBlock → (v'.ownBlock = v.ownBlock ∨ v'.ownBlock = some w.heap.size) → wpList Tryz.prog ops Q rest (a.put o.dst v') w1) : wpList Tryz.prog ops Q (o :: rest) a w :=
 wpList_plain hgd fun _ hK => wp_append_rows w s x ho B v xs hs hown ao n cap zs hx hn hnil hsrc hl hb fun v' w1 h1 h2 h3 => hK _ _ (h v' w1 h1 h2 h3)
theorem own_ge {w : World} {B : Nat} {v : Value} {xs : List Rt} (h : OwnR w B v xs) : ∀ k,v.ownBlock = some k → B ≤ k := by
 intro k hk
 rcases h.2 with ⟨h',_⟩ | ⟨g,cap,cur,h',hb,_⟩
 ·
  rw [h'] at hk
  cases hk
 ·
  rw [h'] at hk
  simp only [Value.ownBlock,Option.some.injEq] at hk
  omega
theorem own_mono {w : World} {B C : Nat} {v : Value} {xs : List Rt} (h : OwnR w B v xs) (hc : C ≤ B) : OwnR w C v xs := by
 obtain ⟨h1,h2⟩ := h
 refine ⟨h1,?_⟩
 rcases h2 with h2 | ⟨g,cap,cur,h',hb,h3⟩
 · exact .inl h2
 · exact .inr ⟨g,cap,cur,h',by omega,h3⟩
theorem own_alloc {w : World} {B : Nat} {v : Value} {xs : List Rt} (h : OwnR w B v xs) (o : Obj) : OwnR (w.alloc o) B v xs := World.ownsRow.alloc h o
def rowBlock (r : Rt) : Obj := .cells #[.string r.cat,.int .i64 r.y,.int .i64 r.m,.int .i64 r.d,.int .i64 r.bp] 25 (0,0)
theorem seg_block {X : World} {g : Nat} {r : Rt} (h : X.heap[g]? = some (rowBlock r)) : SegR X (some ⟨g,0,none⟩) [r] := by
 refine .inr ⟨g,0,rfl,fun k hk => ?_⟩
 obtain rfl : k = 0 := by simpa using hk
 unfold rowBlock at h
 refine ⟨?_,?_,?_,?_,?_⟩
 all_goals rw [cell_of_row X g _ _ _ _ h]
 all_goals rfl
theorem heap_old {x : World} {o o' : Obj} {g : Nat} (h : x.heap[g]? = some o) : (x.alloc o').heap[g]? = some o := by
 have hg : g < x.heap.size := by
  obtain ⟨hg,_⟩ := Array.getElem?_eq_some_iff.1 h
  exact hg
 rw [← h]
 exact (((Below.refl x.heap.size x).alloc (Nat.le_refl _) o').block g hg)
theorem heap_next (x : World) (o o' : Obj) : ((x.alloc o).alloc o').heap[x.heap.size + 1]? = some o' := by
 have h := heap_alloc_new (x.alloc o) o'
 have e : (x.alloc o).heap.size = x.heap.size + 1 := by simp
 rw [e] at h
 exact h
end Go.Proofs.YtjpfpojbalepeaaGreat
namespace Go.Proofs.YtjpfpojbalepeaaGreat.Bl
open Go.ChangeShapes Go.WideShapes Go.ChangeAt Go.RowKit Mem
open Vt (Rt)
set_option maxRecDepth 100000
set_option linter.unusedVariables false
structure EachC (w : World) (rs : List Ca.T) (cs : List Cl) : Prop where
 len : rs.length = cs.length
 each : ∀ i (h : i < rs.length),IsC w rs[i] (cs[i]'(len ▸ h))
theorem EachC.below {w v : World} {rs : List Ca.T} {cs : List Cl} (h : EachC w rs cs) (k : Below w.heap.size w v) : EachC v rs cs :=
 ⟨h.len,fun i q => (h.each i q).below k⟩
theorem isC_of {w : World} {r : Ca.T} (h : Ca.Sub w r) : ∃ c,IsC w r c := by
 obtain ⟨ls,hl,_⟩ := h
 exact ⟨⟨r.sess,r.seq,⟨r.kind,r.ser,r.lim,⟨r.cat,r.ry,r.rm,r.rd,r.bp⟩,r.y,r.m,r.d,ls,r.ofS,r.ofN,r.csess⟩⟩,rfl,rfl,rfl,rfl,rfl,rfl,rfl,rfl,rfl,hl,rfl,rfl,rfl⟩
theorem eachC_of {w : World} : ∀ {rs : List Ca.T},(∀ r ∈ rs,Ca.Sub w r) → ∃ cs,EachC w rs cs
 | [],_ => ⟨[],rfl,fun i h => absurd h (Nat.not_lt_zero _)⟩
 | r :: l,h => by
  obtain ⟨c,hc⟩ := isC_of (h r (by simp))
  obtain ⟨cs,hcs⟩ := eachC_of (rs := l) fun x hx => h x (by simp [hx])
  refine ⟨c :: cs,by simp [hcs.len],fun i hi => ?_⟩
  cases i with
  | zero => exact hc
  | succ i => exact hcs.each i (by simpa using hi)
structure Cs (w : World) (ao : Option Addr) (n cap : Nat) (rs : List Ca.T) (cs : List Cl) : Prop where
 ls : Ca.Ls w ao n cap rs
 each : EachC w rs cs
theorem Cs.below {w v : World} {ao : Option Addr} {n cap : Nat} {rs : List Ca.T} {cs : List Cl} (h : Cs w ao n cap rs cs) (k : Below w.heap.size w v) : Cs v ao n cap rs cs := ⟨h.ls.below k,h.each.below k⟩
theorem calls_in {H : Type} {enc : TypeId × Value → H} {W : World} {ao : Option Addr} {n cap : Nat} {d : DataW H} {p : List MemPlace} {ts : List TypeId} {ds : List (DataW H)} (j : Nat)
  (hj : DataW.Trod enc Tryz.prog W 0 (fun _ => true) true 35 (.slice ao n cap) d p)
  (hsz : (DataW.weightsEach Tryz.prog ts ds).all (· ≤ reachBytes) = true) (ht : ts[j]? = some 35) (hd : ds[j]? = some d) : ∃ rs cs,Cs W ao n cap rs cs := by
 obtain ⟨rs,h,hs⟩ := Ca.list_in j hj hsz ht hd
 obtain ⟨cs,hc⟩ := eachC_of hs
 exact ⟨rs,cs,h,hc⟩
end Go.Proofs.YtjpfpojbalepeaaGreat.Bl
namespace Go.Proofs.YtjpfpojbalepeaaGreat.Ca
open Go.RowKit
open Mem
theorem evT {a : Act} {t : Tmp} {v : Value} (h : a.tmps.toList[t]? = some v) : a.eval (.tmp t) = v := by
 show a.tmps.getD t undef = v
 rw [Array.getElem?_toList] at h
 simp [Array.getD_eq_getD_getElem?,h]
theorem infoW : (Tryz.prog.info? 32).map (·.size) = some 17 := by kernel_rfl
theorem At.range {w : World} {b o : Nat} {r : T} (h : At w b o r) : w.rangeAt b o (rv r) := by
 intro j v hv
 have hj : j < 17 := by
  have := (List.getElem?_eq_some_iff.1 hv).1
  rwa [rv_len] at this
 match j,hj with
 | 0,_ => exact (h.c0).trans hv
 | 1,_ => exact (h.c1).trans hv
 | 2,_ => exact (h.c2).trans hv
 | 3,_ => exact (h.c3).trans hv
 | 4,_ => exact (h.c4).trans hv
 | 5,_ => exact (h.c5).trans hv
 | 6,_ => exact (h.c6).trans hv
 | 7,_ => exact (h.c7).trans hv
 | 8,_ => exact (h.c8).trans hv
 | 9,_ => exact (h.c9).trans hv
 | 10,_ => exact (h.c10).trans hv
 | 11,_ => exact (h.c11).trans hv
 | 12,_ => exact (h.c12).trans hv
 | 13,_ => exact (h.c13).trans hv
 | 14,_ => exact (h.c14).trans hv
 | 15,_ => exact (h.c15).trans hv
 | 16,_ => exact (h.c16).trans hv
theorem C.range {w : World} {b : Nat} {r : T} (h : C w b r) : w.rangeAt b 0 (rv r) := by
 obtain ⟨h0,h1,h2,h3,h4,h5,h6,h7,h8,h9,h10,h11,h12,h13,h14,h15,h16⟩ := h
 exact At.range ⟨(h0 : _),(h1 : _),(h2 : _),(h3 : _),(h4 : _),(h5 : _),(h6 : _),(h7 : _),(h8 : _),(h9 : _),(h10 : _),(h11 : _),(h12 : _),(h13 : _),(h14 : _),(h15 : _),(h16 : _)⟩
theorem wpl_load {ops : Array Oper} {rest : List Oper} {op : Oper} {a : Act} {w : World} {Q : Exit → Act → World → Prop} {t : Tmp} {b o : Nat} {r : T} (h : At w b o r) (ho : op.op = .load 32 (.tmp t)) (hgd : op.guard = none)
  (hx : a.tmps.toList[t]? = some (.pointer (some ⟨b,o,none⟩))) (k : wpList Tryz.prog ops Q rest (a.put op.dst (val r)) w) : wpList Tryz.prog ops Q (op :: rest) a w :=
 wpList_load_mid hgd 32 (.tmp t) ho b o (evT hx) (rv r) _ h.range Tryz.underlying32 rfl (by rw [infoW,rv_len]) k
theorem run_load {w : World} {b o : Nat} {r : T} (h : At w b o r) : (Instr.loadAt 32 (.pointer (some ⟨b,o,none⟩))).run Tryz.prog w = .ok (val r) w :=
 run_loadAt_mid w b o 32 (rv r) _ h.range Tryz.underlying32 rfl (by rw [infoW,rv_len])
theorem wpl_loadC {ops : Array Oper} {rest : List Oper} {op : Oper} {a : Act} {w : World} {Q : Exit → Act → World → Prop} {t : Tmp} {b : Nat} {r : T} (h : C w b r) (ho : op.op = .load 32 (.tmp t)) (hgd : op.guard = none)
  (hx : a.tmps.toList[t]? = some (.pointer (some ⟨b,0,none⟩))) (k : wpList Tryz.prog ops Q rest (a.put op.dst (val r)) w) : wpList Tryz.prog ops Q (op :: rest) a w :=
 wpList_load_mid hgd 32 (.tmp t) ho b 0 (evT hx) (rv r) _ h.range Tryz.underlying32 rfl (by rw [infoW,rv_len]) k
theorem set_rowW (w : World) (old cs : Array Value) (t : TypeId) : (w.alloc (.cells old t)).setRow w.heap.size cs = w.alloc (.cells cs t) := by
 unfold World.setRow World.alloc
 simp only [World.mk.injEq,and_true]
 apply Array.ext_getElem?
 intro i
 rw [Array.getElem?_modify]
 by_cases hi : w.heap.size = i
 ·
  subst hi
  simp
 · rw [if_neg hi,Array.getElem?_push,Array.getElem?_push,if_neg (Ne.symm hi),if_neg (Ne.symm hi)]
theorem wpl_store {ops : Array Oper} {rest : List Oper} {op : Oper} {a : Act} {w : World} {Q : Exit → Act → World → Prop} {t s : Tmp} {old : Array Value} {g : Nat} {r : T} (ho : op.op = .store 32 (.tmp t) (.tmp s)) (hgd : op.guard = none)
  (hx : a.tmps.toList[t]? = some (.pointer (some ⟨g,0,none⟩))) (hg : g = w.heap.size) (hy : a.tmps.toList[s]? = some (val r)) (hold : old.size = 17)
  (k : wpList Tryz.prog ops Q rest (a.put op.dst undef) (box w r)) : wpList Tryz.prog ops Q (op :: rest) a (w.alloc (.cells old 32)) := by
 subst hg
 refine wpList_store_row hgd 32 (.tmp t) (.tmp s) ho w.heap.size (rv r).toArray (evT hx) (evT hy) 32 old (heap_alloc_new w _) (by rw [infoW]; rfl) (by rw [hold]; rfl) (all_oneCell_toArray fun v hv => one_cell [r] v (by simpa using hv)) ?_
 rw [set_rowW]
 exact k
theorem wpl_put {ops : Array Oper} {rest : List Oper} {op : Oper} {a : Act} {w : World} {Q : Exit → Act → World → Prop} {t s : Tmp} {old : Array Value} {g : Nat} {r : T} (hg : w.heap[g]? = some (.cells old 32 (0,0))) (hold : old.size = 17) (ho : op.op = .store 32 (.tmp t) (.tmp s)) (hgd : op.guard = none)
  (hx : a.tmps.toList[t]? = some (.pointer (some ⟨g,0,none⟩))) (hy : a.tmps.toList[s]? = some (val r))
  (k : wpList Tryz.prog ops Q rest (a.put op.dst undef) (w.setRow g (rv r).toArray)) : wpList Tryz.prog ops Q (op :: rest) a w :=
 wpList_store_row hgd 32 (.tmp t) (.tmp s) ho g (rv r).toArray (evT hx) (evT hy) 32 old hg (by rw [infoW]; rfl) (by rw [hold]; rfl) (all_oneCell_toArray fun v hv => one_cell [r] v (by simpa using hv)) k
theorem heap_put {w : World} {old : Array Value} {g : Nat} (r : T) (hg : w.heap[g]? = some (.cells old 32 (0,0))) : (w.setRow g (rv r).toArray).heap[g]? = some (block r) := setRow_heap w g _ _ 32 _ hg
theorem results_put {fn : Func} {p : Tmp} (h : fn.results = #[.cell p 32]) {tmps : Array Value} {w : World} {g : Nat} {r : T} (hp : tmps.getD p undef = .pointer (some ⟨g,0,none⟩))
  (hg : w.heap[g]? = some (block r)) : (results fn tmps).run Tryz.prog w = .ok (val r) w :=
 results_cell_row h tmps w g 32 (rv r).toArray (0,0) _ hp hg Tryz.underlying32 rfl (by rw [infoW]; rfl)
theorem run_one (r : T) (u : World) : (Instr.buildSlice 35 1 #[(0,val r)]).run Tryz.prog u = .ok (.slice (some ⟨u.heap.size,0,none⟩) 1 1) (u.alloc (block r)) := by
 kernel_rfl
theorem wpl_one {ops : Array Oper} {rest : List Oper} {op : Oper} {a : Act} {w : World} {Q : Exit → Act → World → Prop} {t : Tmp} {r : T} (ho : op.op = .buildSlice 35 1 #[(0,.tmp t)]) (hgd : op.guard = none)
  (hx : a.tmps.toList[t]? = some (val r)) (k : wpList Tryz.prog ops Q rest (a.put op.dst (.slice (some ⟨w.heap.size,0,none⟩) 1 1)) (w.alloc (block r))) : wpList Tryz.prog ops Q (op :: rest) a w :=
 wpList_plain hgd fun _ hK => by
  have e : (#[(0,Operand.tmp t)] : Array (Nat × Operand)).map (fun (i,x) => (i,a.eval x)) = #[(0,val r)] := by simp [evT hx]
  unfold Oper.wp execOp
  simp only [ho,Sem.run_bind,e,run_one,Result.andThen_ok]
  exact hK _ _ k
end Go.Proofs.YtjpfpojbalepeaaGreat.Ca
set_option linter.unusedVariables false
namespace Go.Proofs.YtjpfpojbalepeaaGreat
open Go.RowKit
open Mem
def Bl.cut (c : Bl.Cl) : Bl.Cl := ⟨c.sess,c.seq,⟨c.cmd.kind,c.cmd.ser,c.cmd.lim,c.cmd.row,c.cmd.y,c.cmd.m,c.cmd.d,c.cmd.lines.take 15,c.cmd.ofS,c.cmd.ofN,c.cmd.sess⟩⟩
def Bl.fewL (n : Nat) (l : List Bl.Cl) : List Bl.Cl := (l.take n).map Bl.cut
def Ca.cut (r : Ca.T) : Ca.T := ⟨r.sess,r.seq,r.kind,r.ser,r.lim,r.cat,r.ry,r.rm,r.rd,r.bp,r.y,r.m,r.d,⟨r.lines.ao,if 15 < r.lines.n then 15 else r.lines.n,r.lines.cap⟩,r.ofS,r.ofN,r.csess⟩
theorem Ca.cut_long {r : Ca.T} (h : 15 < r.lines.n) : Ca.cut r = ⟨r.sess,r.seq,r.kind,r.ser,r.lim,r.cat,r.ry,r.rm,r.rd,r.bp,r.y,r.m,r.d,⟨r.lines.ao,15,r.lines.cap⟩,r.ofS,r.ofN,r.csess⟩ := by
 unfold Ca.cut
 rw [if_pos h]
theorem Ca.cut_short {r : Ca.T} (h : ¬ 15 < r.lines.n) : Ca.cut r = r := by
 unfold Ca.cut
 rw [if_neg h]
theorem Ca.box_cut (w : World) (r : Ca.T) (ao : Option Addr) (n cap : Nat) : (Ca.box w r).setCell ⟨w.heap.size,13,none⟩ (.slice ao n cap) = Ca.box w ⟨r.sess,r.seq,r.kind,r.ser,r.lim,r.cat,r.ry,r.rm,r.rd,r.bp,r.y,r.m,r.d,⟨ao,n,cap⟩,r.ofS,r.ofN,r.csess⟩ := by
 unfold Ca.box
 simp [go_sem]
theorem Ca.short_cut {r : Ca.T} (h : Ca.Short r) : Ca.Short (Ca.cut r) := h
theorem Bl.IsC.cut {w : World} {r : Ca.T} {c : Bl.Cl} (h : Bl.IsC w r c) : Bl.IsC w (Ca.cut r) (Bl.cut c) := by
 refine ⟨h.sess,h.seq,h.kind,h.ser,h.lim,h.row,h.y,h.m,h.d,?_,h.ofS,h.ofN,h.csess⟩
 unfold Ca.cut Bl.cut
 dsimp only
 by_cases q : 15 < r.lines.n
 ·
  rw [if_pos q]
  exact (h.lines.to 15 (by omega)).2
 ·
  rw [if_neg q,List.take_of_length_le (by rw [← h.lines.len]; omega)]
  exact h.lines
theorem Bl.few_lines {n : Nat} {l : List Bl.Cl} : ∀ c ∈ Bl.fewL n l,c.cmd.lines.length ≤ 15 := by
 intro c hc
 obtain ⟨d,_,rfl⟩ := List.mem_map.1 hc
 show (d.cmd.lines.take 15).length ≤ 15
 rw [List.length_take]
 omega
theorem Bl.EachC.few {w : World} {rs : List Ca.T} {cs : List Bl.Cl} (h : Bl.EachC w rs cs) (n : Nat) : Bl.EachC w ((rs.take n).map Ca.cut) (Bl.fewL n cs) := by
 have hl : ((rs.take n).map Ca.cut).length = (Bl.fewL n cs).length := by
  unfold Bl.fewL
  rw [List.length_map,List.length_map,List.length_take,List.length_take,h.len]
 refine ⟨hl,fun i hi => ?_⟩
 rw [List.length_map,List.length_take] at hi
 have := (h.each i (by omega)).cut
 unfold Bl.fewL
 simpa using this
def FewE (w : World) (rs : List Ca.T) (cs : List Bl.Cl) (N : Nat) (e : Ending) (w' : World) : Prop := ∃ v,e = .returned v ∧ Ca.Own w' w.heap.size v ((rs.take N).map Ca.cut) ∧ Bl.EachC w' ((rs.take N).map Ca.cut) (Bl.fewL N cs) ∧ Below w.heap.size w w'
set_option maxHeartbeats 8000000 in
theorem law_few (rs : List Ca.T) (cs : List Bl.Cl) (N : Nat) (ao : Option Addr) (n cap : Nat) (w : World) (hC : Bl.Cs w ao n cap rs cs) (hN : N ≤ 1000) :
  Calls Tryz.prog 15 #[.slice ao n cap,.int .i64 N] w (FewE w rs cs N) := by
 have HC := Lib.hid hC
 have HN := Lib.hid hC.ls.len
 have hcap := hC.ls.reach
 have hfit := hC.ls.fits
 clear hC
 go_enter Tryz.func15,Tryz.ntmps15
 go_wp2_with fail
 go_loopw [5,6,7] (fun v j _ wr => ∃ k : Nat,k ≤ n ∧ k ≤ N ∧ j = .int .i64 k ∧ Hid (Ca.Own wr w.heap.size v ((rs.take k).map Ca.cut)) ∧ Hid (Below w.heap.size w wr)) (fun _ j _ _ => n - (intOf j).toNat)
 case atStart => exact ⟨0,by omega,by omega,rfl,Lib.hid (Ca.own_nil _ _),Lib.hid (Below.refl _ _)⟩
 case round =>
  obtain ⟨k,hk,hkN,rfl,HO,HB⟩ := hrel
  by_cases hlt : k < n
  ·
   by_cases hlN : k < N
   ·
    obtain ⟨b,off,rfl⟩ := HC.out.ls.at (by omega)
    have hkr : k < rs.length := HN.out ▸ hlt
    have hrow := (HC.out.ls.row k hkr).below HB.out
    have HS : Hid ((rs.take (k + 1)).map Ca.cut = (rs.take k).map Ca.cut ++ [Ca.cut rs[k]]) := Lib.hid (by rw [List.take_succ_eq_append_getElem hkr,List.map_append]; rfl)
    have HL := Lib.hid ((HC.out.each.each k hkr).lines)
    have hlr := (HC.out.each.each k hkr).lines.reach
    have hlf := (HC.out.each.each k hkr).lines.fits
    obtain ⟨r,hr⟩ : ∃ r,rs[k] = r := ⟨_,rfl⟩
    rw [hr] at hrow HS HL hlr hlf
    clear hr
    have HLen : Hid (((rs.take k).map Ca.cut).length = k) := Lib.hid (by rw [List.length_map,List.length_take]; omega)
    have hkb : k ≤ 1000 := by omega
    have hC := Ca.c_box wr r
    have HBx := Lib.hid (bchain HB.out (Ca.below_own wr r))
    have HOx := Lib.hid (Ca.own_below HO.out (Ca.below_own wr r))
    have hC2 := Ca.c_box wr (Ca.cut r)
    have HBy := Lib.hid (bchain HB.out (Ca.below_own wr (Ca.cut r)))
    have HOy := Lib.hid (Ca.own_below HO.out (Ca.below_own wr (Ca.cut r)))
    have a13 : (Ca.box wr r).cell? ⟨wr.heap.size,13,none⟩ = some (.slice r.lines.ao r.lines.n r.lines.cap) := by
     unfold Ca.C at hC
     exact hC.2.2.2.2.2.2.2.2.2.2.2.2.2.1
    have f13 : (Ca.box wr r).frozen? ⟨wr.heap.size,13,none⟩ = false := frozen_of_row (Ca.box wr r) wr.heap.size 13 _ _ (heap_alloc_new wr _)
    by_cases h15 : 15 < r.lines.n
    ·
     obtain ⟨hs,_⟩ := HL.out.to 15 (by omega)
     have HE := Lib.hid (Ca.cut_long h15)
     have hs' : ∀ u,(Instr.slice 26 (.slice r.lines.ao r.lines.n r.lines.cap) none (some (.int .i64 15)) none).run Tryz.prog u = .ok (.slice r.lines.ao 15 r.lines.cap) u := fun u => hs u
     clear hs
     have hbc := Ca.box_cut wr r r.lines.ao 15 r.lines.cap
     rw [← HE.out] at hbc
     go_wp2_with (first | ((with_reducible apply Ca.wpl_load hrow); rfl; rfl; rfl) | ((with_reducible apply Ca.wpl_loadC hC2); rfl; rfl; rfl) | ((with_reducible apply Ca.wpl_one (r := Ca.cut r)); rfl; rfl; rfl) | ((with_reducible apply Ca.wpl_store (r := r) (g := wr.heap.size)); rfl; rfl; rfl; rfl; rfl; rfl) | (at_builtin; go_must (refine Ca.wpList_append _ rfl (.tmp 34) (.tmp 36) rfl w.heap.size u5 ((rs.take k).map Ca.cut) rfl (Ca.own_alloc HOy.out _) (some ⟨(Ca.box wr (Ca.cut r)).heap.size,0,none⟩) 1 1 [Ca.cut r] rfl rfl (fun h => by cases h) (Ca.seg_block (heap_alloc_new _ _)) (by have := HLen.out; omega) ((below_box HBy.out _).size) ?_)))
     intro v2 y2 o2 gr2 _
     have hb2 := (below_box HBy.out (Ca.block (Ca.cut r))).grown gr2 (below_box HBy.out (Ca.block (Ca.cut r))).size (Ca.own_ge HOy.out)
     have HO2 := Lib.hid o2
     have HY2 := Lib.hid hb2
     clear o2 gr2 hb2
     go_wp2_with fail
     go_roundw
     case rel => exact ⟨k + 1,by omega,by omega,by go_num,Lib.hid (by rw [HS.out,List.map_take]; exact HO2.out),HY2⟩
     case measure => simp [intOf]; omega
    ·
     have HE := Ca.cut_short h15
     rw [HE] at hC2 HBy HOy HS
     clear HE
     go_wp2_with (first | ((with_reducible apply Ca.wpl_load hrow); rfl; rfl; rfl) | ((with_reducible apply Ca.wpl_loadC hC2); rfl; rfl; rfl) | ((with_reducible apply Ca.wpl_one (r := r)); rfl; rfl; rfl) | ((with_reducible apply Ca.wpl_store (r := r) (g := wr.heap.size)); rfl; rfl; rfl; rfl; rfl; rfl) | (at_builtin; go_must (refine Ca.wpList_append _ rfl (.tmp 34) (.tmp 36) rfl w.heap.size u5 ((rs.take k).map Ca.cut) rfl (Ca.own_alloc HOy.out _) (some ⟨(Ca.box wr (r)).heap.size,0,none⟩) 1 1 [r] rfl rfl (fun h => by cases h) (Ca.seg_block (heap_alloc_new _ _)) (by have := HLen.out; omega) ((below_box HBy.out _).size) ?_)))
     intro v2 y2 o2 gr2 _
     have hb2 := (below_box HBy.out (Ca.block (r))).grown gr2 (below_box HBy.out (Ca.block (r))).size (Ca.own_ge HOy.out)
     have HO2 := Lib.hid o2
     have HY2 := Lib.hid hb2
     clear o2 gr2 hb2
     go_wp2_with fail
     go_roundw
     case rel => exact ⟨k + 1,by omega,by omega,by go_num,Lib.hid (by rw [HS.out,List.map_take]; exact HO2.out),HY2⟩
     case measure => simp [intOf]; omega
   ·
    obtain rfl : k = N := by omega
    have hd : decide ((k : Int) < (k : Int)) = false := decide_eq_false (Int.lt_irrefl _)
    go_wp2_with fail
    go_ret
    exact ⟨_,rfl,HO.out,(HC.out.each.below HB.out).few _,HB.out⟩
  ·
   obtain rfl : k = n := by omega
   have HT : Hid ((rs.take k).map Ca.cut = (rs.take N).map Ca.cut) := Lib.hid (by rw [List.take_of_length_le (by rw [HN.out]; exact Nat.le_refl _),List.take_of_length_le (by rw [← HN.out]; omega)])
   go_wp2_with fail
   go_ret
   exact ⟨_,rfl,by rw [← HT.out]; exact HO.out,(HC.out.each.below HB.out).few _,HB.out⟩
end Go.Proofs.YtjpfpojbalepeaaGreat
namespace Go.Proofs.YtjpfpojbalepeaaGreat.Rp
open Go.RowKit
open Mem
structure At (u : World) (b o : Nat) (r : T) : Prop where
 c0 : u.cell? ⟨b,o,none⟩ = some (.int .i64 r.why)
 c1 : u.cell? ⟨b,o + 1,none⟩ = some (.int .i64 r.num)
 c2 : u.cell? ⟨b,o + 2,none⟩ = some (.int .i64 r.gross)
theorem At.below {u v : World} {b o : Nat} {r : T} (h : At u b o r) (k : Below u.heap.size u v) : At v b o r := by
 have hl := cell_lt h.c0
 exact ⟨by rw [(bcell k).1 _ _ hl]; exact h.c0,by rw [(bcell k).1 _ _ hl]; exact h.c1,by rw [(bcell k).1 _ _ hl]; exact h.c2⟩
def Seg (w : World) (ao : Option Addr) (rs : List T) : Prop := rs = [] ∨ ∃ b off,ao = some ⟨b,off,none⟩ ∧ ∀ (k : Nat) (hk : k < rs.length),At w b (off + k * 3) rs[k]
theorem Seg.below {w v : World} {ao : Option Addr} {rs : List T} (h : Seg w ao rs) (k : Below w.heap.size w v) : Seg v ao rs := by
 rcases h with h | ⟨b,off,e,h⟩
 · exact .inl h
 · exact .inr ⟨b,off,e,fun i hi => (h i hi).below k⟩
structure Ls (w : World) (ao : Option Addr) (n cap : Nat) (rs : List T) : Prop where
 len : n = rs.length
 fits : n ≤ cap
 reach : cap ≤ 9223372036854775807
 nil : ao = none → cap = 0
 seg : Seg w ao rs
 short : ∀ r ∈ rs,Short r
theorem Ls.below {w v : World} {ao : Option Addr} {n cap : Nat} {rs : List T} (h : Ls w ao n cap rs) (k : Below w.heap.size w v) : Ls v ao n cap rs :=
 ⟨h.len,h.fits,h.reach,h.nil,h.seg.below k,h.short⟩
theorem Ls.at {w : World} {ao : Option Addr} {n cap : Nat} {rs : List T} (h : Ls w ao n cap rs) (hn : 0 < n) : ∃ b off,ao = some ⟨b,off,none⟩ := by
 rcases h.seg with e | ⟨b,off,e,_⟩
 ·
  have := h.len
  rw [e] at this
  simp at this
  omega
 · exact ⟨b,off,e⟩
theorem Ls.row {w : World} {b off n cap : Nat} {rs : List T} (h : Ls w (some ⟨b,off,none⟩) n cap rs) (k : Nat) (hk : k < rs.length) : At w b (off + k * 3) rs[k] := by
 rcases h.seg with e | ⟨b',off',e,hs⟩
 ·
  subst e
  simp at hk
 ·
  cases e
  exact hs k hk
end Go.Proofs.YtjpfpojbalepeaaGreat.Rp
namespace Go.Proofs.YtjpfpojbalepeaaGreat.Rp
open Go.RowKit
open Mem
open Go.Sort (grow)
def eqB (a b : T) : Bool := decide (a.why = b.why ∧ a.num = b.num ∧ a.gross = b.gross)
theorem eqB_iff (a b : T) : eqB a b = true ↔ a = b := by
 unfold eqB
 rw [decide_eq_true_iff]
 cases a
 cases b
 simp
def sameB : List T → List T → Bool
 | [],[] => true
 | a :: l,b :: m => eqB a b && sameB l m
 | _,_ => false
theorem sameB_iff : ∀ l m : List T,sameB l m = true ↔ l = m
 | [],[] => by simp [sameB]
 | [],_ :: _ => by simp [sameB]
 | _ :: _,[] => by simp [sameB]
 | a :: l,b :: m => by
  rw [sameB,Bool.and_eq_true,eqB_iff,sameB_iff l m,List.cons.injEq]
theorem sameB_self (l : List T) : sameB l l = true := (sameB_iff l l).2 rfl
theorem sameB_len {l m : List T} (h : l.length ≠ m.length) : sameB l m = false := by
 rw [Bool.eq_false_iff]
 intro k
 exact h (congrArg List.length ((sameB_iff l m).1 k))
theorem same_at (l m : List T) (k : Nat) (h : k < l.length) (h' : k < m.length) : sameB (l.drop k) (m.drop k) = (eqB l[k] m[k] && sameB (l.drop (k + 1)) (m.drop (k + 1))) := by
 rw [List.drop_eq_getElem_cons h,List.drop_eq_getElem_cons h',sameB]
set_option maxHeartbeats 4000000 in
theorem same_any (xs ys : List T) (ao bo : Option Addr) (n m ca cb : Nat) (w0 w : World) (hw : Below w0.heap.size w0 w) (hA : Ls w ao n ca xs) (hB : Ls w bo m cb ys) :
  Calls Tryz.prog 13 #[.slice ao n ca,.slice bo m cb] w fun e w' => e = .returned (.bool (sameB xs ys)) ∧ Below w0.heap.size w0 w' := by
 have HW := Lib.hid hw
 have HA := Lib.hid hA
 have HB := Lib.hid hB
 have HN := Lib.hid hA.len
 have HM := Lib.hid hB.len
 have hca := hA.reach
 have hfa := hA.fits
 have hcb := hB.reach
 have hfb := hB.fits
 clear hw hA hB
 by_cases hnm : n = m
 ·
  subst hnm
  have hne : ((n : Int) != (n : Int)) = false := bne_self_eq_false _
  go_enter Tryz.func13,Tryz.ntmps13
  go_wp2
  go_loopw [5] (fun i wr => ∃ k : Nat,k ≤ n ∧ i = .int .i64 k ∧ Hid (sameB (xs.drop k) (ys.drop k) = sameB xs ys) ∧ Hid (Below w.heap.size w wr)) (fun i _ => n - (intOf i).toNat)
  case atStart => exact ⟨0,Nat.zero_le _,rfl,Lib.hid rfl,Lib.hid (Below.refl _ _)⟩
  case round =>
   obtain ⟨k,hk,rfl,HK,HBz⟩ := hrel
   by_cases hlt : k < n
   ·
    obtain ⟨a,oa,rfl⟩ := HA.out.at (by omega)
    obtain ⟨b,ob,rfl⟩ := HB.out.at (by omega)
    have hkr : k < xs.length := HN.out ▸ hlt
    have hks : k < ys.length := HM.out ▸ hlt
    have HSt := Lib.hid (same_at xs ys k hkr hks)
    obtain ⟨r,hr⟩ : ∃ r,xs[k] = r := ⟨_,rfl⟩
    obtain ⟨s,hs⟩ : ∃ s,ys[k] = s := ⟨_,rfl⟩
    have h1 := (HA.out.row k hkr).below HBz.out
    have h2 := (HB.out.row k hks).below HBz.out
    rw [hr] at h1 HSt
    rw [hs] at h2 HSt
    clear hr hs
    obtain ⟨g0,g1,g2⟩ := h1
    obtain ⟨f0,f1,f2⟩ := h2
    have g0' := cell_regrown g0
    have g1' := cell_regrown g1
    have g2' := cell_regrown g2
    have f0' := cell_regrown f0
    have f1' := cell_regrown f1
    have f2' := cell_regrown f2
    clear g0 g1 g2 f0 f1 f2
    by_cases e0 : r.why = s.why
    ·
     have q0 : (r.why == s.why) = true := beq_iff_eq.2 e0
     by_cases e1 : r.num = s.num
     ·
      have q1 : (r.num == s.num) = true := beq_iff_eq.2 e1
      by_cases e2 : r.gross = s.gross
      ·
       have q2 : (r.gross == s.gross) = true := beq_iff_eq.2 e2
       have HE : Hid (eqB r s = true) := Lib.hid (decide_eq_true ⟨e0,e1,e2⟩)
       clear e0 e1 e2
       go_wp2
       refine wp_region_quiet_below (by kernel_rfl) (by kernel_rfl) ?_
       repeat (first | go_big_quiet_step (fail) | quiet_step (fail))
       refine wpQuiet_nil ?_
       intro _ hw'
       obtain ⟨⟨dq,osq⟩,hw''⟩ := hw'
       subst hw''
       have HBv := Lib.hid (bchain HBz.out (below_regrown wr dq osq))
       go_wp2
       go_roundw
       case rel => exact ⟨k + 1,by omega,by go_num,Lib.hid (by rw [← HK.out,HSt.out,HE.out,Bool.true_and]),HBv⟩
       case measure => simp [intOf]; omega
      ·
       have q2 : (r.gross == s.gross) = false := beq_eq_false_iff_ne.2 e2
       have HE : Hid (eqB r s = false) := Lib.hid (decide_eq_false fun h => e2 h.2.2)
       clear e0 e1 e2
       go_wp2
       refine wp_region_quiet_below (by kernel_rfl) (by kernel_rfl) ?_
       repeat (first | go_big_quiet_step (fail) | quiet_step (fail))
       refine wpQuiet_nil ?_
       intro _ hw'
       obtain ⟨⟨dq,osq⟩,hw''⟩ := hw'
       subst hw''
       have HBv := Lib.hid (bchain HBz.out (below_regrown wr dq osq))
       go_wp2
       go_ret
       exact ⟨ret_bool (by rw [← HK.out,HSt.out,HE.out,Bool.false_and]),bchain HW.out HBv.out⟩
     ·
      have q1 : (r.num == s.num) = false := beq_eq_false_iff_ne.2 e1
      have HE : Hid (eqB r s = false) := Lib.hid (decide_eq_false fun h => e1 h.2.1)
      clear e0 e1
      go_wp2
      refine wp_region_quiet_below (by kernel_rfl) (by kernel_rfl) ?_
      repeat (first | go_big_quiet_step (fail) | quiet_step (fail))
      refine wpQuiet_nil ?_
      intro _ hw'
      obtain ⟨⟨dq,osq⟩,hw''⟩ := hw'
      subst hw''
      have HBv := Lib.hid (bchain HBz.out (below_regrown wr dq osq))
      go_wp2
      go_ret
      exact ⟨ret_bool (by rw [← HK.out,HSt.out,HE.out,Bool.false_and]),bchain HW.out HBv.out⟩
    ·
     have q0 : (r.why == s.why) = false := beq_eq_false_iff_ne.2 e0
     have HE : Hid (eqB r s = false) := Lib.hid (decide_eq_false fun h => e0 h.1)
     clear e0
     go_wp2
     refine wp_region_quiet_below (by kernel_rfl) (by kernel_rfl) ?_
     repeat (first | go_big_quiet_step (fail) | quiet_step (fail))
     refine wpQuiet_nil ?_
     intro _ hw'
     obtain ⟨⟨dq,osq⟩,hw''⟩ := hw'
     subst hw''
     have HBv := Lib.hid (bchain HBz.out (below_regrown wr dq osq))
     go_wp2
     go_ret
     exact ⟨ret_bool (by rw [← HK.out,HSt.out,HE.out,Bool.false_and]),bchain HW.out HBv.out⟩
   ·
    obtain rfl : k = n := by omega
    go_wp2
    go_ret
    refine ⟨ret_bool ?_,HW.out.trans (HBz.out.mono HW.out.size)⟩
    rw [← HK.out,List.drop_eq_nil_of_le (Nat.le_of_eq HN.out.symm),List.drop_eq_nil_of_le (Nat.le_of_eq HM.out.symm)]
    rfl
 ·
  have HE := Lib.hid (sameB_len (l := xs) (m := ys) (by rw [← HN.out,← HM.out]; exact hnm))
  have hne : ((n : Int) != (m : Int)) = true := bne_iff_ne.2 (by omega)
  go_enter Tryz.func13,Tryz.ntmps13
  go_wp2
  go_ret
  exact ⟨ret_bool HE.out.symm,HW.out⟩
theorem same_rows (xs : List T) (ao bo : Option Addr) (n ca cb : Nat) (w0 w : World) (hw : Below w0.heap.size w0 w) (hA : Ls w ao n ca xs) (hB : Ls w bo n cb xs) :
  Calls Tryz.prog 13 #[.slice ao n ca,.slice bo n cb] w fun e w' => e = .returned (.bool true) ∧ Below w0.heap.size w0 w' := by
 have h := same_any xs xs ao bo n n ca cb w0 w hw hA hB
 rw [sameB_self] at h
 exact h
end Go.Proofs.YtjpfpojbalepeaaGreat.Rp
namespace Go.Proofs.YtjpfpojbalepeaaGreat
open Go.RowKit
open Mem
structure Kp (A : Nat) (w v : World) : Prop where
 cell : ∀ b o,A ≤ b → b < w.heap.size → v.cell? ⟨b,o,none⟩ = w.cell? ⟨b,o,none⟩
 size : w.heap.size ≤ v.heap.size
theorem Kp.of {A : Nat} {w v : World} (h : Below w.heap.size w v) : Kp A w v := ⟨fun b o _ hb => (bcell h).1 b o hb,h.size⟩
theorem Kp.trans {A : Nat} {u v w : World} (h : Kp A u v) (k : Kp A v w) : Kp A u w := ⟨fun b o ha hb => (k.cell b o ha (Nat.lt_of_lt_of_le hb h.size)).trans (h.cell b o ha hb),Nat.le_trans h.size k.size⟩
theorem Kp.set {A g : Nat} (w : World) (hg : g < A) (o : Nat) (x : Value) : Kp A w (w.setCell ⟨g,o,none⟩ x) :=
 ⟨fun b o' ha _ => World.cell?_setCell_other _ _ _ _ (by intro k; simp only [Addr.mk.injEq] at k; omega),by simp⟩
def InA (A : Nat) (ao : Option Addr) (n : Nat) : Prop := 0 < n → ∀ b off,ao = some ⟨b,off,none⟩ → A ≤ b
theorem InA.mono {A B : Nat} {ao : Option Addr} {n : Nat} (h : InA A ao n) (k : B ≤ A) : InA B ao n := fun hn b off e => Nat.le_trans k (h hn b off e)
theorem inA_nil (A : Nat) (ao : Option Addr) : InA A ao 0 := fun h => absurd h (Nat.lt_irrefl _)
theorem inA_own {A : Nat} {ao : Option Addr} {n : Nat} (h : ∀ ad,ao = some ad → ∃ g,ad = ⟨g,0,none⟩ ∧ A ≤ g) : InA A ao n := fun _ b off e => by
 obtain ⟨g,e2,hg⟩ := h _ e
 cases e2
 exact hg
theorem Sr.Ls.kp {A : Nat} {w v : World} {ao : Option Addr} {n cap : Nat} {rs : List Sr.T} (h : Sr.Ls w ao n cap rs) (hi : InA A ao n) (k : Kp A w v) : Sr.Ls v ao n cap rs := by
 refine ⟨h.len,h.fits,h.reach,h.nil,?_,h.short⟩
 rcases h.seg with e | ⟨b,off,e,hc⟩
 · exact .inl e
 ·
  refine .inr ⟨b,off,e,fun i hr => ?_⟩
  have hA := hi (by rw [h.len]; omega) b off e
  have hl := cell_lt (hc i hr).c0
  exact ⟨(k.cell b _ hA hl).trans (hc i hr).c0,(k.cell b _ hA hl).trans (hc i hr).c1,(k.cell b _ hA hl).trans (hc i hr).c2,(k.cell b _ hA hl).trans (hc i hr).c3⟩
theorem Ba.Ls.kp {A : Nat} {w v : World} {ao : Option Addr} {n cap : Nat} {rs : List Ba.T} (h : Ba.Ls w ao n cap rs) (hi : InA A ao n) (k : Kp A w v) : Ba.Ls v ao n cap rs := by
 refine ⟨h.len,h.fits,h.reach,h.nil,?_,h.short⟩
 rcases h.seg with e | ⟨b,off,e,hc⟩
 · exact .inl e
 ·
  refine .inr ⟨b,off,e,fun i hr => ?_⟩
  have hA := hi (by rw [h.len]; omega) b off e
  have hl := cell_lt (hc i hr).c0
  exact ⟨(k.cell b _ hA hl).trans (hc i hr).c0,(k.cell b _ hA hl).trans (hc i hr).c1⟩
theorem Sn.Ls.kp {A : Nat} {w v : World} {ao : Option Addr} {n cap : Nat} {rs : List Sn.T} (h : Sn.Ls w ao n cap rs) (hi : InA A ao n) (k : Kp A w v) : Sn.Ls v ao n cap rs := by
 refine ⟨h.len,h.fits,h.reach,h.nil,?_,h.short⟩
 rcases h.seg with e | ⟨b,off,e,hc⟩
 · exact .inl e
 ·
  refine .inr ⟨b,off,e,fun i hr => ?_⟩
  have hA := hi (by rw [h.len]; omega) b off e
  have hl := cell_lt (hc i hr).c0
  exact ⟨(k.cell b _ hA hl).trans (hc i hr).c0,(k.cell b _ hA hl).trans (hc i hr).c1,(k.cell b _ hA hl).trans (hc i hr).c2,(k.cell b _ hA hl).trans (hc i hr).c3,(k.cell b _ hA hl).trans (hc i hr).c4⟩
theorem Pt.Ls.kp {A : Nat} {w v : World} {ao : Option Addr} {n cap : Nat} {rs : List Pt.T} (h : Pt.Ls w ao n cap rs) (hi : InA A ao n) (k : Kp A w v) : Pt.Ls v ao n cap rs := by
 refine ⟨h.len,h.fits,h.reach,h.nil,?_,h.short⟩
 rcases h.seg with e | ⟨b,off,e,hc⟩
 · exact .inl e
 ·
  refine .inr ⟨b,off,e,fun i hr => ?_⟩
  have hA := hi (by rw [h.len]; omega) b off e
  have hl := cell_lt (hc i hr).c0
  exact ⟨(k.cell b _ hA hl).trans (hc i hr).c0,(k.cell b _ hA hl).trans (hc i hr).c1,(k.cell b _ hA hl).trans (hc i hr).c2,(k.cell b _ hA hl).trans (hc i hr).c3⟩
theorem Pd.Ls.kp {A : Nat} {w v : World} {ao : Option Addr} {n cap : Nat} {rs : List Pd.T} (h : Pd.Ls w ao n cap rs) (hi : InA A ao n) (k : Kp A w v) : Pd.Ls v ao n cap rs := by
 refine ⟨h.len,h.fits,h.reach,h.nil,?_,h.short⟩
 rcases h.seg with e | ⟨b,off,e,hc⟩
 · exact .inl e
 ·
  refine .inr ⟨b,off,e,fun i hr => ?_⟩
  have hA := hi (by rw [h.len]; omega) b off e
  have hl := cell_lt (hc i hr).c0
  exact ⟨(k.cell b _ hA hl).trans (hc i hr).c0,(k.cell b _ hA hl).trans (hc i hr).c1,(k.cell b _ hA hl).trans (hc i hr).c2,(k.cell b _ hA hl).trans (hc i hr).c3,(k.cell b _ hA hl).trans (hc i hr).c4,(k.cell b _ hA hl).trans (hc i hr).c5,(k.cell b _ hA hl).trans (hc i hr).c6,(k.cell b _ hA hl).trans (hc i hr).c7,(k.cell b _ hA hl).trans (hc i hr).c8,(k.cell b _ hA hl).trans (hc i hr).c9,(k.cell b _ hA hl).trans (hc i hr).c10,(k.cell b _ hA hl).trans (hc i hr).c11⟩
theorem Ca.Ls.kp {A : Nat} {w v : World} {ao : Option Addr} {n cap : Nat} {rs : List Ca.T} (h : Ca.Ls w ao n cap rs) (hi : InA A ao n) (k : Kp A w v) : Ca.Ls v ao n cap rs := by
 refine ⟨h.len,h.fits,h.reach,h.nil,?_,h.short⟩
 rcases h.seg with e | ⟨b,off,e,hc⟩
 · exact .inl e
 ·
  refine .inr ⟨b,off,e,fun i hr => ?_⟩
  have hA := hi (by rw [h.len]; omega) b off e
  have hl := cell_lt (hc i hr).c0
  exact ⟨(k.cell b _ hA hl).trans (hc i hr).c0,(k.cell b _ hA hl).trans (hc i hr).c1,(k.cell b _ hA hl).trans (hc i hr).c2,(k.cell b _ hA hl).trans (hc i hr).c3,(k.cell b _ hA hl).trans (hc i hr).c4,(k.cell b _ hA hl).trans (hc i hr).c5,(k.cell b _ hA hl).trans (hc i hr).c6,(k.cell b _ hA hl).trans (hc i hr).c7,(k.cell b _ hA hl).trans (hc i hr).c8,(k.cell b _ hA hl).trans (hc i hr).c9,(k.cell b _ hA hl).trans (hc i hr).c10,(k.cell b _ hA hl).trans (hc i hr).c11,(k.cell b _ hA hl).trans (hc i hr).c12,(k.cell b _ hA hl).trans (hc i hr).c13,(k.cell b _ hA hl).trans (hc i hr).c14,(k.cell b _ hA hl).trans (hc i hr).c15,(k.cell b _ hA hl).trans (hc i hr).c16⟩
theorem Rts.kp {A : Nat} {w v : World} {ao : Option Addr} {n cap : Nat} {rs : List Vt.Rt} (h : Rts w ao n cap rs) (hi : InA A ao n) (k : Kp A w v) : Rts v ao n cap rs := by
 refine ⟨h.len,h.fits,h.reach,h.nil,?_,h.short⟩
 rcases h.seg with e | ⟨b,off,e,hc⟩
 · exact .inl e
 ·
  refine .inr ⟨b,off,e,fun i hr => ?_⟩
  have hA := hi (by rw [h.len]; omega) b off e
  have hl := cell_lt (hc i hr).c0
  exact ⟨(k.cell b _ hA hl).trans (hc i hr).c0,(k.cell b _ hA hl).trans (hc i hr).c1,(k.cell b _ hA hl).trans (hc i hr).c2,(k.cell b _ hA hl).trans (hc i hr).c3,(k.cell b _ hA hl).trans (hc i hr).c4⟩
namespace Bl
structure LiesA (A : Nat) (w : World) (h : Sv) (s : St) : Prop where
 tab : Rts w h.tab.ao h.tab.n h.tab.cap s.tab
 ser : Sr.Ls w h.ser.ao h.ser.n h.ser.cap s.ser
 post : ∃ rs,Pd.Ls w h.post.ao h.post.n h.post.cap rs ∧ Each w rs s.post ∧ ∀ r ∈ rs,InA A r.parts.ao r.parts.n
 book : Ba.Ls w h.book.ao h.book.n h.book.cap s.book
 sess : Sn.Ls w h.sess.ao h.sess.n h.sess.cap s.sess
 next : h.next = s.next
 fit : Fit s.next
 atab : InA A h.tab.ao h.tab.n
 aser : InA A h.ser.ao h.ser.n
 apost : InA A h.post.ao h.post.n
 abook : InA A h.book.ao h.book.n
 asess : InA A h.sess.ao h.sess.n
theorem LiesA.lies {A : Nat} {w : World} {h : Sv} {s : St} (l : LiesA A w h s) : Lies w h s := by
 obtain ⟨rs,h1,h2,_⟩ := l.post
 exact ⟨l.tab,l.ser,⟨rs,h1,h2⟩,l.book,l.sess,l.next,l.fit⟩
theorem LiesA.mono {A B : Nat} {w : World} {h : Sv} {s : St} (l : LiesA A w h s) (k : B ≤ A) : LiesA B w h s := by
 obtain ⟨rs,h1,h2,h3⟩ := l.post
 exact ⟨l.tab,l.ser,⟨rs,h1,h2,fun r hr => (h3 r hr).mono k⟩,l.book,l.sess,l.next,l.fit,l.atab.mono k,l.aser.mono k,l.apost.mono k,l.abook.mono k,l.asess.mono k⟩
theorem IsP.kp {A : Nat} {w v : World} {r : Pd.T} {p : Ps} (h : IsP w r p) (hi : InA A r.parts.ao r.parts.n) (k : Kp A w v) : IsP v r p :=
 ⟨h.ser,h.num,h.y,h.m,h.d,h.net,h.tax,h.gross,h.parts.kp hi k,h.ofS,h.ofN,h.back⟩
theorem LiesA.kp {A : Nat} {w v : World} {h : Sv} {s : St} (l : LiesA A w h s) (k : Kp A w v) : LiesA A v h s := by
 obtain ⟨rs,h1,h2,h3⟩ := l.post
 exact ⟨l.tab.kp l.atab k,l.ser.kp l.aser k,⟨rs,h1.kp l.apost k,⟨h2.len,fun i hi => (h2.each i hi).kp (h3 _ (List.getElem_mem hi)) k⟩,h3⟩,l.book.kp l.abook k,l.sess.kp l.asess k,l.next,l.fit,l.atab,l.aser,l.apost,l.abook,l.asess⟩
theorem LiesA.below {A : Nat} {w v : World} {h : Sv} {s : St} (l : LiesA A w h s) (k : Below w.heap.size w v) : LiesA A v h s := l.kp (Kp.of k)
end Bl
end Go.Proofs.YtjpfpojbalepeaaGreat
namespace Go.Proofs.YtjpfpojbalepeaaGreat
open Go.RowKit
open Mem
namespace Bl
def NewE (w0 w : World) (e : Ending) (w' : World) : Prop := ∃ h : Sv,e = .returned h.val ∧ LiesA w.heap.size w' h new ∧ Below w0.heap.size w0 w'
def AppE (w0 w : World) (s : St) (c : Cl) (e : Ending) (w' : World) : Prop := ∃ h : Sv,e = .returned (.tuple #[h.val,Rp.val (apply s c).2]) ∧ LiesA w.heap.size w' h (apply s c).1 ∧ Below w0.heap.size w0 w'
def PlayE (w0 w : World) (s : St) (cs : List Cl) (e : Ending) (w' : World) : Prop := ∃ (h : Sv) (ao : Option Addr) (n cap : Nat),e = .returned (.tuple #[h.val,.slice ao n cap]) ∧ LiesA w.heap.size w' h (play s cs).1 ∧ Rp.Ls w' ao n cap (play s cs).2 ∧ InA w.heap.size ao n ∧ Below w0.heap.size w0 w'
theorem set_heap {u : World} {g : Nat} {cs : Array Value} {t : TypeId} (h : u.heap[g]? = some (.cells cs t (0,0))) (i : Nat) (x : Value) : (u.setCell ⟨g,i,none⟩ x).heap[g]? = some (.cells (cs.setIfInBounds i x) t (0,0)) := heap_setCell_same u g i _ _ x h
theorem At.put {u : World} {g : Nat} {h : Sv} (a : At u g h) (k : Sv) : At ((((((u.setCell ⟨g,0,none⟩ (sl k.tab)).setCell ⟨g,1,none⟩ (sl k.ser)).setCell ⟨g,2,none⟩ (sl k.post)).setCell ⟨g,3,none⟩ (sl k.book)).setCell ⟨g,4,none⟩ (sl k.sess)).setCell ⟨g,5,none⟩ (.int .i64 k.next)) g k :=
 (set_heap (set_heap (set_heap (set_heap (set_heap (set_heap a 0 _) 1 _) 2 _) 3 _) 4 _) 5 _).trans rfl
theorem below_put {w0 u : World} {g : Nat} (h : Below w0.heap.size w0 u) (hg : w0.heap.size ≤ g) (x0 x1 x2 x3 x4 x5 : Value) : Below w0.heap.size w0 ((((((u.setCell ⟨g,0,none⟩ x0).setCell ⟨g,1,none⟩ x1).setCell ⟨g,2,none⟩ x2).setCell ⟨g,3,none⟩ x3).setCell ⟨g,4,none⟩ x4).setCell ⟨g,5,none⟩ x5) :=
 bset (bset (bset (bset (bset (bset h hg _ _) hg _ _) hg _ _) hg _ _) hg _ _) hg _ _
def rv (h : Sv) : List Value := [sl h.tab,sl h.ser,sl h.post,sl h.book,sl h.sess,.int .i64 h.next]
theorem info : (Tryz.prog.info? 42).map (·.size) = some 6 := by kernel_rfl
theorem wpl_load {ops : Array Oper} {rest : List Oper} {op : Oper} {a : Act} {w : World} {Q : Exit → Act → World → Prop} {t : Tmp} {g : Nat} {h : Sv} (hA : At w g h) (ho : op.op = .load 42 (.tmp t)) (hgd : op.guard = none)
  (hx : a.tmps.toList[t]? = some (.pointer (some ⟨g,0,none⟩))) (k : wpList Tryz.prog ops Q rest (a.put op.dst h.val) w) : wpList Tryz.prog ops Q (op :: rest) a w :=
 wpList_load_row hgd 42 (.tmp t) ho g (Ca.evT hx) 42 (rv h).toArray (0,0) _ hA Tryz.underlying42 rfl (by rw [info]; rfl) k
theorem one_cellS (h : Sv) : ∀ v ∈ rv h,v.oneCell' = true := by
 intro v hv
 unfold rv at hv
 simp only [List.mem_cons,List.not_mem_nil,or_false] at hv
 rcases hv with rfl | rfl | rfl | rfl | rfl | rfl <;> rfl
theorem wpl_store {ops : Array Oper} {rest : List Oper} {op : Oper} {a : Act} {w : World} {Q : Exit → Act → World → Prop} {t s : Tmp} {old : Array Value} {g : Nat} {h : Sv} (ho : op.op = .store 42 (.tmp t) (.tmp s)) (hgd : op.guard = none)
  (hx : a.tmps.toList[t]? = some (.pointer (some ⟨g,0,none⟩))) (hg : g = w.heap.size) (hy : a.tmps.toList[s]? = some h.val) (hold : old.size = 6)
  (k : wpList Tryz.prog ops Q rest (a.put op.dst undef) (box w h)) : wpList Tryz.prog ops Q (op :: rest) a (w.alloc (.cells old 42)) := by
 subst hg
 refine wpList_store_row hgd 42 (.tmp t) (.tmp s) ho w.heap.size (rv h).toArray (Ca.evT hx) (Ca.evT hy) 42 old (heap_alloc_new w _) (by rw [info]; rfl) (by rw [hold]; rfl) (all_oneCell_toArray (one_cellS h)) ?_
 rw [Ca.set_rowW]
 exact k
def lay (w : World) (g : Nat) (h : Sv) : World := w.setRow g (rv h).toArray
theorem wpl_put {ops : Array Oper} {rest : List Oper} {op : Oper} {a : Act} {w : World} {Q : Exit → Act → World → Prop} {t s : Tmp} {g : Nat} {h0 h : Sv} (hA : At w g h0) (ho : op.op = .store 42 (.tmp t) (.tmp s)) (hgd : op.guard = none)
  (hx : a.tmps.toList[t]? = some (.pointer (some ⟨g,0,none⟩))) (hy : a.tmps.toList[s]? = some h.val)
  (k : wpList Tryz.prog ops Q rest (a.put op.dst undef) (lay w g h)) : wpList Tryz.prog ops Q (op :: rest) a w :=
 wpList_store_row hgd 42 (.tmp t) (.tmp s) ho g (rv h).toArray (Ca.evT hx) (Ca.evT hy) 42 (rv h0).toArray hA (by rw [info]; rfl) rfl (all_oneCell_toArray (one_cellS h)) k
theorem run_load {w : World} {g : Nat} {h : Sv} (hA : At w g h) : (Instr.loadAt 42 (.pointer (some ⟨g,0,none⟩))).run Tryz.prog w = .ok h.val w := by
 simp only [Instr.loadAt,Instr.sureAddr,Sem.run_bind,Sem.run_pure,Result.andThen_ok,run_loadVar_row w g 42 42 (rv h).toArray (0,0) _ hA Tryz.underlying42 rfl (by rw [info]; rfl)]
 rfl
theorem At.lay {w : World} {g : Nat} {h0 : Sv} (hA : At w g h0) (h : Sv) : At (lay w g h) g h := setRow_heap w g _ _ 42 _ hA
theorem below_lay {B g : Nat} {w0 w : World} (hb : Below B w0 w) (hg : B ≤ g) (h : Sv) : Below B w0 (lay w g h) := below_setRow hb hg _
theorem kp_lay {A g : Nat} (w : World) (hg : g < A) (h : Sv) : Kp A w (lay w g h) := by
 refine ⟨fun b o ha hb => ?_,by simp [lay,World.setRow]⟩
 have e : (lay w g h).heap[b]? = w.heap[b]? := setRow_other w g b _ (by omega)
 unfold World.cell?
 simp only [e]
end Bl
end Go.Proofs.YtjpfpojbalepeaaGreat
namespace Go.Proofs.YtjpfpojbalepeaaGreat.Pd
open Go.RowKit
open Mem
theorem evT {a : Act} {t : Tmp} {v : Value} (h : a.tmps.toList[t]? = some v) : a.eval (.tmp t) = v := by
 show a.tmps.getD t undef = v
 rw [Array.getElem?_toList] at h
 simp [Array.getD_eq_getD_getElem?,h]
theorem infoW : (Tryz.prog.info? 66).map (·.size) = some 12 := by kernel_rfl
theorem At.range {w : World} {b o : Nat} {r : T} (h : At w b o r) : w.rangeAt b o (rv r) := by
 intro j v hv
 have hj : j < 12 := by
  have := (List.getElem?_eq_some_iff.1 hv).1
  rwa [rv_len] at this
 match j,hj with
 | 0,_ => exact (h.c0).trans hv
 | 1,_ => exact (h.c1).trans hv
 | 2,_ => exact (h.c2).trans hv
 | 3,_ => exact (h.c3).trans hv
 | 4,_ => exact (h.c4).trans hv
 | 5,_ => exact (h.c5).trans hv
 | 6,_ => exact (h.c6).trans hv
 | 7,_ => exact (h.c7).trans hv
 | 8,_ => exact (h.c8).trans hv
 | 9,_ => exact (h.c9).trans hv
 | 10,_ => exact (h.c10).trans hv
 | 11,_ => exact (h.c11).trans hv
theorem C.range {w : World} {b : Nat} {r : T} (h : C w b r) : w.rangeAt b 0 (rv r) := by
 obtain ⟨h0,h1,h2,h3,h4,h5,h6,h7,h8,h9,h10,h11⟩ := h
 exact At.range ⟨(h0 : _),(h1 : _),(h2 : _),(h3 : _),(h4 : _),(h5 : _),(h6 : _),(h7 : _),(h8 : _),(h9 : _),(h10 : _),(h11 : _)⟩
theorem wpl_load {ops : Array Oper} {rest : List Oper} {op : Oper} {a : Act} {w : World} {Q : Exit → Act → World → Prop} {t : Tmp} {b o : Nat} {r : T} (h : At w b o r) (ho : op.op = .load 66 (.tmp t)) (hgd : op.guard = none)
  (hx : a.tmps.toList[t]? = some (.pointer (some ⟨b,o,none⟩))) (k : wpList Tryz.prog ops Q rest (a.put op.dst (val r)) w) : wpList Tryz.prog ops Q (op :: rest) a w :=
 wpList_load_mid hgd 66 (.tmp t) ho b o (evT hx) (rv r) _ h.range Tryz.underlying66 rfl (by rw [infoW,rv_len]) k
theorem run_load {w : World} {b o : Nat} {r : T} (h : At w b o r) : (Instr.loadAt 66 (.pointer (some ⟨b,o,none⟩))).run Tryz.prog w = .ok (val r) w :=
 run_loadAt_mid w b o 66 (rv r) _ h.range Tryz.underlying66 rfl (by rw [infoW,rv_len])
theorem wpl_loadC {ops : Array Oper} {rest : List Oper} {op : Oper} {a : Act} {w : World} {Q : Exit → Act → World → Prop} {t : Tmp} {b : Nat} {r : T} (h : C w b r) (ho : op.op = .load 66 (.tmp t)) (hgd : op.guard = none)
  (hx : a.tmps.toList[t]? = some (.pointer (some ⟨b,0,none⟩))) (k : wpList Tryz.prog ops Q rest (a.put op.dst (val r)) w) : wpList Tryz.prog ops Q (op :: rest) a w :=
 wpList_load_mid hgd 66 (.tmp t) ho b 0 (evT hx) (rv r) _ h.range Tryz.underlying66 rfl (by rw [infoW,rv_len]) k
theorem set_rowW (w : World) (old cs : Array Value) (t : TypeId) : (w.alloc (.cells old t)).setRow w.heap.size cs = w.alloc (.cells cs t) := by
 unfold World.setRow World.alloc
 simp only [World.mk.injEq,and_true]
 apply Array.ext_getElem?
 intro i
 rw [Array.getElem?_modify]
 by_cases hi : w.heap.size = i
 ·
  subst hi
  simp
 · rw [if_neg hi,Array.getElem?_push,Array.getElem?_push,if_neg (Ne.symm hi),if_neg (Ne.symm hi)]
theorem wpl_store {ops : Array Oper} {rest : List Oper} {op : Oper} {a : Act} {w : World} {Q : Exit → Act → World → Prop} {t s : Tmp} {old : Array Value} {g : Nat} {r : T} (ho : op.op = .store 66 (.tmp t) (.tmp s)) (hgd : op.guard = none)
  (hx : a.tmps.toList[t]? = some (.pointer (some ⟨g,0,none⟩))) (hg : g = w.heap.size) (hy : a.tmps.toList[s]? = some (val r)) (hold : old.size = 12)
  (k : wpList Tryz.prog ops Q rest (a.put op.dst undef) (box w r)) : wpList Tryz.prog ops Q (op :: rest) a (w.alloc (.cells old 66)) := by
 subst hg
 refine wpList_store_row hgd 66 (.tmp t) (.tmp s) ho w.heap.size (rv r).toArray (evT hx) (evT hy) 66 old (heap_alloc_new w _) (by rw [infoW]; rfl) (by rw [hold]; rfl) (all_oneCell_toArray fun v hv => one_cell [r] v (by simpa using hv)) ?_
 rw [set_rowW]
 exact k
theorem run_one (r : T) (u : World) : (Instr.buildSlice 38 1 #[(0,val r)]).run Tryz.prog u = .ok (.slice (some ⟨u.heap.size,0,none⟩) 1 1) (u.alloc (block r)) := by
 kernel_rfl
theorem wpl_one {ops : Array Oper} {rest : List Oper} {op : Oper} {a : Act} {w : World} {Q : Exit → Act → World → Prop} {t : Tmp} {r : T} (ho : op.op = .buildSlice 38 1 #[(0,.tmp t)]) (hgd : op.guard = none)
  (hx : a.tmps.toList[t]? = some (val r)) (k : wpList Tryz.prog ops Q rest (a.put op.dst (.slice (some ⟨w.heap.size,0,none⟩) 1 1)) (w.alloc (block r))) : wpList Tryz.prog ops Q (op :: rest) a w :=
 wpList_plain hgd fun _ hK => by
  have e : (#[(0,Operand.tmp t)] : Array (Nat × Operand)).map (fun (i,x) => (i,a.eval x)) = #[(0,val r)] := by simp [evT hx]
  unfold Oper.wp execOp
  simp only [ho,Sem.run_bind,e,run_one,Result.andThen_ok]
  exact hK _ _ k
end Go.Proofs.YtjpfpojbalepeaaGreat.Pd
namespace Go.Proofs.YtjpfpojbalepeaaGreat.Po
instance : Inhabited Ba.T := ⟨Ba.zero⟩
instance : DecidableEq Ba.T := fun a b => decidable_of_iff (Ba.eqB a b = true) (Ba.eqB_iff a b)
theorem spot_before {c : ByteArray} : ∀ {l : List Ba.T} {i : Nat},i < spot c l → ∃ h : i < l.length,lt l[i].acct c = true
 | [],i,h => by
  unfold spot at h
  omega
 | a :: l,i,h => by
  unfold spot at h
  by_cases k : lt a.acct c = true
  ·
   rw [if_pos k] at h
   cases i with
   | zero => exact ⟨by simp,k⟩
   | succ i =>
    obtain ⟨h1,h2⟩ := spot_before (c := c) (l := l) (i := i) (by omega)
    exact ⟨by simpa using h1,by simpa using h2⟩
  ·
   rw [if_neg k] at h
   omega
theorem spot_behind {c : ByteArray} : ∀ {l : List Ba.T},Sorted l → ∀ {i : Nat} (hi : i < l.length),spot c l ≤ i → lt l[i].acct c = false
 | a :: l,h,i,hi,k => by
  have h1 := (List.pairwise_cons.1 h).1
  have h2 := (List.pairwise_cons.1 h).2
  unfold spot at k
  by_cases q : lt a.acct c = true
  ·
   rw [if_pos q] at k
   cases i with
   | zero => omega
   | succ i =>
    have := spot_behind (c := c) h2 (i := i) (by simpa using hi) (by omega)
    simpa using this
  ·
   rw [Bool.not_eq_true] at q
   cases i with
   | zero => exact q
   | succ i =>
    have hi' : i < l.length := by simpa using hi
    rw [Bool.eq_false_iff]
    intro m
    rw [List.getElem_cons_succ] at m
    have := lt_trans (h1 _ (List.getElem_mem hi')) m
    rw [q] at this
    cases this
theorem half_up {c : ByteArray} {l : List Ba.T} (h : Sorted l) {m : Nat} (hm : m < l.length) (k : lt l[m].acct c = true) : m + 1 ≤ spot c l := by
 rcases Nat.lt_or_ge m (spot c l) with q | q
 · exact q
 ·
  rw [spot_behind h hm q] at k
  cases k
theorem half_down {c : ByteArray} {l : List Ba.T} {m : Nat} (hm : m < l.length) (k : lt l[m].acct c = false) : spot c l ≤ m := by
 rcases Nat.lt_or_ge m (spot c l) with q | q
 ·
  obtain ⟨_,h2⟩ := spot_before q
  rw [h2] at k
  cases k
 · exact q
theorem mem_iff {l : List Ba.T} (h : Sorted l) (x : Ba.T) : x ∈ l ↔ has x.acct l = true ∧ val x.acct l = x.amt := by
 constructor
 ·
  intro hx
  obtain ⟨p,q⟩ := look h hx rfl
  exact ⟨q,by unfold val; rw [p]⟩
 ·
  rintro ⟨h1,h2⟩
  obtain ⟨y,hy,e⟩ := has_mem h1
  obtain ⟨p,_⟩ := look h hy e
  unfold val at h2
  rw [p] at h2
  cases x
  cases y
  simp only at e h2
  subst e h2
  exact hy
theorem ext_mem : ∀ {l m : List Ba.T},Sorted l → Sorted m → (∀ x,x ∈ l ↔ x ∈ m) → l = m
 | [],[],_,_,_ => rfl
 | [],b :: m,_,_,h => by
  have := (h b).2 (by simp)
  simp at this
 | a :: l,[],_,_,h => by
  have := (h a).1 (by simp)
  simp at this
 | a :: l,b :: m,hl,hm,h => by
  have l1 := (List.pairwise_cons.1 hl).1
  have l2 := (List.pairwise_cons.1 hl).2
  have m1 := (List.pairwise_cons.1 hm).1
  have m2 := (List.pairwise_cons.1 hm).2
  have e : a = b := by
   rcases List.mem_cons.1 ((h a).1 (by simp)) with e | e
   · exact e
   ·
    rcases List.mem_cons.1 ((h b).2 (by simp)) with e' | e'
    · exact e'.symm
    ·
     have := lt_trans (m1 a e) (l1 b e')
     rw [lt_irrefl] at this
     cases this
  subst e
  have no : ∀ {k : List Ba.T},(∀ x ∈ k,lt a.acct x.acct = true) → a ∉ k := fun {k} hk ha => by
   have := hk a ha
   rw [lt_irrefl] at this
   cases this
  have t : l = m := ext_mem l2 m2 fun x => by
   constructor
   ·
    intro hx
    rcases List.mem_cons.1 ((h x).1 (by simp [hx])) with e | e
    · exact absurd (e ▸ hx) (no l1)
    · exact e
   ·
    intro hx
    rcases List.mem_cons.1 ((h x).2 (by simp [hx])) with e | e
    · exact absurd (e ▸ hx) (no m1)
    · exact e
  rw [t]
theorem ext_val {l m : List Ba.T} (hl : Sorted l) (hm : Sorted m) (h : ∀ c,has c l = has c m ∧ val c l = val c m) : l = m :=
 ext_mem hl hm fun x => by rw [mem_iff hl,mem_iff hm,(h _).1,(h _).2]
theorem has_iff {l : List Ba.T} (h : Sorted l) (c : ByteArray) : has c l = true ↔ ∃ x ∈ l,x.acct = c :=
 ⟨has_mem,fun ⟨_,hx,e⟩ => (look h hx e).2⟩
def news (b : List Ba.T) : List Ba.T → List Ba.T
 | [] => []
 | x :: l => if has x.acct b = true then news b l else ⟨x.acct,0⟩ :: news b l
theorem news_app (b : List Ba.T) : ∀ l m : List Ba.T,news b (l ++ m) = news b l ++ news b m
 | [],m => rfl
 | x :: l,m => by
  rw [List.cons_append,news,news,news_app b l m]
  split <;> rfl
theorem news_step (b ls : List Ba.T) (k : Nat) (h : k < ls.length) : news b (ls.take (k + 1)) = news b (ls.take k) ++ (if has ls[k].acct b = true then [] else [⟨ls[k].acct,0⟩]) := by
 rw [List.take_succ_eq_append_getElem h,news_app]
 congr 1
theorem news_len (b : List Ba.T) : ∀ l : List Ba.T,(news b l).length ≤ l.length
 | [] => Nat.le_refl _
 | x :: l => by
  have := news_len b l
  unfold news
  split <;> simp <;> omega
theorem mem_news {b : List Ba.T} : ∀ {l : List Ba.T} {x : Ba.T},x ∈ news b l ↔ x.amt = 0 ∧ has x.acct b = false ∧ named x.acct l = true
 | [],x => by
  constructor
  ·
   intro h
   cases h
  ·
   rintro ⟨_,_,h⟩
   cases h
 | y :: l,x => by
  have ih := mem_news (b := b) (l := l) (x := x)
  have hn : named x.acct (y :: l) = (decide (y.acct = x.acct) || named x.acct l) := rfl
  unfold news
  rw [hn]
  by_cases h : has y.acct b = true
  ·
   rw [if_pos h,ih]
   constructor
   ·
    rintro ⟨h1,h2,h3⟩
    exact ⟨h1,h2,by rw [h3,Bool.or_true]⟩
   ·
    rintro ⟨h1,h2,h3⟩
    refine ⟨h1,h2,?_⟩
    rcases Bool.or_eq_true_iff.1 h3 with e | e
    ·
     rw [of_decide_eq_true e,h2] at h
     cases h
    · exact e
  ·
   rw [if_neg h,List.mem_cons,ih]
   rw [Bool.not_eq_true] at h
   constructor
   ·
    rintro (rfl | ⟨h1,h2,h3⟩)
    · exact ⟨rfl,h,by simp⟩
    · exact ⟨h1,h2,by rw [h3,Bool.or_true]⟩
   ·
    rintro ⟨h1,h2,h3⟩
    rcases Bool.or_eq_true_iff.1 h3 with e | e
    ·
     left
     cases x
     cases y
     simp only at h1 e
     have e' := of_decide_eq_true e
     subst h1 e'
     rfl
    · exact .inr ⟨h1,h2,e⟩
structure Opened (b ls M : List Ba.T) : Prop where
 sorted : Sorted M
 has : ∀ c,has c M = (has c b || named c ls)
 val : ∀ c,val c M = val c b
theorem opened_of {b ls M : List Ba.T} (hb : Sorted b) (hM : Sorted M) (h : ∀ x,x ∈ M ↔ x ∈ b ++ news b ls) : Opened b ls M := by
 have hh : ∀ c,Po.has c M = (Po.has c b || named c ls) := fun c => by
  rw [Bool.eq_iff_iff,has_iff hM,Bool.or_eq_true_iff]
  constructor
  ·
   rintro ⟨x,hx,rfl⟩
   rcases List.mem_append.1 ((h x).1 hx) with k | k
   · exact .inl ((has_iff hb _).2 ⟨x,k,rfl⟩)
   · exact .inr (mem_news.1 k).2.2
  ·
   intro k
   cases q : Po.has c b with
   | true =>
    obtain ⟨x,hx,e⟩ := (has_iff hb c).1 q
    exact ⟨x,(h x).2 (List.mem_append.2 (.inl hx)),e⟩
   | false =>
    rw [q] at k
    have k' : named c ls = true := by simpa using k
    exact ⟨⟨c,0⟩,(h _).2 (List.mem_append.2 (.inr (mem_news.2 ⟨rfl,q,k'⟩))),rfl⟩
 refine ⟨hM,hh,fun c => ?_⟩
 cases q : Po.has c M with
 | true =>
  obtain ⟨x,hx,e⟩ := (has_iff hM c).1 q
  have v1 : Po.val c M = x.amt := by unfold Po.val; rw [(look hM hx e).1]
  rcases List.mem_append.1 ((h x).1 hx) with k | k
  ·
   have v2 : Po.val c b = x.amt := by unfold Po.val; rw [(look hb k e).1]
   rw [v1,v2]
  ·
   obtain ⟨k1,k2,_⟩ := mem_news.1 k
   rw [e] at k2
   rw [v1,k1,val_no k2]
 | false =>
  have k := hh c
  rw [q] at k
  have k2 : Po.has c b = false := by
   cases z : Po.has c b with
   | false => rfl
   | true => rw [z] at k; cases k
  rw [val_no q,val_no k2]
theorem compact_spec (d : Array Ba.T) (hs : ∀ i j,i < j → j < d.size → lt d[j]!.acct d[i]!.acct = false) (h1 : ∀ i j,i < d.size → j < d.size → d[i]!.acct = d[j]!.acct → d[i]! = d[j]!) :
  ∀ m,m ≤ d.size → Sorted (Lib.compactUpTo d m) ∧ ∀ x,x ∈ Lib.compactUpTo d m ↔ ∃ i,i < m ∧ d[i]! = x
 | 0,_ => ⟨List.Pairwise.nil,fun x => ⟨fun h => (by cases h),fun ⟨i,h,_⟩ => by omega⟩⟩
 | m + 1,hm => by
  obtain ⟨ih1,ih2⟩ := compact_spec d hs h1 m (by omega)
  rw [Lib.compactUpTo_succ]
  by_cases hk : Lib.keeps d m = true
  ·
   rw [if_pos hk]
   refine ⟨List.pairwise_append.2 ⟨ih1,List.pairwise_singleton _ _,?_⟩,fun x => ?_⟩
   ·
    intro x hx y hy
    obtain rfl := List.mem_singleton.1 hy
    obtain ⟨i,hi,rfl⟩ := (ih2 x).1 hx
    rcases lt_tri d[i]!.acct d[m]!.acct with e | e | e
    · exact e
    ·
     exfalso
     have hne : d[m]! ≠ d[m - 1]! := by
      unfold Lib.keeps at hk
      rcases of_decide_eq_true hk with q | q
      · omega
      · exact q
     apply hne
     apply h1 _ _ (by omega) (by omega)
     rcases Nat.lt_or_ge i (m - 1) with q | q
     ·
      have a1 := hs i (m - 1) q (by omega)
      have a2 := hs (m - 1) m (by omega) (by omega)
      rw [e] at a1
      rcases lt_tri d[m]!.acct d[m - 1]!.acct with z | z | z
      · rw [a2] at z; cases z
      · exact z
      · rw [a1] at z; cases z
     ·
      rw [show m - 1 = i by omega]
      exact e.symm
    ·
     rw [hs i m hi (by omega)] at e
     cases e
   ·
    rw [List.mem_append,ih2 x,List.mem_singleton]
    constructor
    ·
     rintro (⟨i,hi,e⟩ | e)
     · exact ⟨i,by omega,e⟩
     · exact ⟨m,by omega,e.symm⟩
    ·
     rintro ⟨i,hi,e⟩
     rcases Nat.lt_or_ge i m with q | q
     · exact .inl ⟨i,q,e⟩
     ·
      obtain rfl : i = m := by omega
      exact .inr e.symm
  ·
   rw [if_neg hk,List.append_nil]
   refine ⟨ih1,fun x => ?_⟩
   rw [ih2 x]
   constructor
   ·
    rintro ⟨i,hi,e⟩
    exact ⟨i,by omega,e⟩
   ·
    rintro ⟨i,hi,e⟩
    rcases Nat.lt_or_ge i m with q | q
    · exact ⟨i,q,e⟩
    ·
     obtain rfl : i = m := by omega
     unfold Lib.keeps at hk
     rw [decide_eq_true_iff] at hk
     have hm0 : i ≠ 0 := fun h => hk (.inl h)
     have he : d[i]! = d[i - 1]! := Classical.byContradiction fun h => hk (.inr h)
     exact ⟨i - 1,by omega,by rw [← he]; exact e⟩
theorem cmp_lt : ∀ a b : List UInt8,decide (Lib.compareBytes a b < 0) = Op.bytesLess a b
 | [],[] => rfl
 | [],_ :: _ => rfl
 | _ :: _,[] => rfl
 | a :: x,b :: y => by
  have ih := cmp_lt x y
  unfold Lib.compareBytes Op.bytesLess
  by_cases h : a < b
  ·
   rw [if_pos h,decide_eq_true h]
   rfl
  ·
   rw [if_neg h,decide_eq_false h,Bool.false_or]
   by_cases k : b < a
   ·
    rw [if_pos k]
    have hne : (a == b) = false := beq_eq_false_iff_ne.2 fun e => by subst e; exact UInt8.lt_irrefl a k
    rw [hne]
    rfl
   ·
    rw [if_neg k,ih]
    have he : a = b := UInt8.le_antisymm (UInt8.not_lt.1 k) (UInt8.not_lt.1 h)
    rw [beq_iff_eq.2 he,Bool.true_and]
end Go.Proofs.YtjpfpojbalepeaaGreat.Po
namespace Go.Proofs.YtjpfpojbalepeaaGreat
open Go.RowKit
open Mem
open Go.Sort (grow)
theorem Bl.ref_box (w : World) (c : ByteArray) (m : Int) : ∃ V,w.alloc (.cells #[.string c,.int .i64 m] 28) = V ∧ Below w.heap.size w V ∧ V.cell? ⟨w.heap.size,0,none⟩ = some (.string c) ∧ V.cell? ⟨w.heap.size,1,none⟩ = some (.int .i64 m) := by
 refine ⟨_,rfl,(Below.refl _ _).alloc (Nat.le_refl _) _,?_,?_⟩
 ·
  rw [cell_of_row _ w.heap.size 0 _ _ _ (heap_alloc_new w _)]
  rfl
 ·
  rw [cell_of_row _ w.heap.size 1 _ _ _ (heap_alloc_new w _)]
  rfl
theorem Bl.pix_at {c : ByteArray} {n : Int} : ∀ {l : List Bl.Ps} {k : Nat} (hk : k < l.length),(∀ p ∈ l.take k,¬ (p.ser = c ∧ p.num = n)) → (l[k].ser = c ∧ l[k].num = n) → Bl.pix c n l = k
 | [],k,hk,_,_ => absurd hk (Nat.not_lt_zero _)
 | p :: l,0,_,_,h => if_pos h
 | p :: l,k + 1,hk,hn,h => by
  rw [Bl.pix,if_neg (hn p (by simp)),Bl.pix_at (l := l) (k := k) (by rw [List.length_cons] at hk; omega) (fun q hq => hn q (by rw [List.take_succ_cons]; simp [hq])) h]
theorem Bl.tl_ne {a b : ByteArray} (h : ¬ a = b) : (a.toList == b.toList) = false := beq_eq_false_iff_ne.2 fun k => h (txt_ext (by rw [← tl,← tl,k]))
theorem Bl.tl_eq {a b : ByteArray} (h : a = b) : (a.toList == b.toList) = true := by rw [h]; exact beq_self_eq_true _
theorem Bl.liesA_new (A : Nat) (w : World) : Bl.LiesA A w ⟨⟨none,0,0⟩,⟨none,0,0⟩,⟨none,0,0⟩,⟨none,0,0⟩,⟨none,0,0⟩,1⟩ Bl.new := by
 have h := Bl.lies_new w
 exact ⟨h.tab,h.ser,⟨[],Pd.ls_nil w,Bl.each_nil w,fun r hr => by cases hr⟩,h.book,h.sess,h.next,h.fit,inA_nil _ _,inA_nil _ _,inA_nil _ _,inA_nil _ _,inA_nil _ _⟩
set_option maxHeartbeats 2000000 in
theorem bil_new (w0 w : World) (hw : Below w0.heap.size w0 w) : Calls Tryz.prog 12 #[] w (Bl.NewE w0 w) := by
 have HW := Lib.hid hw
 clear hw
 go_enter Tryz.func12,Tryz.ntmps12
 go_wp2_with fail
 exact bodyPost_ret (v := .agg #[.slice none 0 0,.slice none 0 0,.slice none 0 0,.slice none 0 0,.slice none 0 0,.int .i64 1]) (by simp [results,Tryz.results12,go_sem]) rfl ⟨⟨⟨none,0,0⟩,⟨none,0,0⟩,⟨none,0,0⟩,⟨none,0,0⟩,⟨none,0,0⟩,1⟩,rfl,Bl.liesA_new _ _,below_box HW.out _⟩
set_option maxHeartbeats 2000000 in
theorem bil_refusal (n : Int) (w0 w : World) (hw : Below w0.heap.size w0 w) : Calls Tryz.prog 26 #[.int .i64 n] w fun e w' => e = .returned (Rp.val ⟨n,0,0⟩) ∧ Below w0.heap.size w0 w' := by
 have HW := Lib.hid hw
 clear hw
 go_enter Tryz.func26,Tryz.ntmps26
 go_wp2_with fail
 exact bodyPost_ret (v := Rp.val ⟨n,0,0⟩) (by simp [results,Rp.val,Tryz.results26,go_sem]) rfl ⟨rfl,below_box HW.out _⟩
set_option maxHeartbeats 2000000 in
theorem bil_known (k : Int) (w : World) : Calls Tryz.prog 54 #[.int .i64 k] w fun e w' => e = .returned (.bool (Bl.kindB k)) ∧ w' = w := by
 by_cases h : 1 ≤ k ∧ k ≤ 8
 ·
  have HK := Lib.hid (Bl.kind_iff.2 h)
  have hc : k = 1 ∨ k = 2 ∨ k = 3 ∨ k = 4 ∨ k = 5 ∨ k = 6 ∨ k = 7 ∨ k = 8 := by omega
  clear h
  rcases hc with rfl | rfl | rfl | rfl | rfl | rfl | rfl | rfl
  all_goals
   go_enter Tryz.func54,Tryz.ntmps54
   go_wp2_with fail
   go_ret
   exact ⟨rfl,rfl⟩
 ·
  have HK : Hid (Bl.kindB k = false) := Lib.hid (by
   cases q : Bl.kindB k
   · rfl
   · exact absurd (Bl.kind_iff.1 q) h)
  have q1 : (k == 1) = false := beq_eq_false_iff_ne.2 (by omega)
  have q2 : (k == 2) = false := beq_eq_false_iff_ne.2 (by omega)
  have q3 : (k == 3) = false := beq_eq_false_iff_ne.2 (by omega)
  have q4 : (k == 4) = false := beq_eq_false_iff_ne.2 (by omega)
  have q5 : (k == 5) = false := beq_eq_false_iff_ne.2 (by omega)
  have q6 : (k == 6) = false := beq_eq_false_iff_ne.2 (by omega)
  have q7 : (k == 7) = false := beq_eq_false_iff_ne.2 (by omega)
  have q8 : (k == 8) = false := beq_eq_false_iff_ne.2 (by omega)
  clear h
  go_enter Tryz.func54,Tryz.ntmps54
  go_wp2_with fail
  go_ret
  exact ⟨by rw [HK.out]; rfl,rfl⟩
set_option maxHeartbeats 4000000 in
theorem bil_index (ps : List Bl.Ps) (rs : List Pd.T) (c : ByteArray) (m : Int) (ao : Option Addr) (n cap : Nat) (w0 w : World) (hw : Below w0.heap.size w0 w) (hL : Pd.Ls w ao n cap rs) (hE : Bl.Each w rs ps) :
  Calls Tryz.prog 118 #[.slice ao n cap,.agg #[.string c,.int .i64 m]] w fun e w' => e = .returned (.int .i64 (Bl.pix c m ps : Nat)) ∧ Below w0.heap.size w0 w' := by
 have HW := Lib.hid hw
 have HL := Lib.hid hL
 have HN := Lib.hid hL.len
 have HE := Lib.hid hE
 have hcap := hL.reach
 have hfit := hL.fits
 clear hL hw hE
 obtain ⟨V,hV,hbV,v0,v1⟩ := Bl.ref_box w c m
 have HV := Lib.hid hbV
 have HC := Lib.hid (And.intro v0 v1)
 clear hbV v0 v1
 go_enter Tryz.func118,Tryz.ntmps118
 go_wp2_with fail
 clear hV
 go_loopw [5,6,9] (fun _ _ j wr => ∃ k : Nat,k ≤ n ∧ j = .int .i64 k ∧ Hid (∀ p ∈ ps.take k,¬ (p.ser = c ∧ p.num = m)) ∧ Hid (Below V.heap.size V wr)) (fun _ _ j _ => n - (intOf j).toNat)
 case atStart => exact ⟨0,by omega,rfl,Lib.hid (fun _ h => by cases h),Lib.hid (Below.refl _ _)⟩
 case round =>
  obtain ⟨k,hk,rfl,HT,HB⟩ := hrel
  by_cases hlt : k < n
  ·
   obtain ⟨b,off,rfl⟩ := HL.out.at (by omega)
   have hkl : k < rs.length := HN.out ▸ hlt
   have hkp : k < ps.length := HE.out.len ▸ hkl
   have hrow := (HL.out.row k hkl).below (bchain HV.out HB.out)
   have hI := HE.out.each k hkl
   obtain ⟨r,hr⟩ : ∃ r,rs[k] = r := ⟨_,rfl⟩
   obtain ⟨p,hp⟩ : ∃ p,ps[k] = p := ⟨_,rfl⟩
   rw [hr] at hrow hI
   rw [hp] at hI
   have e1 := hI.ser
   have e2 := hI.num
   clear hr hI
   have hA := Pd.c_box wr r
   have HBW := Lib.hid (bchain HB.out (Pd.below_own wr r))
   have x0 := (bcell (bchain HB.out (Pd.below_own wr r))).1 _ 0 (cell_lt HC.out.1) |>.trans HC.out.1
   have x1 := (bcell (bchain HB.out (Pd.below_own wr r))).1 _ 1 (cell_lt HC.out.1) |>.trans HC.out.2
   have hA' := hA
   unfold Pd.C at hA'
   obtain ⟨a0,a1,_⟩ := hA'
   have HS := Lib.hid (List.take_succ_eq_append_getElem hkp)
   rw [hp] at HS
   by_cases he : r.ser = c
   ·
    have q0 := Bl.tl_eq he
    by_cases hm : r.num = m
    ·
     have HF := Lib.hid (Bl.pix_at hkp HT.out (by rw [hp]; exact ⟨e1 ▸ he,e2 ▸ hm⟩))
     have q1 : (r.num == m) = true := beq_iff_eq.2 hm
     clear he hm e1 e2
     go_wp2_with (first | ((with_reducible apply Pd.wpl_load hrow); rfl; rfl; rfl) | ((with_reducible apply Pd.wpl_store (r := r) (g := wr.heap.size)); rfl; rfl; rfl; rfl; rfl; rfl))
     go_ret
     exact ⟨by rw [HF.out]; rfl,bchain HW.out (bchain HV.out HBW.out)⟩
    ·
     have HNo : Hid (¬ (p.ser = c ∧ p.num = m)) := Lib.hid fun h => hm (e2.trans h.2)
     have q1 : (r.num == m) = false := beq_eq_false_iff_ne.2 hm
     clear he hm e1 e2
     go_wp2_with (first | ((with_reducible apply Pd.wpl_load hrow); rfl; rfl; rfl) | ((with_reducible apply Pd.wpl_store (r := r) (g := wr.heap.size)); rfl; rfl; rfl; rfl; rfl; rfl))
     go_roundw
     case rel =>
      refine ⟨k + 1,by omega,by go_num,Lib.hid ?_,HBW⟩
      rw [HS.out]
      intro x hx
      rcases List.mem_append.1 hx with h | h
      · exact HT.out x h
      ·
       rw [List.mem_singleton.1 h]
       exact HNo.out
     case measure => simp [intOf]; omega
   ·
    have q0 := Bl.tl_ne he
    have HNo : Hid (¬ (p.ser = c ∧ p.num = m)) := Lib.hid fun h => he (e1.trans h.1)
    clear he e1 e2
    go_wp2_with (first | ((with_reducible apply Pd.wpl_load hrow); rfl; rfl; rfl) | ((with_reducible apply Pd.wpl_store (r := r) (g := wr.heap.size)); rfl; rfl; rfl; rfl; rfl; rfl))
    go_roundw
    case rel =>
     refine ⟨k + 1,by omega,by go_num,Lib.hid ?_,HBW⟩
     rw [HS.out]
     intro x hx
     rcases List.mem_append.1 hx with h | h
     · exact HT.out x h
     ·
      rw [List.mem_singleton.1 h]
      exact HNo.out
    case measure => simp [intOf]; omega
  ·
   obtain rfl : k = n := by omega
   have HF : Hid (Bl.pix c m ps = k) := Lib.hid (by
    rw [Bl.pix_none,← HE.out.len,HN.out]
    intro p hp
    exact HT.out p (by rw [List.take_of_length_le (by rw [← HE.out.len,HN.out]; exact Nat.le_refl _)]; exact hp))
   go_wp2_with fail
   go_ret
   exact ⟨by rw [HF.out]; rfl,bchain HW.out (bchain HV.out HB.out)⟩
set_option maxHeartbeats 4000000 in
theorem bil_credits (ps : List Bl.Ps) (rs : List Pd.T) (c : ByteArray) (m : Int) (ao : Option Addr) (n cap : Nat) (w0 w : World) (hw : Below w0.heap.size w0 w) (hL : Pd.Ls w ao n cap rs) (hE : Bl.Each w rs ps) :
  Calls Tryz.prog 74 #[.slice ao n cap,.agg #[.string c,.int .i64 m]] w fun e w' => e = .returned (.int .i64 (Bl.crd c m ps : Nat)) ∧ Below w0.heap.size w0 w' := by
 have HW := Lib.hid hw
 have HL := Lib.hid hL
 have HN := Lib.hid hL.len
 have HE := Lib.hid hE
 have hcap := hL.reach
 have hfit := hL.fits
 clear hL hw hE
 obtain ⟨V,hV,hbV,v0,v1⟩ := Bl.ref_box w c m
 have HV := Lib.hid hbV
 have HC := Lib.hid (And.intro v0 v1)
 clear hbV v0 v1
 go_enter Tryz.func74,Tryz.ntmps74
 go_wp2_with fail
 clear hV
 go_loopw [5,7,10] (fun a _ j wr => ∃ k t : Nat,k ≤ n ∧ t ≤ k ∧ j = .int .i64 k ∧ a = .int .i64 t ∧ Hid (Bl.crd c m (ps.take k) = t) ∧ Hid (Below V.heap.size V wr)) (fun _ _ j _ => n - (intOf j).toNat)
 case atStart => exact ⟨0,0,by omega,by omega,rfl,rfl,Lib.hid rfl,Lib.hid (Below.refl _ _)⟩
 case round =>
  obtain ⟨k,t,hk,htk,rfl,rfl,HT,HB⟩ := hrel
  by_cases hlt : k < n
  ·
   obtain ⟨b,off,rfl⟩ := HL.out.at (by omega)
   have hkl : k < rs.length := HN.out ▸ hlt
   have hkp : k < ps.length := HE.out.len ▸ hkl
   have hrow := (HL.out.row k hkl).below (bchain HV.out HB.out)
   have hI := HE.out.each k hkl
   obtain ⟨r,hr⟩ : ∃ r,rs[k] = r := ⟨_,rfl⟩
   have HS := Lib.hid (Bl.crd_take c m ps k hkp)
   obtain ⟨p,hp⟩ : ∃ p,ps[k] = p := ⟨_,rfl⟩
   rw [hr] at hrow hI
   rw [hp] at hI HS
   have e1 := hI.ofS
   have e2 := hI.ofN
   clear hr hI hp
   have hA := Pd.c_box wr r
   have HBW := Lib.hid (bchain HB.out (Pd.below_own wr r))
   have x0 := (bcell (bchain HB.out (Pd.below_own wr r))).1 _ 0 (cell_lt HC.out.1) |>.trans HC.out.1
   have x1 := (bcell (bchain HB.out (Pd.below_own wr r))).1 _ 1 (cell_lt HC.out.1) |>.trans HC.out.2
   have hA' := hA
   unfold Pd.C at hA'
   obtain ⟨_,_,_,_,_,_,_,_,_,a9,a10,_⟩ := hA'
   by_cases he : r.ofS = c
   ·
    have q0 := Bl.tl_eq he
    by_cases hm : r.ofN = m
    ·
     have HF : Hid (Bl.crd c m (ps.take (k + 1)) = t + 1) := Lib.hid (by rw [HS.out,HT.out,if_pos ⟨e1 ▸ he,e2 ▸ hm⟩])
     have q1 : (r.ofN == m) = true := beq_iff_eq.2 hm
     clear he hm e1 e2
     go_wp2_with (first | ((with_reducible apply Pd.wpl_load hrow); rfl; rfl; rfl) | ((with_reducible apply Pd.wpl_store (r := r) (g := wr.heap.size)); rfl; rfl; rfl; rfl; rfl; rfl))
     go_roundw
     case rel => exact ⟨k + 1,t + 1,by omega,by omega,by go_num,by go_num,HF,HBW⟩
     case measure => simp [intOf]; omega
    ·
     have HF : Hid (Bl.crd c m (ps.take (k + 1)) = t) := Lib.hid (by rw [HS.out,HT.out,if_neg (fun h => hm (e2.trans h.2)),Nat.add_zero])
     have q1 : (r.ofN == m) = false := beq_eq_false_iff_ne.2 hm
     clear he hm e1 e2
     go_wp2_with (first | ((with_reducible apply Pd.wpl_load hrow); rfl; rfl; rfl) | ((with_reducible apply Pd.wpl_store (r := r) (g := wr.heap.size)); rfl; rfl; rfl; rfl; rfl; rfl))
     go_roundw
     case rel => exact ⟨k + 1,t,by omega,by omega,by go_num,rfl,HF,HBW⟩
     case measure => simp [intOf]; omega
   ·
    have q0 := Bl.tl_ne he
    have HF : Hid (Bl.crd c m (ps.take (k + 1)) = t) := Lib.hid (by rw [HS.out,HT.out,if_neg (fun h => he (e1.trans h.1)),Nat.add_zero])
    clear he e1 e2
    go_wp2_with (first | ((with_reducible apply Pd.wpl_load hrow); rfl; rfl; rfl) | ((with_reducible apply Pd.wpl_store (r := r) (g := wr.heap.size)); rfl; rfl; rfl; rfl; rfl; rfl))
    go_roundw
    case rel => exact ⟨k + 1,t,by omega,by omega,by go_num,rfl,HF,HBW⟩
    case measure => simp [intOf]; omega
  ·
   obtain rfl : k = n := by omega
   have HF : Hid (Bl.crd c m ps = t) := Lib.hid (by
    rw [← HT.out,List.take_of_length_le (by rw [← HE.out.len,HN.out]; exact Nat.le_refl _)])
   go_wp2_with fail
   go_ret
   exact ⟨by rw [HF.out]; rfl,bchain HW.out (bchain HV.out HB.out)⟩
def Bl.CountE (w0 : World) (c : ByteArray) (ps : List Bl.Ps) (e : Ending) (w' : World) : Prop := (Bl.CntOk c ps ∧ e = .returned (.tuple #[.int .i64 (Bl.cnt c ps : Nat),.bool true]) ∨ ¬ Bl.CntOk c ps ∧ e = .returned (.tuple #[.int .i64 0,.bool false])) ∧ Below w0.heap.size w0 w'
theorem Bl.cntOk_step {c : ByteArray} {l : List Bl.Ps} {k : Nat} (hk : k < l.length) (h : Bl.CntOk c (l.take k)) (hn : l[k].ser = c → l[k].num = (Bl.cnt c (l.take k) : Int) + 1) : Bl.CntOk c (l.take (k + 1)) := by
 intro i hi e
 rw [List.length_take] at hi
 rw [List.getElem_take] at e
 rw [List.getElem_take]
 have ht : ((l.take (k + 1)).take i) = l.take i := by rw [List.take_take,Nat.min_eq_left (by omega)]
 rw [ht]
 by_cases q : i = k
 ·
  subst q
  exact hn e
 ·
  have := h i (by rw [List.length_take]; omega) (by rw [List.getElem_take]; exact e)
  have hm : min i k = i := by omega
  simp only [List.getElem_take,List.take_take,hm] at this
  exact this
set_option maxHeartbeats 4000000 in
theorem bil_count (ps : List Bl.Ps) (rs : List Pd.T) (c : ByteArray) (ao : Option Addr) (n cap : Nat) (w0 w : World) (hw : Below w0.heap.size w0 w) (hL : Pd.Ls w ao n cap rs) (hE : Bl.Each w rs ps) :
  Calls Tryz.prog 69 #[.slice ao n cap,.string c] w (Bl.CountE w0 c ps) := by
 have HW := Lib.hid hw
 have HL := Lib.hid hL
 have HN := Lib.hid hL.len
 have HE := Lib.hid hE
 have hcap := hL.reach
 have hfit := hL.fits
 clear hL hw hE
 go_enter Tryz.func69,Tryz.ntmps69
 go_wp2_with fail
 go_loopw [6,8,11] (fun a _ j wr => ∃ k t : Nat,k ≤ n ∧ t ≤ k ∧ j = .int .i64 k ∧ a = .int .i64 t ∧ Hid (Bl.cnt c (ps.take k) = t ∧ Bl.CntOk c (ps.take k)) ∧ Hid (Below w.heap.size w wr)) (fun _ _ j _ => n - (intOf j).toNat)
 case atStart => exact ⟨0,0,by omega,by omega,rfl,rfl,Lib.hid ⟨rfl,fun i hi => absurd hi (Nat.not_lt_zero _)⟩,Lib.hid (Below.refl _ _)⟩
 case round =>
  obtain ⟨k,t,hk,htk,rfl,rfl,HT,HB⟩ := hrel
  by_cases hlt : k < n
  ·
   obtain ⟨b,off,rfl⟩ := HL.out.at (by omega)
   have hkl : k < rs.length := HN.out ▸ hlt
   have hkp : k < ps.length := HE.out.len ▸ hkl
   have hrow := (HL.out.row k hkl).below HB.out
   have hI := HE.out.each k hkl
   obtain ⟨r,hr⟩ : ∃ r,rs[k] = r := ⟨_,rfl⟩
   have HS := Lib.hid (Bl.cnt_take c ps k hkp)
   have HSt := Lib.hid (Bl.cntOk_step hkp HT.out.2)
   have HNo : Hid (ps[k].ser = c → ¬ ps[k].num = (t : Int) + 1 → ¬ Bl.CntOk c ps) := Lib.hid fun e q h => q (by have := h k hkp e; rw [HT.out.1] at this; exact this)
   obtain ⟨p,hp⟩ : ∃ p,ps[k] = p := ⟨_,rfl⟩
   rw [hr] at hrow hI
   rw [hp] at hI HS HSt HNo
   have e1 := hI.ser
   have e2 := hI.num
   clear hr hI hp
   have hA := Pd.c_box wr r
   have HBW := Lib.hid (bchain HB.out (Pd.below_own wr r))
   have hA' := hA
   unfold Pd.C at hA'
   obtain ⟨a0,a1,_⟩ := hA'
   by_cases he : r.ser = c
   ·
    have q0 := Bl.tl_eq he
    have HF : Hid (Bl.cnt c (ps.take (k + 1)) = t + 1) := Lib.hid (by rw [HS.out,HT.out.1,if_pos (e1 ▸ he)])
    by_cases hm : r.num = (t : Int) + 1
    ·
     have HG := Lib.hid (HSt.out fun _ => by rw [HT.out.1,← e2]; exact hm)
     have q1 : (r.num == (t : Int) + 1) = true := beq_iff_eq.2 hm
     clear he hm e1 e2
     go_wp2_with (first | ((with_reducible apply Pd.wpl_load hrow); rfl; rfl; rfl) | ((with_reducible apply Pd.wpl_store (r := r) (g := wr.heap.size)); rfl; rfl; rfl; rfl; rfl; rfl))
     go_roundw
     case rel => exact ⟨k + 1,t + 1,by omega,by omega,by go_num,by go_num,Lib.hid ⟨HF.out,HG.out⟩,HBW⟩
     case measure => simp [intOf]; omega
    ·
     have HG := Lib.hid (HNo.out (e1 ▸ he) (e2 ▸ hm))
     have q1 : (r.num == (t : Int) + 1) = false := beq_eq_false_iff_ne.2 hm
     clear he hm e1 e2
     go_wp2_with (first | ((with_reducible apply Pd.wpl_load hrow); rfl; rfl; rfl) | ((with_reducible apply Pd.wpl_store (r := r) (g := wr.heap.size)); rfl; rfl; rfl; rfl; rfl; rfl))
     go_ret2
     exact ⟨.inr ⟨HG.out,rfl⟩,bchain HW.out HBW.out⟩
   ·
    have q0 := Bl.tl_ne he
    have HF : Hid (Bl.cnt c (ps.take (k + 1)) = t) := Lib.hid (by rw [HS.out,HT.out.1,if_neg (fun h => he (e1.trans h)),Nat.add_zero])
    have HG := Lib.hid (HSt.out fun h => absurd (e1.trans h) he)
    clear he e1 e2
    go_wp2_with (first | ((with_reducible apply Pd.wpl_load hrow); rfl; rfl; rfl) | ((with_reducible apply Pd.wpl_store (r := r) (g := wr.heap.size)); rfl; rfl; rfl; rfl; rfl; rfl))
    go_roundw
    case rel => exact ⟨k + 1,t,by omega,by omega,by go_num,rfl,Lib.hid ⟨HF.out,HG.out⟩,HBW⟩
    case measure => simp [intOf]; omega
  ·
   obtain rfl : k = n := by omega
   have HF : Hid (Bl.cnt c ps = t ∧ Bl.CntOk c ps) := Lib.hid (by
    have h := HT.out
    rw [List.take_of_length_le (by rw [← HE.out.len,HN.out]; exact Nat.le_refl _)] at h
    exact h)
   go_wp2_with fail
   go_ret2
   exact ⟨.inl ⟨HF.out.2,by rw [HF.out.1]; rfl⟩,bchain HW.out HB.out⟩
set_option maxHeartbeats 4000000 in
theorem bil_amount (bs : List Ba.T) (c : ByteArray) (ao : Option Addr) (n cap : Nat) (w0 w : World) (hw : Below w0.heap.size w0 w) (hL : Ba.Ls w ao n cap bs) (hS : Po.Sorted bs) :
  Calls Tryz.prog 147 #[.slice ao n cap,.string c] w fun e w' => e = .returned (.int .i64 (Po.val c bs)) ∧ Below w0.heap.size w0 w' := by
 have HW := Lib.hid hw
 have HL := Lib.hid hL
 have HN := Lib.hid hL.len
 have HSo := Lib.hid hS
 have hcap := hL.reach
 have hfit := hL.fits
 clear hL hw hS
 go_enter Tryz.func147,Tryz.ntmps147
 go_wp2_with fail
 go_loopw [6,9] (fun _ j wr => ∃ k : Nat,k ≤ n ∧ j = .int .i64 k ∧ Hid (∀ x ∈ bs.take k,x.acct ≠ c) ∧ Hid (Below w.heap.size w wr)) (fun _ j _ => n - (intOf j).toNat)
 case atStart => exact ⟨0,by omega,rfl,Lib.hid (fun _ h => by cases h),Lib.hid (Below.refl _ _)⟩
 case round =>
  obtain ⟨k,hk,rfl,HT,HB⟩ := hrel
  by_cases hlt : k < n
  ·
   obtain ⟨b,off,rfl⟩ := HL.out.at (by omega)
   have hkl : k < bs.length := HN.out ▸ hlt
   have hrow := (HL.out.row k hkl).below HB.out
   have HS := Lib.hid (List.take_succ_eq_append_getElem hkl)
   have HM := Lib.hid (List.getElem_mem hkl)
   obtain ⟨r,hr⟩ : ∃ r,bs[k] = r := ⟨_,rfl⟩
   rw [hr] at hrow HS HM
   clear hr
   obtain ⟨g0,g1⟩ := hrow
   obtain ⟨W,hW,hbW,hA⟩ := Ba.boxed1 wr r
   have HBW := Lib.hid (bchain HB.out hbW)
   clear hbW
   unfold Ba.C at hA
   obtain ⟨a0,a1⟩ := hA
   by_cases he : r.acct = c
   ·
    have q0 := Bl.tl_eq he
    have HF : Hid (Po.val c bs = r.amt) := Lib.hid (by
     unfold Po.val
     rw [(Po.look HSo.out HM.out he).1])
    clear he
    go_wp2_with fail
    go_ret
    exact ⟨by rw [HF.out]; rfl,bchain HW.out HBW.out⟩
   ·
    have q0 := Bl.tl_ne he
    have HE := Lib.hid he
    clear he
    go_wp2_with fail
    go_roundw
    case rel =>
     refine ⟨k + 1,by omega,by go_num,Lib.hid ?_,HBW⟩
     rw [HS.out]
     intro x hx
     rcases List.mem_append.1 hx with h | h
     · exact HT.out x h
     ·
      rw [List.mem_singleton.1 h]
      exact HE.out
    case measure => simp [intOf]; omega
  ·
   obtain rfl : k = n := by omega
   have HF : Hid (Po.val c bs = 0) := Lib.hid (by
    refine Po.val_no ?_
    cases q : Po.has c bs
    · rfl
    ·
     obtain ⟨x,hx,e⟩ := Po.has_mem q
     exact absurd e (HT.out x (by rw [List.take_of_length_le (by rw [HN.out]; exact Nat.le_refl _)]; exact hx)))
   go_wp2_with fail
   go_ret
   exact ⟨by rw [HF.out]; rfl,bchain HW.out HB.out⟩
end Go.Proofs.YtjpfpojbalepeaaGreat
namespace Go.Proofs.YtjpfpojbalepeaaGreat
open Go.RowKit
open Mem
structure KpP (P : Nat → Prop) (w v : World) : Prop where
 cell : ∀ b o,P b → b < w.heap.size → v.cell? ⟨b,o,none⟩ = w.cell? ⟨b,o,none⟩
 size : w.heap.size ≤ v.heap.size
theorem KpP.of {P : Nat → Prop} {w v : World} (h : Below w.heap.size w v) : KpP P w v := ⟨fun b o _ hb => (bcell h).1 b o hb,h.size⟩
theorem KpP.trans {P : Nat → Prop} {u v w : World} (h : KpP P u v) (k : KpP P v w) : KpP P u w := ⟨fun b o ha hb => (k.cell b o ha (Nat.lt_of_lt_of_le hb h.size)).trans (h.cell b o ha hb),Nat.le_trans h.size k.size⟩
theorem KpP.set {P : Nat → Prop} {g : Nat} (w : World) (hg : ¬ P g) (o : Nat) (x : Value) : KpP P w (w.setCell ⟨g,o,none⟩ x) :=
 ⟨fun b o' ha _ => World.cell?_setCell_other _ _ _ _ (by intro k; simp only [Addr.mk.injEq] at k; exact hg (k.1 ▸ ha)),by simp⟩
theorem KpP.row {P : Nat → Prop} {g : Nat} (w : World) (hg : ¬ P g) (vs : Array Value) : KpP P w (w.setRow g vs) := by
 refine ⟨fun b o ha hb => ?_,by simp [World.setRow]⟩
 have e : (w.setRow g vs).heap[b]? = w.heap[b]? := setRow_other w g b _ (by intro k; exact hg (k ▸ ha))
 unfold World.cell?
 simp only [e]
def InP (P : Nat → Prop) (ao : Option Addr) (n : Nat) : Prop := 0 < n → ∀ b off,ao = some ⟨b,off,none⟩ → P b
theorem InP.mono {P Q : Nat → Prop} {ao : Option Addr} {n : Nat} (h : InP P ao n) (k : ∀ b,P b → Q b) : InP Q ao n := fun hn b off e => k b (h hn b off e)
theorem inP_nil (P : Nat → Prop) (ao : Option Addr) : InP P ao 0 := fun h => absurd h (Nat.lt_irrefl _)
def nw (P : Nat → Prop) (w : World) (b : Nat) : Prop := P b ∨ w.heap.size ≤ b
theorem InA.nw {A : Nat} {ao : Option Addr} {n : Nat} (h : InA A ao n) (P : Nat → Prop) {w : World} (k : w.heap.size ≤ A) : InP (Go.Proofs.YtjpfpojbalepeaaGreat.nw P w) ao n := fun hn b off e => .inr (Nat.le_trans k (h hn b off e))
theorem Sr.Ls.kpP {P : Nat → Prop} {w v : World} {ao : Option Addr} {n cap : Nat} {rs : List Sr.T} (h : Sr.Ls w ao n cap rs) (hi : InP P ao n) (k : KpP P w v) : Sr.Ls v ao n cap rs := by
 refine ⟨h.len,h.fits,h.reach,h.nil,?_,h.short⟩
 rcases h.seg with e | ⟨b,off,e,hc⟩
 · exact .inl e
 ·
  refine .inr ⟨b,off,e,fun i hr => ?_⟩
  have hA := hi (by rw [h.len]; omega) b off e
  have hl := cell_lt (hc i hr).c0
  exact ⟨(k.cell b _ hA hl).trans (hc i hr).c0,(k.cell b _ hA hl).trans (hc i hr).c1,(k.cell b _ hA hl).trans (hc i hr).c2,(k.cell b _ hA hl).trans (hc i hr).c3⟩
theorem Ba.Ls.kpP {P : Nat → Prop} {w v : World} {ao : Option Addr} {n cap : Nat} {rs : List Ba.T} (h : Ba.Ls w ao n cap rs) (hi : InP P ao n) (k : KpP P w v) : Ba.Ls v ao n cap rs := by
 refine ⟨h.len,h.fits,h.reach,h.nil,?_,h.short⟩
 rcases h.seg with e | ⟨b,off,e,hc⟩
 · exact .inl e
 ·
  refine .inr ⟨b,off,e,fun i hr => ?_⟩
  have hA := hi (by rw [h.len]; omega) b off e
  have hl := cell_lt (hc i hr).c0
  exact ⟨(k.cell b _ hA hl).trans (hc i hr).c0,(k.cell b _ hA hl).trans (hc i hr).c1⟩
theorem Sn.Ls.kpP {P : Nat → Prop} {w v : World} {ao : Option Addr} {n cap : Nat} {rs : List Sn.T} (h : Sn.Ls w ao n cap rs) (hi : InP P ao n) (k : KpP P w v) : Sn.Ls v ao n cap rs := by
 refine ⟨h.len,h.fits,h.reach,h.nil,?_,h.short⟩
 rcases h.seg with e | ⟨b,off,e,hc⟩
 · exact .inl e
 ·
  refine .inr ⟨b,off,e,fun i hr => ?_⟩
  have hA := hi (by rw [h.len]; omega) b off e
  have hl := cell_lt (hc i hr).c0
  exact ⟨(k.cell b _ hA hl).trans (hc i hr).c0,(k.cell b _ hA hl).trans (hc i hr).c1,(k.cell b _ hA hl).trans (hc i hr).c2,(k.cell b _ hA hl).trans (hc i hr).c3,(k.cell b _ hA hl).trans (hc i hr).c4⟩
theorem Pt.Ls.kpP {P : Nat → Prop} {w v : World} {ao : Option Addr} {n cap : Nat} {rs : List Pt.T} (h : Pt.Ls w ao n cap rs) (hi : InP P ao n) (k : KpP P w v) : Pt.Ls v ao n cap rs := by
 refine ⟨h.len,h.fits,h.reach,h.nil,?_,h.short⟩
 rcases h.seg with e | ⟨b,off,e,hc⟩
 · exact .inl e
 ·
  refine .inr ⟨b,off,e,fun i hr => ?_⟩
  have hA := hi (by rw [h.len]; omega) b off e
  have hl := cell_lt (hc i hr).c0
  exact ⟨(k.cell b _ hA hl).trans (hc i hr).c0,(k.cell b _ hA hl).trans (hc i hr).c1,(k.cell b _ hA hl).trans (hc i hr).c2,(k.cell b _ hA hl).trans (hc i hr).c3⟩
theorem Pd.Ls.kpP {P : Nat → Prop} {w v : World} {ao : Option Addr} {n cap : Nat} {rs : List Pd.T} (h : Pd.Ls w ao n cap rs) (hi : InP P ao n) (k : KpP P w v) : Pd.Ls v ao n cap rs := by
 refine ⟨h.len,h.fits,h.reach,h.nil,?_,h.short⟩
 rcases h.seg with e | ⟨b,off,e,hc⟩
 · exact .inl e
 ·
  refine .inr ⟨b,off,e,fun i hr => ?_⟩
  have hA := hi (by rw [h.len]; omega) b off e
  have hl := cell_lt (hc i hr).c0
  exact ⟨(k.cell b _ hA hl).trans (hc i hr).c0,(k.cell b _ hA hl).trans (hc i hr).c1,(k.cell b _ hA hl).trans (hc i hr).c2,(k.cell b _ hA hl).trans (hc i hr).c3,(k.cell b _ hA hl).trans (hc i hr).c4,(k.cell b _ hA hl).trans (hc i hr).c5,(k.cell b _ hA hl).trans (hc i hr).c6,(k.cell b _ hA hl).trans (hc i hr).c7,(k.cell b _ hA hl).trans (hc i hr).c8,(k.cell b _ hA hl).trans (hc i hr).c9,(k.cell b _ hA hl).trans (hc i hr).c10,(k.cell b _ hA hl).trans (hc i hr).c11⟩
theorem Rts.kpP {P : Nat → Prop} {w v : World} {ao : Option Addr} {n cap : Nat} {rs : List Vt.Rt} (h : Rts w ao n cap rs) (hi : InP P ao n) (k : KpP P w v) : Rts v ao n cap rs := by
 refine ⟨h.len,h.fits,h.reach,h.nil,?_,h.short⟩
 rcases h.seg with e | ⟨b,off,e,hc⟩
 · exact .inl e
 ·
  refine .inr ⟨b,off,e,fun i hr => ?_⟩
  have hA := hi (by rw [h.len]; omega) b off e
  have hl := cell_lt (hc i hr).c0
  exact ⟨(k.cell b _ hA hl).trans (hc i hr).c0,(k.cell b _ hA hl).trans (hc i hr).c1,(k.cell b _ hA hl).trans (hc i hr).c2,(k.cell b _ hA hl).trans (hc i hr).c3,(k.cell b _ hA hl).trans (hc i hr).c4⟩
theorem Sr.Ls.inp {w : World} {ao : Option Addr} {n cap : Nat} {rs : List Sr.T} (h : Sr.Ls w ao n cap rs) : InP (· < w.heap.size) ao n := fun hn b off e => by
 rcases h.seg with z | ⟨b',off',e',hc⟩
 ·
  rw [h.len,z] at hn
  exact absurd hn (Nat.lt_irrefl _)
 ·
  rw [e'] at e
  cases e
  exact cell_lt (hc 0 (by rw [← h.len]; exact hn)).c0
theorem Ba.Ls.inp {w : World} {ao : Option Addr} {n cap : Nat} {rs : List Ba.T} (h : Ba.Ls w ao n cap rs) : InP (· < w.heap.size) ao n := fun hn b off e => by
 rcases h.seg with z | ⟨b',off',e',hc⟩
 ·
  rw [h.len,z] at hn
  exact absurd hn (Nat.lt_irrefl _)
 ·
  rw [e'] at e
  cases e
  exact cell_lt (hc 0 (by rw [← h.len]; exact hn)).c0
theorem Sn.Ls.inp {w : World} {ao : Option Addr} {n cap : Nat} {rs : List Sn.T} (h : Sn.Ls w ao n cap rs) : InP (· < w.heap.size) ao n := fun hn b off e => by
 rcases h.seg with z | ⟨b',off',e',hc⟩
 ·
  rw [h.len,z] at hn
  exact absurd hn (Nat.lt_irrefl _)
 ·
  rw [e'] at e
  cases e
  exact cell_lt (hc 0 (by rw [← h.len]; exact hn)).c0
theorem Pt.Ls.inp {w : World} {ao : Option Addr} {n cap : Nat} {rs : List Pt.T} (h : Pt.Ls w ao n cap rs) : InP (· < w.heap.size) ao n := fun hn b off e => by
 rcases h.seg with z | ⟨b',off',e',hc⟩
 ·
  rw [h.len,z] at hn
  exact absurd hn (Nat.lt_irrefl _)
 ·
  rw [e'] at e
  cases e
  exact cell_lt (hc 0 (by rw [← h.len]; exact hn)).c0
theorem Pd.Ls.inp {w : World} {ao : Option Addr} {n cap : Nat} {rs : List Pd.T} (h : Pd.Ls w ao n cap rs) : InP (· < w.heap.size) ao n := fun hn b off e => by
 rcases h.seg with z | ⟨b',off',e',hc⟩
 ·
  rw [h.len,z] at hn
  exact absurd hn (Nat.lt_irrefl _)
 ·
  rw [e'] at e
  cases e
  exact cell_lt (hc 0 (by rw [← h.len]; exact hn)).c0
theorem Rts.inp {w : World} {ao : Option Addr} {n cap : Nat} {rs : List Vt.Rt} (h : Rts w ao n cap rs) : InP (· < w.heap.size) ao n := fun hn b off e => by
 rcases h.seg with z | ⟨b',off',e',hc⟩
 ·
  rw [h.len,z] at hn
  exact absurd hn (Nat.lt_irrefl _)
 ·
  rw [e'] at e
  cases e
  exact cell_lt (hc 0 (by rw [← h.len]; exact hn)).c0
namespace Bl
structure Lp (P : Nat → Prop) (w : World) (h : Sv) (s : St) : Prop where
 tab : Rts w h.tab.ao h.tab.n h.tab.cap s.tab
 ser : Sr.Ls w h.ser.ao h.ser.n h.ser.cap s.ser
 post : ∃ rs,Pd.Ls w h.post.ao h.post.n h.post.cap rs ∧ Each w rs s.post ∧ ∀ r ∈ rs,InP P r.parts.ao r.parts.n
 book : Ba.Ls w h.book.ao h.book.n h.book.cap s.book
 sess : Sn.Ls w h.sess.ao h.sess.n h.sess.cap s.sess
 next : h.next = s.next
 fit : Fit s.next
 ptab : InP P h.tab.ao h.tab.n
 pser : InP P h.ser.ao h.ser.n
 ppost : InP P h.post.ao h.post.n
 pbook : InP P h.book.ao h.book.n
 psess : InP P h.sess.ao h.sess.n
variable {P Q : Nat → Prop} {w v : World} {h : Sv} {s : St}
theorem Lp.lies (l : Lp P w h s) : Lies w h s := by
 obtain ⟨rs,h1,h2,_⟩ := l.post
 exact ⟨l.tab,l.ser,⟨rs,h1,h2⟩,l.book,l.sess,l.next,l.fit⟩
theorem Lp.mono (l : Lp P w h s) (k : ∀ b,P b → Q b) : Lp Q w h s := by
 obtain ⟨rs,h1,h2,h3⟩ := l.post
 exact ⟨l.tab,l.ser,⟨rs,h1,h2,fun r hr => (h3 r hr).mono k⟩,l.book,l.sess,l.next,l.fit,l.ptab.mono k,l.pser.mono k,l.ppost.mono k,l.pbook.mono k,l.psess.mono k⟩
theorem Lp.wide (l : Lp P v h s) (w : World) : Lp (Go.Proofs.YtjpfpojbalepeaaGreat.nw P w) v h s := l.mono fun _ h => .inl h
theorem Lies.lp (l : Lies w h s) : Lp (· < w.heap.size) w h s := by
 obtain ⟨rs,h1,h2⟩ := l.post
 refine ⟨l.tab,l.ser,⟨rs,h1,h2,fun r hr => ?_⟩,l.book,l.sess,l.next,l.fit,l.tab.inp,l.ser.inp,h1.inp,l.book.inp,l.sess.inp⟩
 obtain ⟨i,hi,rfl⟩ := List.getElem_of_mem hr
 exact (h2.each i hi).parts.inp
theorem InP.both {P Q : Nat → Prop} {ao : Option Addr} {n : Nat} (h : InP P ao n) (k : InP Q ao n) : InP (fun b => P b ∧ Q b) ao n := fun hn b off e => ⟨h hn b off e,k hn b off e⟩
theorem Lp.lt (l : Lp P w h s) : Lp (fun b => P b ∧ b < w.heap.size) w h s := by
 obtain ⟨rs,h1,h2,h3⟩ := l.post
 refine ⟨l.tab,l.ser,⟨rs,h1,h2,fun r hr => ?_⟩,l.book,l.sess,l.next,l.fit,InP.both l.ptab l.tab.inp,InP.both l.pser l.ser.inp,InP.both l.ppost h1.inp,InP.both l.pbook l.book.inp,InP.both l.psess l.sess.inp⟩
 refine InP.both (h3 r hr) ?_
 obtain ⟨i,hi,rfl⟩ := List.getElem_of_mem hr
 exact (h2.each i hi).parts.inp
theorem IsP.kpP {r : Pd.T} {p : Ps} (h : IsP w r p) (hi : InP P r.parts.ao r.parts.n) (k : KpP P w v) : IsP v r p :=
 ⟨h.ser,h.num,h.y,h.m,h.d,h.net,h.tax,h.gross,h.parts.kpP hi k,h.ofS,h.ofN,h.back⟩
theorem Lp.kp (l : Lp P w h s) (k : KpP P w v) : Lp P v h s := by
 obtain ⟨rs,h1,h2,h3⟩ := l.post
 exact ⟨l.tab.kpP l.ptab k,l.ser.kpP l.pser k,⟨rs,h1.kpP l.ppost k,⟨h2.len,fun i hi => (h2.each i hi).kpP (h3 _ (List.getElem_mem hi)) k⟩,h3⟩,l.book.kpP l.pbook k,l.sess.kpP l.psess k,l.next,l.fit,l.ptab,l.pser,l.ppost,l.pbook,l.psess⟩
theorem Lp.below (l : Lp P w h s) (k : Below w.heap.size w v) : Lp P v h s := l.kp (KpP.of k)
theorem Lp.liesA {A : Nat} (l : Lp (fun b => A ≤ b) w h s) : LiesA A w h s := by
 obtain ⟨rs,h1,h2,h3⟩ := l.post
 exact ⟨l.tab,l.ser,⟨rs,h1,h2,h3⟩,l.book,l.sess,l.next,l.fit,l.ptab,l.pser,l.ppost,l.pbook,l.psess⟩
end Bl
end Go.Proofs.YtjpfpojbalepeaaGreat
