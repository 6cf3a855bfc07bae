import Derived.WalkKit
import Derived.Laws.Runes
import Derived.Maps.AppendAt
import Derived.Laws.AppendOwnNone
import Derived.Laws.Rows
import Derived.Laws.CopyOwn
import Derived.Laws.MakeOwn
import Derived.RegionTactic
import Derived.Lib.MapLaws
import Derived.Test.YtlmjeackfepllaaGreatDoorZWk2
namespace Go.Proofs.YtlmjeackfepllaaGreatDoor.Et
open Go.RowKit
open Mem
def rv (r : T) : List Value := [.int .i64 r.term,.int .i64 r.mem,.string r.data]
theorem rv_len (r : T) : (rv r).length = 3 := rfl
theorem flat_len : ∀ rs : List T,(rs.flatMap rv).length = rs.length * 3
 | [] => rfl
 | r :: l => by
  rw [List.flatMap_cons,List.length_append,rv_len,flat_len l,List.length_cons]
  omega
theorem flat_at : ∀ (rs : List T) (k p : Nat) (hk : k < rs.length),p < 3 → (rs.flatMap rv)[k * 3 + p]? = (rv rs[k])[p]?
 | r :: l,0,p,_,hp => by
  rw [List.flatMap_cons,List.getElem?_append_left (by rw [rv_len]; omega),Nat.zero_mul,Nat.zero_add]
  rfl
 | r :: l,k + 1,p,hk,hp => by
  rw [List.flatMap_cons,List.getElem?_append_right (by rw [rv_len]; omega),rv_len,show (k + 1) * 3 + p - 3 = k * 3 + p by omega]
  exact flat_at l k p (by simpa using hk) hp
theorem one_cell (rs : List T) : ∀ v ∈ rs.flatMap rv,v.oneCell' = true := by
 intro v hv
 obtain ⟨r,_,h⟩ := List.mem_flatMap.1 hv
 unfold rv at h
 simp only [List.mem_cons,List.not_mem_nil,or_false] at h
 rcases h with rfl | rfl | rfl <;> rfl
theorem news_of {w : World} {b off : Nat} {rs : List T} (h : ∀ (k : Nat) (hk : k < rs.length),At w b (off + k * 3) rs[k]) (j : Nat) (u : Value) (hu : (rs.flatMap rv)[j]? = some u) : w.cell? ((⟨b,off,none⟩ : Addr).add j) = some u := by
 have hj : j < (rs.flatMap rv).length := by
  obtain ⟨hj,_⟩ := List.getElem?_eq_some_iff.1 hu
  exact hj
 rw [flat_len] at hj
 obtain ⟨k,p,rfl,hp⟩ : ∃ k p,j = k * 3 + p ∧ p < 3 := ⟨j / 3,j % 3,by omega,by omega⟩
 have hk : k < rs.length := by omega
 rw [flat_at rs k p hk hp] at hu
 have ha : (⟨b,off,none⟩ : Addr).add (k * 3 + p) = ⟨b,off + k * 3 + p,none⟩ := by
  unfold Addr.add
  split
  ·
   rename_i e
   simp only [Addr.mk.injEq,true_and,and_true]
   omega
  ·
   simp only [Addr.mk.injEq,true_and,and_true]
   omega
 rw [ha]
 obtain ⟨c0,c1,c2⟩ := h k hk
 have hp' : p = 0 ∨ p = 1 ∨ p = 2 := by omega
 unfold rv at hu
 rcases hp' with rfl | rfl | rfl
 all_goals simp at hu
 all_goals subst hu
 · exact c0
 · exact c1
 · exact c2
def Own (w : World) (B : Nat) (v : Value) (xs : List T) : Prop := w.ownsRow B 36 3 v xs.length (xs.flatMap rv)
theorem own_nil (w : World) (B : Nat) : Own w B (.slice none 0 0) [] := ⟨rfl,.inl ⟨rfl,rfl⟩⟩
theorem own_ls {w : World} {B : Nat} {v : Value} {xs : List T} (h : Own w B v xs) (hs : ∀ r ∈ xs,Short r) : ∃ ao cap,v = .slice ao xs.length cap ∧ Ls w ao xs.length cap xs ∧ (∀ ad,ao = some ad → ∃ g,ad = ⟨g,0,none⟩ ∧ B ≤ g) := by
 rcases h.2 with ⟨h',h2⟩ | ⟨g,cap,cur,h',hb,hg,hnc,hcm,hcs,htake⟩
 ·
  have e : xs = [] := List.length_eq_zero_iff.1 h2
  subst e
  exact ⟨none,0,h',⟨rfl,Nat.le_refl _,by omega,fun _ => rfl,.inl rfl,hs⟩,fun ad k => by cases k⟩
 ·
  refine ⟨some ⟨g,0,none⟩,cap,h',⟨rfl,hnc,hcm,fun k => (by cases k),.inr ⟨g,0,rfl,fun k hk => ?_⟩,hs⟩,fun ad k => by cases k; exact ⟨g,rfl,hb⟩⟩
  have hcell : ∀ p,p < 3 → w.cell? ⟨g,0 + k * 3 + p,none⟩ = (rv xs[k])[p]? := by
   intro p hp
   rw [Nat.zero_add,cell_of_row w g _ _ _ _ hg,← flat_at xs k p hk hp,← htake,List.getElem?_take_of_lt (by omega)]
   simp
  exact ⟨hcell 0 (by omega),hcell 1 (by omega),hcell 2 (by omega)⟩
def zero : T := ⟨0,0,.empty⟩
def zeroV : Value := .agg #[.int .i64 0,.int .i64 0,.string .empty]
theorem info : (Tryz.prog.info? 36).map (fun i => (i.zero,i.size,i.bytes)) = some (some zeroV,3,32) := by kernel_rfl
theorem wp_append {o : Oper} {a : Act} {K : Act → World → Prop} {Q : Exit → Act → World → Prop} (w : World) (s x : Operand)
  (ho : o.op = .call { callee := .builtin .append,args := #[s,x],argTypes := #[28,28] })
  (B : Nat) (v : Value) (xs : List T) (hs : a.eval s = v) (hown : Own w B v xs)
  (ao : Option Addr) (n cap : Nat) (zs : List T) (hx : a.eval x = .slice ao n cap) (hn : n = zs.length) (hnil : ao = none → cap = 0) (hsrc : Seg w ao zs) (hl : (xs.length + n) * 32 ≤ 140737488355328) (hb : B ≤ w.heap.size)
  (h : ∀ v' w1,Own w1 B v' (xs ++ zs) → w.grownBy w1 v.ownBlock → (v'.ownBlock = v.ownBlock ∨ v'.ownBlock = some w.heap.size) → K (a.put o.dst v') w1) : o.wp Tryz.prog a w K Q := by
 have hzs : zeroV.cells.size = 3 := rfl
 obtain ⟨i0,hi,hz0,hz1,hz2⟩ := info_parts info
 have hmx : maxLen = 9223372036854775807 := rfl
 have empty : zs = [] → n = 0 → Own w B v (xs ++ zs) := by
  intro e _
  rw [e,List.append_nil]
  exact hown
 cases ao with
 | none =>
  obtain rfl : cap = 0 := hnil rfl
  rcases hsrc with e | ⟨b,off,e,_⟩
  ·
   obtain rfl : n = 0 := by rw [hn,e]; rfl
   have hrun := run_append_owned_none (P := Tryz.prog) (w := w) B 28 o.type 36 i0 3 Tryz.underlying28 hi v _ _ hown
   unfold Oper.wp
   simp [execOp,ho,resolve,invoke,builtin,hs,hx,hrun,Result.andThen]
   exact h v w (empty e rfl) ⟨rfl,rfl,rfl,Nat.le_refl _,fun _ _ _ => rfl⟩ (.inl rfl)
  · cases e
 | some ad =>
  obtain ⟨v',w',hr,h2,h3,_,h5⟩ := run_append_own_at (P := Tryz.prog) w B 28 o.type 36 i0 zeroV 3 32 Tryz.underlying28 hi hz0 hz1 hz2 hzs (by omega) v xs.length (xs.flatMap rv) hown ad n cap (zs.flatMap rv) (by rw [flat_len,hn]) (by
   rcases hsrc with e | ⟨b,off,e,hc⟩
   ·
    rw [e]
    intro j u hu
    simp at hu
   ·
    cases e
    exact fun j u hu => news_of hc j u hu) (one_cell zs) (by omega) hl hb
  unfold Oper.wp execOp
  simp only [ho,resolve,invoke,builtin,Sem.run_bind,Sem.run_pure,Result.andThen_ok,List.map_toArray,List.map_cons,List.map_nil,hs,hx,hr]
  refine h v' w' ?_ h3 h5
  unfold Own
  rw [List.flatMap_append,List.length_append,← hn]
  exact h2
theorem wpList_append {ops : Array Oper} {rest : List Oper} {o : Oper} {a : Act} {Q : Exit → Act → World → Prop} (w : World) (hgd : o.guard = none) (s x : Operand)
  (ho : o.op = .call { callee := .builtin .append,args := #[s,x],argTypes := #[28,28] })
  (B : Nat) (v : Value) (xs : List T) (hs : a.eval s = v) (hown : Own w B v xs)
  (ao : Option Addr) (n cap : Nat) (zs : List T) (hx : a.eval x = .slice ao n cap) (hn : n = zs.length) (hnil : ao = none → cap = 0) (hsrc : Seg w ao zs) (hl : (xs.length + n) * 32 ≤ 140737488355328) (hb : B ≤ w.heap.size)
  (h : ∀ v' w1,Own w1 B v' (xs ++ zs) → w.grownBy w1 v.ownBlock → (v'.ownBlock = v.ownBlock ∨ v'.ownBlock = some w.heap.size) → wpList Tryz.prog ops Q rest (a.put o.dst v') w1) : wpList Tryz.prog ops Q (o :: rest) a w :=
 wpList_plain hgd fun _ hK => wp_append w s x ho B v xs hs hown ao n cap zs hx hn hnil hsrc hl hb fun v' w1 h1 h2 h3 => hK _ _ (h v' w1 h1 h2 h3)
theorem own_ge {w : World} {B : Nat} {v : Value} {xs : List T} (h : Own w B v xs) : ∀ k,v.ownBlock = some k → B ≤ k := by
 intro k hk
 rcases h.2 with ⟨h',_⟩ | ⟨g,cap,cur,h',hb,_⟩
 ·
  rw [h'] at hk
  cases hk
 ·
  rw [h'] at hk
  simp only [Value.ownBlock,Option.some.injEq] at hk
  omega
theorem own_mono {w : World} {B C : Nat} {v : Value} {xs : List T} (h : Own w B v xs) (hc : C ≤ B) : Own w C v xs := by
 obtain ⟨h1,h2⟩ := h
 refine ⟨h1,?_⟩
 rcases h2 with h2 | ⟨g,cap,cur,h',hb,h3⟩
 · exact .inl h2
 · exact .inr ⟨g,cap,cur,h',by omega,h3⟩
theorem own_empty {X : World} {B g : Nat} (hB : B ≤ g) (hg : X.heap[g]? = some (.cells #[] 36 (0,0))) : Own X B (.slice (some ⟨g,0,none⟩) 0 0) [] :=
 ⟨rfl,.inr ⟨g,0,#[],rfl,hB,hg,Nat.le_refl _,Nat.zero_le _,rfl,rfl⟩⟩
theorem own_alloc {w : World} {B : Nat} {v : Value} {xs : List T} (h : Own w B v xs) (o : Obj) : Own (w.alloc o) B v xs := World.ownsRow.alloc h o
theorem own_drew {w : World} {B : Nat} {v : Value} {M : List T} (h : Own w B v M) : Own w.drew B v M := h
theorem own_below {w u : World} {B : Nat} {v : Value} {xs : List T} (h : Own w B v xs) (k : Below w.heap.size w u) : Own u B v xs := by
 obtain ⟨h1,h2⟩ := h
 refine ⟨h1,?_⟩
 rcases h2 with h2 | ⟨g,cap,cur,h',hb,hg,h3⟩
 · exact .inl h2
 ·
  refine .inr ⟨g,cap,cur,h',hb,?_,h3⟩
  have hl : g < w.heap.size := by
   obtain ⟨hl,_⟩ := Array.getElem?_eq_some_iff.1 hg
   exact hl
  rw [k.block g hl]
  exact hg
def block (r : T) : Obj := .cells #[.int .i64 r.term,.int .i64 r.mem,.string r.data] 36 (0,0)
theorem seg_block {X : World} {g : Nat} {r : T} (h : X.heap[g]? = some (block r)) : Seg X (some ⟨g,0,none⟩) [r] := by
 refine .inr ⟨g,0,rfl,fun k hk => ?_⟩
 obtain rfl : k = 0 := by simpa using hk
 unfold block at h
 refine ⟨?_,?_,?_⟩
 all_goals rw [cell_of_row X g _ _ _ _ h]
 all_goals rfl
theorem step_append {ops : Array Oper} {o : Oper} {a : Act} {K : Act → World → Prop} {Q : Exit → Act → World → Prop} {E : Prop} (X x : World) (hX : Below x.heap.size x X) (hgd : o.guard = none) (s t : Operand)
  (ho : o.op = .call { callee := .builtin .append,args := #[s,t],argTypes := #[28,28] })
  (v : Value) (xs : List T) (hs : a.eval s = v) (hown : Own X x.heap.size v xs)
  (ao : Option Addr) (n cap : Nat) (zs : List T) (ht : a.eval t = .slice ao n cap) (hn : n = zs.length) (hnil : ao = none → cap = 0) (hsrc : Seg X ao zs) (hl : xs.length + n ≤ 100000)
  (h : ∀ v' w1,Own w1 x.heap.size v' (xs ++ zs) → X.grownBy w1 v.ownBlock → Below x.heap.size x w1 → K (a.put o.dst v') w1) :
  if Region.wanted o (yielded ops a.tmps) = true then Oper.wp Tryz.prog o a X K Q else E := by
 have hw : Region.wanted o (yielded ops a.tmps) = true := by simp [Region.wanted,hgd]
 rw [if_pos hw]
 exact wp_append X s t ho x.heap.size v xs hs hown ao n cap zs ht hn hnil hsrc (by omega) hX.size fun v' w1 h1 h2 _ => h v' w1 h1 h2 (hX.grown h2 hX.size (own_ge hown))
end Go.Proofs.YtlmjeackfepllaaGreatDoor.Et
namespace Go.Proofs.YtlmjeackfepllaaGreatDoor.Hd
open Go.RowKit
open Mem
structure At (u : World) (b o : Nat) (r : T) : Prop where
 c0 : u.cell? ⟨b,o,none⟩ = some (.int .i64 r.term)
 c1 : u.cell? ⟨b,o + 1,none⟩ = some (.int .i64 r.vote)
 c2 : u.cell? ⟨b,o + 2,none⟩ = some (.int .i64 r.base)
 c3 : u.cell? ⟨b,o + 3,none⟩ = some (.int .i64 r.bt)
 c4 : u.cell? ⟨b,o + 4,none⟩ = some (.int .i64 r.mem)
 c5 : u.cell? ⟨b,o + 5,none⟩ = some (.string r.snap)
 c6 : u.cell? ⟨b,o + 6,none⟩ = some (.slice r.log.ao r.log.n r.log.cap)
theorem At.below {u v : World} {b o : Nat} {r : T} (h : At u b o r) (k : Below u.heap.size u v) : At v b o r := by
 have hl := cell_lt h.c0
 exact ⟨by rw [(bcell k).1 _ _ hl]; exact h.c0,by rw [(bcell k).1 _ _ hl]; exact h.c1,by rw [(bcell k).1 _ _ hl]; exact h.c2,by rw [(bcell k).1 _ _ hl]; exact h.c3,by rw [(bcell k).1 _ _ hl]; exact h.c4,by rw [(bcell k).1 _ _ hl]; exact h.c5,by rw [(bcell k).1 _ _ hl]; exact h.c6⟩
def Seg (w : World) (ao : Option Addr) (rs : List T) : Prop := rs = [] ∨ ∃ b off,ao = some ⟨b,off,none⟩ ∧ ∀ (k : Nat) (hk : k < rs.length),At w b (off + k * 7) rs[k]
theorem Seg.below {w v : World} {ao : Option Addr} {rs : List T} (h : Seg w ao rs) (k : Below w.heap.size w v) : Seg v ao rs := by
 rcases h with h | ⟨b,off,e,h⟩
 · exact .inl h
 · exact .inr ⟨b,off,e,fun i hi => (h i hi).below k⟩
structure Ls (w : World) (ao : Option Addr) (n cap : Nat) (rs : List T) : Prop where
 len : n = rs.length
 fits : n ≤ cap
 reach : cap ≤ 9223372036854775807
 nil : ao = none → cap = 0
 seg : Seg w ao rs
 short : ∀ r ∈ rs,Short r
theorem Ls.below {w v : World} {ao : Option Addr} {n cap : Nat} {rs : List T} (h : Ls w ao n cap rs) (k : Below w.heap.size w v) : Ls v ao n cap rs :=
 ⟨h.len,h.fits,h.reach,h.nil,h.seg.below k,h.short⟩
theorem Ls.at {w : World} {ao : Option Addr} {n cap : Nat} {rs : List T} (h : Ls w ao n cap rs) (hn : 0 < n) : ∃ b off,ao = some ⟨b,off,none⟩ := by
 rcases h.seg with e | ⟨b,off,e,_⟩
 ·
  have := h.len
  rw [e] at this
  simp at this
  omega
 · exact ⟨b,off,e⟩
theorem Ls.row {w : World} {b off n cap : Nat} {rs : List T} (h : Ls w (some ⟨b,off,none⟩) n cap rs) (k : Nat) (hk : k < rs.length) : At w b (off + k * 7) rs[k] := by
 rcases h.seg with e | ⟨b',off',e,hs⟩
 ·
  subst e
  simp at hk
 ·
  cases e
  exact hs k hk
theorem ls_nil (w : World) : Ls w none 0 0 [] := ⟨rfl,Nat.le_refl _,by omega,fun _ => rfl,.inl rfl,by simp⟩
theorem und : Tryz.prog.underlying 58 = some (.slice (Tryz.prog.elem 58)) := by kernel_rfl
theorem size (u : World) : (sizeOf (Tryz.prog.elem 58)).run Tryz.prog u = .ok 7 u := by
 have h : (Tryz.prog.info? (Tryz.prog.elem 58)).map (·.size) = some 7 := by kernel_rfl
 obtain ⟨i,hi,hs⟩ := Option.map_eq_some_iff.1 h
 simp [sizeOf,typeInfo,hi,hs]
theorem Ls.to {w : World} {ao : Option Addr} {n cap : Nat} {rs : List T} (h : Ls w ao n cap rs) (k : Nat) (hk : k ≤ n) :
  (∀ u,(Instr.slice 58 (.slice ao n cap) none (some (.int .i64 (k : Int))) none).run Tryz.prog u = .ok (.slice ao k cap) u) ∧ Ls w ao k cap (rs.take k) := by
 have hl := h.len
 have hf := h.fits
 refine ⟨fun u => ?_,⟨by rw [List.length_take]; omega,by omega,h.reach,h.nil,?_,fun r hr => h.short r (List.mem_of_mem_take hr)⟩⟩
 ·
  rw [run_slice_h u 58 ao n cap und .i64 k (by omega) (by omega),size]
  have e : Option.map (fun x : Addr => x.add 0) ao = ao := by cases ao <;> simp [Addr.add]
  simp [Result.andThen,sliced,e]
 ·
  rcases h.seg with e | ⟨b,off,e,hc⟩
  · exact .inl (by rw [e]; simp)
  ·
   refine .inr ⟨b,off,e,fun j hj => ?_⟩
   rw [List.length_take] at hj
   rw [List.getElem_take]
   exact hc j (by omega)
theorem Ls.from {w : World} {ao : Option Addr} {n cap : Nat} {rs : List T} (h : Ls w ao n cap rs) (k : Nat) (hk : k ≤ n) :
  ∃ ao2 cap2,(∀ u,(Instr.slice 58 (.slice ao n cap) (some (.int .i64 (k : Int))) none none).run Tryz.prog u = .ok (.slice ao2 (n - k) cap2) u) ∧ Ls w ao2 (n - k) cap2 (rs.drop k) := by
 have hl := h.len
 have hf := h.fits
 refine ⟨if cap = k then ao else ao.map (·.add (k * 7)),cap - k,fun u => ?_,⟨by rw [List.length_drop]; omega,by omega,by have := h.reach; omega,?_,?_,fun r hr => h.short r (List.mem_of_mem_drop hr)⟩⟩
 ·
  rw [run_slice_l u 58 ao n cap und .i64 k (by omega) (by omega),size]
  simp [Result.andThen,sliced]
 ·
  by_cases e : cap = k
  · omega
  ·
   rw [if_neg e]
   cases ao with
   | none => have := h.nil rfl; omega
   | some a => exact fun k => by cases k
 ·
  by_cases hkn : k = n
  · exact .inl (List.drop_eq_nil_of_le (by omega))
  ·
   rcases h.seg with e | ⟨b,off,rfl,hc⟩
   · exact .inl (by rw [e]; simp)
   ·
    refine .inr ⟨b,off + k * 7,?_,fun j hj => ?_⟩
    ·
     rw [if_neg (by omega)]
     unfold Addr.add
     simp only [Option.map_some,Option.some.injEq]
     split
     ·
      rename_i e
      rw [e]
      rfl
     · rfl
    ·
     rw [List.length_drop] at hj
     rw [List.getElem_drop,show off + k * 7 + j * 7 = off + (k + j) * 7 by omega]
     exact hc (k + j) (by omega)
end Go.Proofs.YtlmjeackfepllaaGreatDoor.Hd
namespace Go.Proofs.YtlmjeackfepllaaGreatDoor.Hd
open Go.RowKit
open Mem
def rv (r : T) : List Value := [.int .i64 r.term,.int .i64 r.vote,.int .i64 r.base,.int .i64 r.bt,.int .i64 r.mem,.string r.snap,.slice r.log.ao r.log.n r.log.cap]
theorem rv_len (r : T) : (rv r).length = 7 := rfl
theorem flat_len : ∀ rs : List T,(rs.flatMap rv).length = rs.length * 7
 | [] => rfl
 | r :: l => by
  rw [List.flatMap_cons,List.length_append,rv_len,flat_len l,List.length_cons]
  omega
theorem flat_at : ∀ (rs : List T) (k p : Nat) (hk : k < rs.length),p < 7 → (rs.flatMap rv)[k * 7 + p]? = (rv rs[k])[p]?
 | r :: l,0,p,_,hp => by
  rw [List.flatMap_cons,List.getElem?_append_left (by rw [rv_len]; omega),Nat.zero_mul,Nat.zero_add]
  rfl
 | r :: l,k + 1,p,hk,hp => by
  rw [List.flatMap_cons,List.getElem?_append_right (by rw [rv_len]; omega),rv_len,show (k + 1) * 7 + p - 7 = k * 7 + p by omega]
  exact flat_at l k p (by simpa using hk) hp
theorem one_cell (rs : List T) : ∀ v ∈ rs.flatMap rv,v.oneCell' = true := by
 intro v hv
 obtain ⟨r,_,h⟩ := List.mem_flatMap.1 hv
 unfold rv at h
 simp only [List.mem_cons,List.not_mem_nil,or_false] at h
 rcases h with rfl | rfl | rfl | rfl | rfl | rfl | rfl <;> rfl
theorem news_of {w : World} {b off : Nat} {rs : List T} (h : ∀ (k : Nat) (hk : k < rs.length),At w b (off + k * 7) rs[k]) (j : Nat) (u : Value) (hu : (rs.flatMap rv)[j]? = some u) : w.cell? ((⟨b,off,none⟩ : Addr).add j) = some u := by
 have hj : j < (rs.flatMap rv).length := by
  obtain ⟨hj,_⟩ := List.getElem?_eq_some_iff.1 hu
  exact hj
 rw [flat_len] at hj
 obtain ⟨k,p,rfl,hp⟩ : ∃ k p,j = k * 7 + p ∧ p < 7 := ⟨j / 7,j % 7,by omega,by omega⟩
 have hk : k < rs.length := by omega
 rw [flat_at rs k p hk hp] at hu
 have ha : (⟨b,off,none⟩ : Addr).add (k * 7 + p) = ⟨b,off + k * 7 + p,none⟩ := by
  unfold Addr.add
  split
  ·
   rename_i e
   simp only [Addr.mk.injEq,true_and,and_true]
   omega
  ·
   simp only [Addr.mk.injEq,true_and,and_true]
   omega
 rw [ha]
 obtain ⟨c0,c1,c2,c3,c4,c5,c6⟩ := h k hk
 have hp' : p = 0 ∨ p = 1 ∨ p = 2 ∨ p = 3 ∨ p = 4 ∨ p = 5 ∨ p = 6 := by omega
 unfold rv at hu
 rcases hp' with rfl | rfl | rfl | rfl | rfl | rfl | rfl
 all_goals simp at hu
 all_goals subst hu
 · exact c0
 · exact c1
 · exact c2
 · exact c3
 · exact c4
 · exact c5
 · exact c6
def Own (w : World) (B : Nat) (v : Value) (xs : List T) : Prop := w.ownsRow B 30 7 v xs.length (xs.flatMap rv)
theorem own_nil (w : World) (B : Nat) : Own w B (.slice none 0 0) [] := ⟨rfl,.inl ⟨rfl,rfl⟩⟩
theorem own_ls {w : World} {B : Nat} {v : Value} {xs : List T} (h : Own w B v xs) (hs : ∀ r ∈ xs,Short r) : ∃ ao cap,v = .slice ao xs.length cap ∧ Ls w ao xs.length cap xs ∧ (∀ ad,ao = some ad → ∃ g,ad = ⟨g,0,none⟩ ∧ B ≤ g) := by
 rcases h.2 with ⟨h',h2⟩ | ⟨g,cap,cur,h',hb,hg,hnc,hcm,hcs,htake⟩
 ·
  have e : xs = [] := List.length_eq_zero_iff.1 h2
  subst e
  exact ⟨none,0,h',⟨rfl,Nat.le_refl _,by omega,fun _ => rfl,.inl rfl,hs⟩,fun ad k => by cases k⟩
 ·
  refine ⟨some ⟨g,0,none⟩,cap,h',⟨rfl,hnc,hcm,fun k => (by cases k),.inr ⟨g,0,rfl,fun k hk => ?_⟩,hs⟩,fun ad k => by cases k; exact ⟨g,rfl,hb⟩⟩
  have hcell : ∀ p,p < 7 → w.cell? ⟨g,0 + k * 7 + p,none⟩ = (rv xs[k])[p]? := by
   intro p hp
   rw [Nat.zero_add,cell_of_row w g _ _ _ _ hg,← flat_at xs k p hk hp,← htake,List.getElem?_take_of_lt (by omega)]
   simp
  exact ⟨hcell 0 (by omega),hcell 1 (by omega),hcell 2 (by omega),hcell 3 (by omega),hcell 4 (by omega),hcell 5 (by omega),hcell 6 (by omega)⟩
def zero : T := ⟨0,0,0,0,0,.empty,⟨none,0,0⟩⟩
def zeroV : Value := .agg #[.int .i64 0,.int .i64 0,.int .i64 0,.int .i64 0,.int .i64 0,.string .empty,.slice none 0 0]
theorem info : (Tryz.prog.info? 30).map (fun i => (i.zero,i.size,i.bytes)) = some (some zeroV,7,80) := by kernel_rfl
theorem wp_append {o : Oper} {a : Act} {K : Act → World → Prop} {Q : Exit → Act → World → Prop} (w : World) (s x : Operand)
  (ho : o.op = .call { callee := .builtin .append,args := #[s,x],argTypes := #[58,58] })
  (B : Nat) (v : Value) (xs : List T) (hs : a.eval s = v) (hown : Own w B v xs)
  (ao : Option Addr) (n cap : Nat) (zs : List T) (hx : a.eval x = .slice ao n cap) (hn : n = zs.length) (hnil : ao = none → cap = 0) (hsrc : Seg w ao zs) (hl : (xs.length + n) * 80 ≤ 140737488355328) (hb : B ≤ w.heap.size)
  (h : ∀ v' w1,Own w1 B v' (xs ++ zs) → w.grownBy w1 v.ownBlock → (v'.ownBlock = v.ownBlock ∨ v'.ownBlock = some w.heap.size) → K (a.put o.dst v') w1) : o.wp Tryz.prog a w K Q := by
 have hzs : zeroV.cells.size = 7 := rfl
 obtain ⟨i0,hi,hz0,hz1,hz2⟩ := info_parts info
 have hmx : maxLen = 9223372036854775807 := rfl
 have empty : zs = [] → n = 0 → Own w B v (xs ++ zs) := by
  intro e _
  rw [e,List.append_nil]
  exact hown
 cases ao with
 | none =>
  obtain rfl : cap = 0 := hnil rfl
  rcases hsrc with e | ⟨b,off,e,_⟩
  ·
   obtain rfl : n = 0 := by rw [hn,e]; rfl
   have hrun := run_append_owned_none (P := Tryz.prog) (w := w) B 58 o.type 30 i0 7 Tryz.underlying58 hi v _ _ hown
   unfold Oper.wp
   simp [execOp,ho,resolve,invoke,builtin,hs,hx,hrun,Result.andThen]
   exact h v w (empty e rfl) ⟨rfl,rfl,rfl,Nat.le_refl _,fun _ _ _ => rfl⟩ (.inl rfl)
  · cases e
 | some ad =>
  obtain ⟨v',w',hr,h2,h3,_,h5⟩ := run_append_own_at (P := Tryz.prog) w B 58 o.type 30 i0 zeroV 7 80 Tryz.underlying58 hi hz0 hz1 hz2 hzs (by omega) v xs.length (xs.flatMap rv) hown ad n cap (zs.flatMap rv) (by rw [flat_len,hn]) (by
   rcases hsrc with e | ⟨b,off,e,hc⟩
   ·
    rw [e]
    intro j u hu
    simp at hu
   ·
    cases e
    exact fun j u hu => news_of hc j u hu) (one_cell zs) (by omega) hl hb
  unfold Oper.wp execOp
  simp only [ho,resolve,invoke,builtin,Sem.run_bind,Sem.run_pure,Result.andThen_ok,List.map_toArray,List.map_cons,List.map_nil,hs,hx,hr]
  refine h v' w' ?_ h3 h5
  unfold Own
  rw [List.flatMap_append,List.length_append,← hn]
  exact h2
theorem wpList_append {ops : Array Oper} {rest : List Oper} {o : Oper} {a : Act} {Q : Exit → Act → World → Prop} (w : World) (hgd : o.guard = none) (s x : Operand)
  (ho : o.op = .call { callee := .builtin .append,args := #[s,x],argTypes := #[58,58] })
  (B : Nat) (v : Value) (xs : List T) (hs : a.eval s = v) (hown : Own w B v xs)
  (ao : Option Addr) (n cap : Nat) (zs : List T) (hx : a.eval x = .slice ao n cap) (hn : n = zs.length) (hnil : ao = none → cap = 0) (hsrc : Seg w ao zs) (hl : (xs.length + n) * 80 ≤ 140737488355328) (hb : B ≤ w.heap.size)
  (h : ∀ v' w1,Own w1 B v' (xs ++ zs) → w.grownBy w1 v.ownBlock → (v'.ownBlock = v.ownBlock ∨ v'.ownBlock = some w.heap.size) → wpList Tryz.prog ops Q rest (a.put o.dst v') w1) : wpList Tryz.prog ops Q (o :: rest) a w :=
 wpList_plain hgd fun _ hK => wp_append w s x ho B v xs hs hown ao n cap zs hx hn hnil hsrc hl hb fun v' w1 h1 h2 h3 => hK _ _ (h v' w1 h1 h2 h3)
theorem own_ge {w : World} {B : Nat} {v : Value} {xs : List T} (h : Own w B v xs) : ∀ k,v.ownBlock = some k → B ≤ k := by
 intro k hk
 rcases h.2 with ⟨h',_⟩ | ⟨g,cap,cur,h',hb,_⟩
 ·
  rw [h'] at hk
  cases hk
 ·
  rw [h'] at hk
  simp only [Value.ownBlock,Option.some.injEq] at hk
  omega
theorem own_mono {w : World} {B C : Nat} {v : Value} {xs : List T} (h : Own w B v xs) (hc : C ≤ B) : Own w C v xs := by
 obtain ⟨h1,h2⟩ := h
 refine ⟨h1,?_⟩
 rcases h2 with h2 | ⟨g,cap,cur,h',hb,h3⟩
 · exact .inl h2
 · exact .inr ⟨g,cap,cur,h',by omega,h3⟩
theorem own_empty {X : World} {B g : Nat} (hB : B ≤ g) (hg : X.heap[g]? = some (.cells #[] 30 (0,0))) : Own X B (.slice (some ⟨g,0,none⟩) 0 0) [] :=
 ⟨rfl,.inr ⟨g,0,#[],rfl,hB,hg,Nat.le_refl _,Nat.zero_le _,rfl,rfl⟩⟩
theorem own_alloc {w : World} {B : Nat} {v : Value} {xs : List T} (h : Own w B v xs) (o : Obj) : Own (w.alloc o) B v xs := World.ownsRow.alloc h o
theorem own_drew {w : World} {B : Nat} {v : Value} {M : List T} (h : Own w B v M) : Own w.drew B v M := h
theorem own_below {w u : World} {B : Nat} {v : Value} {xs : List T} (h : Own w B v xs) (k : Below w.heap.size w u) : Own u B v xs := by
 obtain ⟨h1,h2⟩ := h
 refine ⟨h1,?_⟩
 rcases h2 with h2 | ⟨g,cap,cur,h',hb,hg,h3⟩
 · exact .inl h2
 ·
  refine .inr ⟨g,cap,cur,h',hb,?_,h3⟩
  have hl : g < w.heap.size := by
   obtain ⟨hl,_⟩ := Array.getElem?_eq_some_iff.1 hg
   exact hl
  rw [k.block g hl]
  exact hg
def block (r : T) : Obj := .cells #[.int .i64 r.term,.int .i64 r.vote,.int .i64 r.base,.int .i64 r.bt,.int .i64 r.mem,.string r.snap,.slice r.log.ao r.log.n r.log.cap] 30 (0,0)
theorem seg_block {X : World} {g : Nat} {r : T} (h : X.heap[g]? = some (block r)) : Seg X (some ⟨g,0,none⟩) [r] := by
 refine .inr ⟨g,0,rfl,fun k hk => ?_⟩
 obtain rfl : k = 0 := by simpa using hk
 unfold block at h
 refine ⟨?_,?_,?_,?_,?_,?_,?_⟩
 all_goals rw [cell_of_row X g _ _ _ _ h]
 all_goals rfl
theorem step_append {ops : Array Oper} {o : Oper} {a : Act} {K : Act → World → Prop} {Q : Exit → Act → World → Prop} {E : Prop} (X x : World) (hX : Below x.heap.size x X) (hgd : o.guard = none) (s t : Operand)
  (ho : o.op = .call { callee := .builtin .append,args := #[s,t],argTypes := #[58,58] })
  (v : Value) (xs : List T) (hs : a.eval s = v) (hown : Own X x.heap.size v xs)
  (ao : Option Addr) (n cap : Nat) (zs : List T) (ht : a.eval t = .slice ao n cap) (hn : n = zs.length) (hnil : ao = none → cap = 0) (hsrc : Seg X ao zs) (hl : xs.length + n ≤ 100000)
  (h : ∀ v' w1,Own w1 x.heap.size v' (xs ++ zs) → X.grownBy w1 v.ownBlock → Below x.heap.size x w1 → K (a.put o.dst v') w1) :
  if Region.wanted o (yielded ops a.tmps) = true then Oper.wp Tryz.prog o a X K Q else E := by
 have hw : Region.wanted o (yielded ops a.tmps) = true := by simp [Region.wanted,hgd]
 rw [if_pos hw]
 exact wp_append X s t ho x.heap.size v xs hs hown ao n cap zs ht hn hnil hsrc (by omega) hX.size fun v' w1 h1 h2 _ => h v' w1 h1 h2 (hX.grown h2 hX.size (own_ge hown))
end Go.Proofs.YtlmjeackfepllaaGreatDoor.Hd
namespace Go.Proofs.YtlmjeackfepllaaGreatDoor.Hd
open Go.RowKit
open Mem
def Block (w : World) (g : Nat) (ts : List T) : Prop := w.heap[g]? = some (.cells (ts.flatMap rv).toArray 30 (0,0))
theorem Block.lt {w : World} {g : Nat} {ts : List T} (h : Block w g ts) : g < w.heap.size := by
 obtain ⟨hg,_⟩ := Array.getElem?_eq_some_iff.1 h
 exact hg
theorem Block.below {w u : World} {g : Nat} {ts : List T} (h : Block w g ts) (k : Below w.heap.size w u) : Block u g ts := (k.block g h.lt).trans h
theorem Block.row {w : World} {g : Nat} {ts : List T} (h : Block w g ts) (k : Nat) (hk : k < ts.length) : At w g (k * 7) ts[k] := by
 have hcell : ∀ p,p < 7 → w.cell? ⟨g,k * 7 + p,none⟩ = (rv ts[k])[p]? := by
  intro p hp
  rw [cell_of_row w g _ _ _ _ h,← flat_at ts k p hk hp]
  simp
 exact ⟨hcell 0 (by omega),hcell 1 (by omega),hcell 2 (by omega),hcell 3 (by omega),hcell 4 (by omega),hcell 5 (by omega),hcell 6 (by omega)⟩
theorem Block.frozen {w : World} {g : Nat} {ts : List T} (h : Block w g ts) (k : Nat) : w.frozen? ⟨g,k,none⟩ = false := frozen_of_row w g k _ _ h
theorem Block.ls {w : World} {g : Nat} {ts zs : List T} (h : Block w g (ts ++ zs)) (n cap : Nat) (hn : n = ts.length) (hc : n ≤ cap) (hm : cap ≤ 9223372036854775807) (hs : ∀ r ∈ ts,Short r) : Ls w (some ⟨g,0,none⟩) n cap ts := by
 refine ⟨hn,hc,hm,(fun k => by cases k),.inr ⟨g,0,rfl,fun k hk => ?_⟩,hs⟩
 have hr := h.row k (by rw [List.length_append]; omega)
 rw [List.getElem_append_left hk] at hr
 rw [Nat.zero_add]
 exact hr
def zeros (n : Nat) : Array Value := ((List.replicate n zero).flatMap rv).toArray
theorem sizeZ : (Tryz.prog.info? 30).map (·.size) = some 7 := by kernel_rfl
theorem made (n : Nat) : madeCells zeroV.cells (n * 7) = zeros n := by
 apply Array.ext_getElem?
 intro j
 by_cases hj : j < n * 7
 ·
  obtain ⟨k,p,rfl,hp⟩ : ∃ k p,j = k * 7 + p ∧ p < 7 := ⟨j / 7,j % 7,by omega,by omega⟩
  have hk : k < n := by omega
  have hz : (zeros n)[k * 7 + p]? = (rv zero)[p]? := by
   unfold zeros
   rw [List.getElem?_toArray,flat_at (List.replicate n zero) k p (by simpa using hk) hp,List.getElem_replicate]
  rw [hz]
  have e : (k * 7 + p) % 7 = p := by omega
  have hp' : p = 0 ∨ p = 1 ∨ p = 2 ∨ p = 3 ∨ p = 4 ∨ p = 5 ∨ p = 6 := by omega
  unfold madeCells
  rw [Array.getElem?_map,Array.getElem?_range,if_pos hj]
  simp only [Option.map_some]
  rw [show zeroV.cells.size = 7 from rfl,e]
  rcases hp' with rfl | rfl | rfl | rfl | rfl | rfl | rfl <;> rfl
 ·
  rw [Array.getElem?_eq_none (by rw [size_madeCells]; omega),Array.getElem?_eq_none]
  unfold zeros
  rw [List.size_toArray,flat_len,List.length_replicate]
  omega
theorem make (n : Nat) (hn : n ≤ 100000) (u : World) : (Instr.makeSlice 58 (.int .i64 (n : Int)) (.int .i64 (n : Int))).run Tryz.prog u =
  .ok (.slice (some ⟨u.heap.size,0,none⟩) n n) (u.alloc (.cells (zeros n) 30)) := by
 obtain ⟨i0,hi,hz0,hz1,hz2⟩ := info_parts info
 have h := run_make (P := Tryz.prog) u 58 30 i0 zeroV Tryz.underlying58 hi hz0 .i64 .i64 (n : Int) (n : Int) (by omega) (Int.le_refl _) (by rw [hz2]; omega) (by omega)
 rw [hz1,Int.toNat_natCast,made] at h
 exact h
theorem block_made (u : World) (n : Nat) : Block (u.alloc (.cells (zeros n) 30)) u.heap.size (List.replicate n zero) := heap_alloc_new u _
theorem copy (u : World) (g : Nat) (ts : List T) (dCap : Nat) (ao : Option Addr) (n cap : Nat) (rs : List T) (hb : Block u g (List.replicate n zero ++ ts)) (hn : n = rs.length) (hs : Seg u ao rs) :
  ∃ u',(Builtin.copy_ #[58,58] 3 #[.slice (some ⟨g,0,none⟩) (n + ts.length) dCap,.slice ao n cap]).run Tryz.prog u = .ok (goInt n) u' ∧ Block u' g (rs ++ ts) ∧ (∀ B w0,Below B w0 u → B ≤ g → Below B w0 u') ∧ u'.heap.size = u.heap.size := by
 obtain ⟨i0,hi,hiK⟩ := Option.map_eq_some_iff.1 sizeZ
 have hmin : Nat.min n (n + ts.length) = n := Nat.min_eq_left (by omega)
 rcases hs with e | ⟨b,off,rfl,hc⟩
 ·
  subst e
  obtain rfl : n = 0 := hn
  refine ⟨u,?_,by simpa using hb,fun _ _ h _ => h,rfl⟩
  have hl : ∀ (x : Addr),(loadCells x 0).run Tryz.prog u = .ok #[] u := fun x => by simpa using run_loadCells_list (P := Tryz.prog) u x [] (by simp)
  cases ao <;> simp [Builtin.copy_,run_underlying Tryz.underlying58,Builtin.lenOf,Builtin.firstCells,sizeOf,typeInfo,hi,storeCells,hl]
 ·
  have hl := run_loadCells_list (P := Tryz.prog) u ⟨b,off,none⟩ (rs.flatMap rv) (fun j v hv => news_of hc j v hv)
  have hst := run_storeCells_at Tryz.prog g 0 30 (rs.flatMap rv) 0 _ u hb (by rw [List.size_toArray,flat_len,flat_len,List.length_append,List.length_replicate]; omega) (one_cell rs)
  have hlen : (rs.flatMap rv).length = n * 7 := by rw [flat_len,hn]
  have e : (((List.replicate n zero ++ ts).flatMap rv).toArray.toList.take (0 + 0) ++ rs.flatMap rv ++ ((List.replicate n zero ++ ts).flatMap rv).toArray.toList.drop (0 + 0 + (rs.flatMap rv).length)) = (rs ++ ts).flatMap rv := by
   rw [List.toList_toArray,List.take_zero,List.nil_append,Nat.zero_add,hlen,List.flatMap_append,List.flatMap_append,List.drop_left' (by rw [flat_len,List.length_replicate])]
  rw [e] at hst
  refine ⟨u.setRow g ((rs ++ ts).flatMap rv).toArray,?_,setRow_heap u g _ _ 30 _ hb,fun B w0 h hB => below_setRow h hB _,by simp [World.setRow]⟩
  rw [hlen] at hl
  simp [Builtin.copy_,run_underlying Tryz.underlying58,Builtin.lenOf,Builtin.firstCells,sizeOf,typeInfo,hi,hiK,hmin,hl,hst]
theorem set_right {a : T} (X : List Value) (k p : Nat) (v : Value) : (rv a ++ X).set ((k + 1) * 7 + p) v = rv a ++ X.set (k * 7 + p) v := by
 rw [List.set_append_right _ _ (by rw [rv_len]; omega),rv_len,show (k + 1) * 7 + p - 7 = k * 7 + p by omega]
theorem flat_set : ∀ (ts : List T) (k : Nat) (r : T),k < ts.length → (ts.set k r).flatMap rv = ((((((((ts.flatMap rv).set (k * 7) (.int .i64 r.term)).set (k * 7 + 1) (.int .i64 r.vote)).set (k * 7 + 2) (.int .i64 r.base)).set (k * 7 + 3) (.int .i64 r.bt)).set (k * 7 + 4) (.int .i64 r.mem)).set (k * 7 + 5) (.string r.snap)).set (k * 7 + 6) (.slice r.log.ao r.log.n r.log.cap)) := by
 intro ts
 induction ts with
 | nil =>
  intro k r h
  simp at h
 | cons a l ih =>
 intro k r h
 cases k with
 | zero =>
  rw [List.set_cons_zero,List.flatMap_cons,List.flatMap_cons]
  simp only [rv,Nat.zero_mul,Nat.zero_add,List.cons_append,List.nil_append,List.set_cons_zero,List.set_cons_succ]
 | succ k =>
  have ih := ih k r (by simpa using h)
  have e0 := fun (X : List Value) (v : Value) => set_right (a := a) X k 0 v
  simp only [Nat.add_zero] at e0
  rw [List.set_cons_succ,List.flatMap_cons,ih,List.flatMap_cons,e0,set_right,set_right,set_right,set_right,set_right,set_right]
theorem Block.store {w : World} {g : Nat} {ts : List T} (h : Block w g ts) (k : Nat) (hk : k < ts.length) (r : T) :
  Block (((((((w.setCell ⟨g,k * 7,none⟩ (.int .i64 r.term)).setCell ⟨g,k * 7 + 1,none⟩ (.int .i64 r.vote)).setCell ⟨g,k * 7 + 2,none⟩ (.int .i64 r.base)).setCell ⟨g,k * 7 + 3,none⟩ (.int .i64 r.bt)).setCell ⟨g,k * 7 + 4,none⟩ (.int .i64 r.mem)).setCell ⟨g,k * 7 + 5,none⟩ (.string r.snap)).setCell ⟨g,k * 7 + 6,none⟩ (.slice r.log.ao r.log.n r.log.cap)) g (ts.set k r) := by
 have h1 := heap_setCell_same _ g (k * 7) _ _ (.int .i64 r.term) h
 have h2 := heap_setCell_same _ g (k * 7 + 1) _ _ (.int .i64 r.vote) h1
 have h3 := heap_setCell_same _ g (k * 7 + 2) _ _ (.int .i64 r.base) h2
 have h4 := heap_setCell_same _ g (k * 7 + 3) _ _ (.int .i64 r.bt) h3
 have h5 := heap_setCell_same _ g (k * 7 + 4) _ _ (.int .i64 r.mem) h4
 have h6 := heap_setCell_same _ g (k * 7 + 5) _ _ (.string r.snap) h5
 have h7 := heap_setCell_same _ g (k * 7 + 6) _ _ (.slice r.log.ao r.log.n r.log.cap) h6
 unfold Block
 rw [h7,flat_set ts k r hk]
 simp only [List.setIfInBounds_toArray]
theorem below_store {B g : Nat} {w0 w : World} (h : Below B w0 w) (hg : B ≤ g) (k : Nat) (x0 x1 x2 x3 x4 x5 x6 : Value) :
  Below B w0 (((((((w.setCell ⟨g,k * 7,none⟩ x0).setCell ⟨g,k * 7 + 1,none⟩ x1).setCell ⟨g,k * 7 + 2,none⟩ x2).setCell ⟨g,k * 7 + 3,none⟩ x3).setCell ⟨g,k * 7 + 4,none⟩ x4).setCell ⟨g,k * 7 + 5,none⟩ x5).setCell ⟨g,k * 7 + 6,none⟩ x6) :=
 (((((((h.setCell hg x0).setCell hg x1).setCell hg x2).setCell hg x3).setCell hg x4).setCell hg x5).setCell hg x6)
theorem own_store {w : World} {B g n cap : Nat} {M : List T} (h : Own w B (.slice (some ⟨g,0,none⟩) n cap) M) (k : Nat) (hk : k < M.length) (r : T) :
  Own (((((((w.setCell ⟨g,k * 7,none⟩ (.int .i64 r.term)).setCell ⟨g,k * 7 + 1,none⟩ (.int .i64 r.vote)).setCell ⟨g,k * 7 + 2,none⟩ (.int .i64 r.base)).setCell ⟨g,k * 7 + 3,none⟩ (.int .i64 r.bt)).setCell ⟨g,k * 7 + 4,none⟩ (.int .i64 r.mem)).setCell ⟨g,k * 7 + 5,none⟩ (.string r.snap)).setCell ⟨g,k * 7 + 6,none⟩ (.slice r.log.ao r.log.n r.log.cap)) B (.slice (some ⟨g,0,none⟩) n cap) (M.set k r) := by
 rcases h.2 with ⟨h',_⟩ | ⟨g',cap',cur,h',hb,hg,hnc,hcm,hcs,htake⟩
 · cases h'
 ·
  simp only [Value.slice.injEq,Option.some.injEq,Addr.mk.injEq,and_true] at h'
  obtain ⟨e1,e2,e3⟩ := h'
  subst e1 e3
  have h1 := heap_setCell_same _ g (k * 7) _ _ (.int .i64 r.term) hg
  have h2 := heap_setCell_same _ g (k * 7 + 1) _ _ (.int .i64 r.vote) h1
  have h3 := heap_setCell_same _ g (k * 7 + 2) _ _ (.int .i64 r.base) h2
  have h4 := heap_setCell_same _ g (k * 7 + 3) _ _ (.int .i64 r.bt) h3
  have h5 := heap_setCell_same _ g (k * 7 + 4) _ _ (.int .i64 r.mem) h4
  have h6 := heap_setCell_same _ g (k * 7 + 5) _ _ (.string r.snap) h5
  have h7 := heap_setCell_same _ g (k * 7 + 6) _ _ (.slice r.log.ao r.log.n r.log.cap) h6
  refine ⟨by rw [flat_len],.inr ⟨g,cap,_,by rw [List.length_set,e2],hb,h7,by rw [List.length_set]; exact hnc,hcm,by simpa using hcs,?_⟩⟩
  rw [List.length_set,flat_set M k r hk]
  simp only [Array.toList_setIfInBounds]
  rw [← htake]
  simp only [List.take_set]
theorem own_at {w : World} {B g n cap : Nat} {M : List T} (h : Own w B (.slice (some ⟨g,0,none⟩) n cap) M) (k : Nat) (hk : k < M.length) : At w g (k * 7) M[k] ∧ (∀ o,w.frozen? ⟨g,o,none⟩ = false) ∧ B ≤ g := by
 rcases h.2 with ⟨h',_⟩ | ⟨g',cap',cur,h',hb,hg,hnc,hcm,hcs,htake⟩
 · cases h'
 ·
  simp only [Value.slice.injEq,Option.some.injEq,Addr.mk.injEq,and_true] at h'
  obtain ⟨e1,e2,e3⟩ := h'
  subst e1 e3
  have hcell : ∀ p,p < 7 → w.cell? ⟨g,k * 7 + p,none⟩ = (rv M[k])[p]? := by
   intro p hp
   rw [cell_of_row w g _ _ _ _ hg,← flat_at M k p hk hp,← htake,List.getElem?_take_of_lt (by omega)]
   simp
  exact ⟨⟨hcell 0 (by omega),hcell 1 (by omega),hcell 2 (by omega),hcell 3 (by omega),hcell 4 (by omega),hcell 5 (by omega),hcell 6 (by omega)⟩,fun o => frozen_of_row w g o _ _ hg,hb⟩
theorem flat_put (r : T) (p : Nat) (x : Value) (hp : p < 7) : ∀ (M : List T) (k : Nat) (hk : k < M.length),rv r = (rv M[k]).set p x → (M.set k r).flatMap rv = (M.flatMap rv).set (k * 7 + p) x
 | a :: l,0,_,h => by
  have h' : rv r = (rv a).set p x := h
  rw [List.set_cons_zero,List.flatMap_cons,List.flatMap_cons,Nat.zero_mul,Nat.zero_add,List.set_append_left _ _ (by rw [rv_len]; exact hp),h']
 | a :: l,k + 1,hk,h => by
  have ih := flat_put r p x hp l k (by simpa using hk) (by simpa using h)
  rw [List.set_cons_succ,List.flatMap_cons,List.flatMap_cons,List.set_append_right _ _ (by rw [rv_len]; omega),rv_len,show (k + 1) * 7 + p - 7 = k * 7 + p by omega,ih]
theorem own_put {w : World} {B g n cap : Nat} {M : List T} (h : Own w B (.slice (some ⟨g,0,none⟩) n cap) M) (k p : Nat) (hk : k < M.length) (hp : p < 7) (x : Value) (r : T) (hr : rv r = (rv M[k]).set p x) :
  Own (w.setCell ⟨g,k * 7 + p,none⟩ x) B (.slice (some ⟨g,0,none⟩) n cap) (M.set k r) := by
 rcases h.2 with ⟨h',_⟩ | ⟨g',cap',cur,h',hb,hg,hnc,hcm,hcs,htake⟩
 · cases h'
 ·
  simp only [Value.slice.injEq,Option.some.injEq,Addr.mk.injEq,and_true] at h'
  obtain ⟨e1,e2,e3⟩ := h'
  subst e1 e3
  have h1 := heap_setCell_same _ g (k * 7 + p) _ _ x hg
  refine ⟨by rw [flat_len],.inr ⟨g,cap,_,by rw [List.length_set,e2],hb,h1,by rw [List.length_set]; exact hnc,hcm,by simpa using hcs,?_⟩⟩
  rw [List.length_set,flat_put r p x hp M k hk hr]
  simp only [Array.toList_setIfInBounds]
  rw [← htake]
  simp only [List.take_set]
theorem own_of_block {w : World} {B g n : Nat} {M : List T} (h : Block w g M) (hB : B ≤ g) (hn : n = M.length) (hm : n ≤ 100000) : Own w B (.slice (some ⟨g,0,none⟩) n n) M := by
 subst hn
 exact ⟨by rw [flat_len],.inr ⟨g,M.length,_,rfl,hB,h,Nat.le_refl _,by have : maxLen = 9223372036854775807 := rfl; omega,by rw [List.size_toArray,flat_len],List.take_of_length_le (by show (M.flatMap rv).length ≤ _; rw [flat_len]; exact Nat.le_refl _)⟩⟩
theorem own_far {w : World} {B : Nat} {v : Value} {M : List T} (h : Own w B v M) {b : Nat} (hne : b < B) (o : Nat) (x : Value) : Own (w.setCell ⟨b,o,none⟩ x) B v M := by
 obtain ⟨h1,h2⟩ := h
 refine ⟨h1,?_⟩
 rcases h2 with h2 | ⟨g,cap,cur,h',hb,hg,h3⟩
 · exact .inl h2
 · exact .inr ⟨g,cap,cur,h',hb,by rw [heap_setCell_other w ⟨b,o,none⟩ g x (by show g ≠ b; omega)]; exact hg,h3⟩
theorem make_cap (n : Nat) (hn : n ≤ 1000) (u : World) : (Instr.makeSlice 58 (.int .i64 0) (.int .i64 ((n : Int) + 1))).run Tryz.prog u =
  .ok (.slice (some ⟨u.heap.size,0,none⟩) 0 (n + 1)) (u.alloc (.cells (zeros (n + 1)) 30)) := by
 obtain ⟨i0,hi,hz0,hz1,hz2⟩ := info_parts info
 have h := run_make (P := Tryz.prog) u 58 30 i0 zeroV Tryz.underlying58 hi hz0 .i64 .i64 0 ((n : Int) + 1) (by omega) (by omega) (by rw [hz2]; omega) (by omega)
 rw [hz1,show ((n : Int) + 1).toNat = n + 1 from by omega,made] at h
 exact h
theorem own_cap (u : World) (B c : Nat) (hB : B ≤ u.heap.size) (hc : c ≤ 1000) : Own (u.alloc (.cells (zeros c) 30)) B (.slice (some ⟨u.heap.size,0,none⟩) 0 c) [] :=
 ⟨rfl,.inr ⟨u.heap.size,c,zeros c,rfl,hB,heap_alloc_new u _,Nat.zero_le _,by have : maxLen = 9223372036854775807 := rfl; omega,by unfold zeros; rw [List.size_toArray,flat_len,List.length_replicate],rfl⟩⟩
end Go.Proofs.YtlmjeackfepllaaGreatDoor.Hd
set_option maxRecDepth 100000
set_option linter.unusedVariables false
namespace Go.Proofs.YtlmjeackfepllaaGreatDoor
open Go.RowKit
open Mem
def Hd.with (r : Hd.T) (s : Sl) : Hd.T := ⟨r.term,r.vote,r.base,r.bt,r.mem,r.snap,s⟩
theorem Hd.block_box (w : World) (r : Hd.T) : Hd.Block (Hd.box w r) w.heap.size [r] := heap_alloc_new w _
theorem Hd.Block.log {w : World} {g : Nat} {r : Hd.T} (h : Hd.Block w g [r]) (s : Sl) : Hd.Block (w.setCell ⟨g,6,none⟩ (.slice s.ao s.n s.cap)) g [Hd.with r s] := (heap_setCell_same w g 6 _ _ _ h).trans rfl
theorem Hd.Block.cells {w : World} {g : Nat} {r : Hd.T} (h : Hd.Block w g [r]) : Hd.C w g r := by
 obtain ⟨c0,c1,c2,c3,c4,c5,c6⟩ := h.row 0 (by simp)
 exact ⟨c0,c1,c2,c3,c4,c5,c6⟩
theorem Hd.cell_same {w u : World} {b : Nat} (h : u.heap[b]? = w.heap[b]?) (o : Nat) : u.cell? ⟨b,o,none⟩ = w.cell? ⟨b,o,none⟩ := by
 simp [World.cell?,h]
theorem Wl.headed_base {h : Wl.H} (k : Wl.headed h = true) : 0 ≤ h.base ∧ h.base ≤ 1099511627776 := by
 unfold Wl.headed Wl.within Wl.top at k
 simp only [Bool.and_eq_true,decide_eq_true_eq] at k
 exact k.2.2.1
theorem Wl.more_step (h : Wl.H) (l : List Et.T) (k : Nat) (hk : k < l.length) : Wl.more (h.with (l.take k)) (l.drop k) = (Wl.fits (h.with (l.take k)) l[k] && Wl.more (h.with (l.take (k + 1))) (l.drop (k + 1))) := by
 rw [List.drop_eq_getElem_cons hk,Wl.more,List.take_succ_eq_append_getElem hk]
 rfl
set_option maxHeartbeats 4000000 in
theorem wl_right (r : Hd.T) (l : List Et.T) (w : World) (hl : Et.Ls w r.log.ao r.log.n r.log.cap l) (hz : r.snap.size ≤ 140737488355328) :
  Calls Tryz.prog 19 #[Hd.val r] w fun e w' => e = .returned (.bool (Wl.right (Hd.h r l))) ∧ Below w.heap.size w w' := by
 obtain ⟨⟨ao,n,cap⟩,hlog⟩ : ∃ s,r.log = s := ⟨_,rfl⟩
 rw [hlog] at hl
 dsimp only at hl
 have HL := Lib.hid hl
 have hr1 := hl.fits
 have hr2 := hl.reach
 have HN := Lib.hid hl.len
 obtain ⟨W,hW,hbW,hC⟩ := Hd.boxed1 w r
 have HBW := Lib.hid hbW
 have HBk : Hid (Hd.Block W w.heap.size [r]) := Lib.hid (hW ▸ Hd.block_box w r)
 have HR : Hid (Wl.right (Hd.h r l) = (Wl.headed (Hd.h r l) && ((((r.snap.toList == []) == (r.base == 0)) && decide ((r.snap.size : Int) ≤ 65536)) && Wl.more ((Hd.h r l).with []) l))) := Lib.hid (by
  unfold Wl.right Wl.snapOk
  have e3 : decide (r.snap.size = 0) = (r.snap.toList == []) := by
   have := txt_len r.snap
   rw [tl,Bool.eq_iff_iff,decide_eq_true_iff,beq_iff_eq,← List.length_eq_zero_iff,this]
  have e2 : decide (r.snap.size ≤ 65536) = decide ((r.snap.size : Int) ≤ 65536) := by rw [decide_eq_decide]; omega
  rw [show (Hd.h r l).snap = r.snap from rfl,e3,e2]
  rfl)
 have HD : Hid (∀ s,Hd.h (Hd.with r s) = Hd.h r) := Lib.hid fun s => rfl
 have cH := wl_headed r l W
 unfold Hd.val at cH
 unfold Hd.C at hC
 rw [hlog] at cH hW hC
 dsimp only at cH hW hC
 obtain ⟨a0,a1,a2,a3,a4,a5,a6⟩ := hC
 clear hl hbW
 unfold Hd.val
 rw [hlog]
 dsimp only
 have HLg := Lib.hid hlog
 clear hlog
 cases q1 : Wl.headed (Hd.h r l)
 ·
  rw [q1] at cH
  rw [q1,Bool.false_and] at HR
  go_enter Tryz.func19,Tryz.ntmps19
  go_wp2_with (go_at_call 57; refine cH.mono ?_; rintro e w1 ⟨rfl,b1⟩; have HB1 := Lib.hid (bchain HBW.out b1); clear b1 a0 a1 a2 a3 a4 a5 a6 cH)
  go_ret
  exact ⟨ret_bool HR.out.symm,HB1.out⟩
 have HQ := Lib.hid (Wl.headed_base q1)
 rw [q1] at cH
 rw [q1,Bool.true_and] at HR
 cases q2 : ((r.snap.toList == []) == (r.base == 0))
 ·
  rw [q2,Bool.false_and,Bool.false_and] at HR
  have p2 : (r.base == 0) = !(r.snap.toList == []) := by
   revert q2
   cases (r.snap.toList == []) <;> cases (r.base == 0) <;> decide
  clear q2
  go_enter Tryz.func19,Tryz.ntmps19
  cases p1 : (r.snap.toList == [])
  ·
   rw [p1] at p2
   try rw [Bool.not_false] at p2
   try rw [Bool.not_true] at p2
   go_wp2_with (go_at_call 57; refine cH.mono ?_; rintro e w1 ⟨rfl,b1⟩; have HB1 := Lib.hid (bchain HBW.out b1); have HK1 := Lib.hid (HBk.out.below b1); have a5' := ((bcell b1).1 _ _ (cell_lt a5)).trans a5; have a2' := ((bcell b1).1 _ _ (cell_lt a2)).trans a2; have a6' := ((bcell b1).1 _ _ (cell_lt a6)).trans a6; clear b1 a0 a1 a2 a3 a4 a5 a6 cH)
   go_ret
   exact ⟨ret_bool HR.out.symm,HB1.out⟩
  ·
   rw [p1] at p2
   try rw [Bool.not_false] at p2
   try rw [Bool.not_true] at p2
   go_wp2_with (go_at_call 57; refine cH.mono ?_; rintro e w1 ⟨rfl,b1⟩; have HB1 := Lib.hid (bchain HBW.out b1); have HK1 := Lib.hid (HBk.out.below b1); have a5' := ((bcell b1).1 _ _ (cell_lt a5)).trans a5; have a2' := ((bcell b1).1 _ _ (cell_lt a2)).trans a2; have a6' := ((bcell b1).1 _ _ (cell_lt a6)).trans a6; clear b1 a0 a1 a2 a3 a4 a5 a6 cH)
   go_ret
   exact ⟨ret_bool HR.out.symm,HB1.out⟩
 rw [q2,Bool.true_and] at HR
 by_cases h3 : (65536 : Int) < (r.snap.size : Int)
 ·
  rw [decide_eq_false (by omega),Bool.false_and] at HR
  have p2 : (r.base == 0) = (r.snap.toList == []) := by
   revert q2
   cases (r.snap.toList == []) <;> cases (r.base == 0) <;> decide
  clear q2
  go_enter Tryz.func19,Tryz.ntmps19
  cases p1 : (r.snap.toList == [])
  ·
   rw [p1] at p2
   try rw [Bool.not_false] at p2
   try rw [Bool.not_true] at p2
   go_wp2_with (go_at_call 57; refine cH.mono ?_; rintro e w1 ⟨rfl,b1⟩; have HB1 := Lib.hid (bchain HBW.out b1); have HK1 := Lib.hid (HBk.out.below b1); have a5' := ((bcell b1).1 _ _ (cell_lt a5)).trans a5; have a2' := ((bcell b1).1 _ _ (cell_lt a2)).trans a2; have a6' := ((bcell b1).1 _ _ (cell_lt a6)).trans a6; clear b1 a0 a1 a2 a3 a4 a5 a6 cH)
   go_ret
   exact ⟨ret_bool HR.out.symm,HB1.out⟩
  ·
   rw [p1] at p2
   try rw [Bool.not_false] at p2
   try rw [Bool.not_true] at p2
   go_wp2_with (go_at_call 57; refine cH.mono ?_; rintro e w1 ⟨rfl,b1⟩; have HB1 := Lib.hid (bchain HBW.out b1); have HK1 := Lib.hid (HBk.out.below b1); have a5' := ((bcell b1).1 _ _ (cell_lt a5)).trans a5; have a2' := ((bcell b1).1 _ _ (cell_lt a2)).trans a2; have a6' := ((bcell b1).1 _ _ (cell_lt a6)).trans a6; clear b1 a0 a1 a2 a3 a4 a5 a6 cH)
   go_ret
   exact ⟨ret_bool HR.out.symm,HB1.out⟩
 rw [decide_eq_true (by omega),Bool.true_and] at HR
 have p2 : (r.base == 0) = (r.snap.toList == []) := by
  revert q2
  cases (r.snap.toList == []) <;> cases (r.base == 0) <;> decide
 clear q2
 go_enter Tryz.func19,Tryz.ntmps19
 cases p1 : (r.snap.toList == [])
 ·
  rw [p1] at p2
  try rw [Bool.not_false] at p2
  try rw [Bool.not_true] at p2
  go_wp2_with (go_at_call 57; refine cH.mono ?_; rintro e w1 ⟨rfl,b1⟩; have HB1 := Lib.hid (bchain HBW.out b1); have HK1 := Lib.hid (HBk.out.below b1); have a5' := ((bcell b1).1 _ _ (cell_lt a5)).trans a5; have a2' := ((bcell b1).1 _ _ (cell_lt a2)).trans a2; have a6' := ((bcell b1).1 _ _ (cell_lt a6)).trans a6; clear b1 a0 a1 a2 a3 a4 a5 a6 cH)
  clear hW HBk HBW p1 p2 h3 q1 a5' a2' a6'
  go_loopw [5,28] (fun _ i wr => ∃ k : Nat,k ≤ n ∧ i = .int .i64 k ∧ Hid (Below w.heap.size w wr) ∧ (∃ s,Hid (Hd.Block wr w.heap.size [Hd.with r s])) ∧ Hid (Wl.more ((Hd.h r l).with (l.take k)) (l.drop k) = Wl.right (Hd.h r l))) (fun _ i _ => n - (intOf i).toNat)
  case atStart => exact ⟨0,by omega,rfl,HB1,⟨⟨ao,n,cap⟩,HLg.out ▸ HK1⟩,Lib.hid HR.out.symm⟩
  case round =>
   clear HB1 HK1 HR
   rename World => wz
   obtain ⟨k,hk,rfl,HB,⟨s,HK⟩,HM⟩ := hrel
   by_cases hlt : k < n
   ·
    obtain ⟨b,off,rfl⟩ := HL.out.at (by omega)
    have hkl : k < l.length := HN.out ▸ hlt
    have hl' := HL.out.below HB.out
    have hrow := hl'.row k hkl
    have hxs := HL.out.short _ (List.getElem_mem hkl)
    have HSt := Lib.hid (Wl.more_step (Hd.h r l) l k hkl)
    obtain ⟨x,hx⟩ : ∃ x,l[k] = x := ⟨_,rfl⟩
    rw [hx] at hrow HSt hxs
    obtain ⟨g0,g1,g2⟩ := hrow
    obtain ⟨W1,hW1,hbW1,hE⟩ := Et.boxed1 wz x
    have HB1 := Lib.hid (bchain HB.out hbW1)
    have HK1 := Lib.hid (HK.out.below hbW1)
    have f6 := HK1.out.frozen 6
    obtain ⟨i0,i1,i2,i3,i4,i5,i6⟩ := HK1.out.cells
    obtain ⟨hsl,hl2⟩ := hl'.to k hk
    obtain ⟨W2,hW2⟩ : ∃ W2,W1.setCell ⟨w.heap.size,6,none⟩ (.slice (some ⟨b,off,none⟩) k cap) = W2 := ⟨_,rfl⟩
    have hu2 : UpdQ (fun b => b = w.heap.size) W1 W2 := hW2 ▸ UpdQ.set (Q := fun b => b = w.heap.size) W1 rfl 6 _
    have HK2 : Hid (Hd.Block W2 w.heap.size [Hd.with r ⟨some ⟨b,off,none⟩,k,cap⟩]) := Lib.hid (hW2 ▸ HK1.out.log ⟨some ⟨b,off,none⟩,k,cap⟩)
    have hB2 : Below w.heap.size w W2 := hW2 ▸ bset HB1.out (Nat.le_refl _) 6 _
    have HB2 := Lib.hid hB2
    have hE2 : Et.C W2 wz.heap.size x := by
     have hlz := HK.out.lt
     obtain ⟨z0,z1,z2⟩ := hE
     have hb := hu2.block wz.heap.size (cell_lt z0) (by omega)
     exact ⟨(Hd.cell_same hb _).trans z0,(Hd.cell_same hb _).trans z1,(Hd.cell_same hb _).trans z2⟩
    obtain ⟨j0,j1,j2,j3,j4,j5,j6⟩ := HK2.out.cells
    unfold Et.C at hE2
    obtain ⟨z0,z1,z2⟩ := hE2
    have hL2 : Et.Ls W2 (some ⟨b,off,none⟩) k cap (l.take k) := by
     have := (HL.out.to k hk).2.below hB2
     exact this
    have cF := wl_fits (Hd.with r ⟨some ⟨b,off,none⟩,k,cap⟩) (l.take k) x W2 hL2 ⟨by have := HQ.out.1; exact (by show -1000000000000000000 ≤ (Hd.h r l).base; omega),by have := HQ.out.2; exact (by show (Hd.h r l).base ≤ 1000000000000000000; omega)⟩ hxs
    rw [show Hd.h (Hd.with r ⟨some ⟨b,off,none⟩,k,cap⟩) (l.take k) = (Hd.h r l).with (l.take k) from rfl] at cF
    unfold Hd.val Et.val Hd.with at cF
    simp only at cF j0 j1 j2 j3 j4 j5 j6
    clear hl' hbW1 hE hl2 hL2 hu2 hB2 HK hx
    cases q9 : Wl.fits ((Hd.h r l).with (l.take k)) x
    ·
     rw [q9] at cF
     have HR9 : Hid (Wl.right (Hd.h r l) = false) := Lib.hid (by rw [← HM.out,HSt.out,q9,Bool.false_and])
     clear HSt HM q9
     go_wp2_with (go_at_call 58; refine cF.mono ?_; rintro e w3 ⟨rfl,b3⟩; have HB3 := Lib.hid (bchain HB2.out b3); clear b3 cF)
     go_ret
     exact ⟨ret_bool HR9.out.symm,HB3.out⟩
    ·
     rw [q9] at cF
     have HM9 : Hid (Wl.more ((Hd.h r l).with (l.take (k + 1))) (l.drop (k + 1)) = Wl.right (Hd.h r l)) := Lib.hid (by rw [← HM.out,HSt.out,q9,Bool.true_and])
     clear HSt HM q9
     go_wp2_with (go_at_call 58; refine cF.mono ?_; rintro e w3 ⟨rfl,b3⟩; have HB3 := Lib.hid (bchain HB2.out b3); have HK3 := Lib.hid (HK2.out.below b3); clear b3 cF)
     go_roundw
     case rel => exact ⟨k + 1,by omega,by go_num,HB3,⟨_,HK3⟩,HM9⟩
     case measure => simp [intOf]; omega
   ·
    have HR9 : Hid (Wl.right (Hd.h r l) = true) := Lib.hid (by
     rw [← HM.out,List.drop_eq_nil_of_le (by have := HN.out; omega)]
     rfl)
    clear HM HK
    go_wp2_with fail
    go_ret
    exact ⟨ret_bool HR9.out.symm,HB.out⟩
 ·
  rw [p1] at p2
  try rw [Bool.not_false] at p2
  try rw [Bool.not_true] at p2
  go_wp2_with (go_at_call 57; refine cH.mono ?_; rintro e w1 ⟨rfl,b1⟩; have HB1 := Lib.hid (bchain HBW.out b1); have HK1 := Lib.hid (HBk.out.below b1); have a5' := ((bcell b1).1 _ _ (cell_lt a5)).trans a5; have a2' := ((bcell b1).1 _ _ (cell_lt a2)).trans a2; have a6' := ((bcell b1).1 _ _ (cell_lt a6)).trans a6; clear b1 a0 a1 a2 a3 a4 a5 a6 cH)
  clear hW HBk HBW p1 p2 h3 q1 a5' a2' a6'
  go_loopw [5,28] (fun _ i wr => ∃ k : Nat,k ≤ n ∧ i = .int .i64 k ∧ Hid (Below w.heap.size w wr) ∧ (∃ s,Hid (Hd.Block wr w.heap.size [Hd.with r s])) ∧ Hid (Wl.more ((Hd.h r l).with (l.take k)) (l.drop k) = Wl.right (Hd.h r l))) (fun _ i _ => n - (intOf i).toNat)
  case atStart => exact ⟨0,by omega,rfl,HB1,⟨⟨ao,n,cap⟩,HLg.out ▸ HK1⟩,Lib.hid HR.out.symm⟩
  case round =>
   clear HB1 HK1 HR
   rename World => wz
   obtain ⟨k,hk,rfl,HB,⟨s,HK⟩,HM⟩ := hrel
   by_cases hlt : k < n
   ·
    obtain ⟨b,off,rfl⟩ := HL.out.at (by omega)
    have hkl : k < l.length := HN.out ▸ hlt
    have hl' := HL.out.below HB.out
    have hrow := hl'.row k hkl
    have hxs := HL.out.short _ (List.getElem_mem hkl)
    have HSt := Lib.hid (Wl.more_step (Hd.h r l) l k hkl)
    obtain ⟨x,hx⟩ : ∃ x,l[k] = x := ⟨_,rfl⟩
    rw [hx] at hrow HSt hxs
    obtain ⟨g0,g1,g2⟩ := hrow
    obtain ⟨W1,hW1,hbW1,hE⟩ := Et.boxed1 wz x
    have HB1 := Lib.hid (bchain HB.out hbW1)
    have HK1 := Lib.hid (HK.out.below hbW1)
    have f6 := HK1.out.frozen 6
    obtain ⟨i0,i1,i2,i3,i4,i5,i6⟩ := HK1.out.cells
    obtain ⟨hsl,hl2⟩ := hl'.to k hk
    obtain ⟨W2,hW2⟩ : ∃ W2,W1.setCell ⟨w.heap.size,6,none⟩ (.slice (some ⟨b,off,none⟩) k cap) = W2 := ⟨_,rfl⟩
    have hu2 : UpdQ (fun b => b = w.heap.size) W1 W2 := hW2 ▸ UpdQ.set (Q := fun b => b = w.heap.size) W1 rfl 6 _
    have HK2 : Hid (Hd.Block W2 w.heap.size [Hd.with r ⟨some ⟨b,off,none⟩,k,cap⟩]) := Lib.hid (hW2 ▸ HK1.out.log ⟨some ⟨b,off,none⟩,k,cap⟩)
    have hB2 : Below w.heap.size w W2 := hW2 ▸ bset HB1.out (Nat.le_refl _) 6 _
    have HB2 := Lib.hid hB2
    have hE2 : Et.C W2 wz.heap.size x := by
     have hlz := HK.out.lt
     obtain ⟨z0,z1,z2⟩ := hE
     have hb := hu2.block wz.heap.size (cell_lt z0) (by omega)
     exact ⟨(Hd.cell_same hb _).trans z0,(Hd.cell_same hb _).trans z1,(Hd.cell_same hb _).trans z2⟩
    obtain ⟨j0,j1,j2,j3,j4,j5,j6⟩ := HK2.out.cells
    unfold Et.C at hE2
    obtain ⟨z0,z1,z2⟩ := hE2
    have hL2 : Et.Ls W2 (some ⟨b,off,none⟩) k cap (l.take k) := by
     have := (HL.out.to k hk).2.below hB2
     exact this
    have cF := wl_fits (Hd.with r ⟨some ⟨b,off,none⟩,k,cap⟩) (l.take k) x W2 hL2 ⟨by have := HQ.out.1; exact (by show -1000000000000000000 ≤ (Hd.h r l).base; omega),by have := HQ.out.2; exact (by show (Hd.h r l).base ≤ 1000000000000000000; omega)⟩ hxs
    rw [show Hd.h (Hd.with r ⟨some ⟨b,off,none⟩,k,cap⟩) (l.take k) = (Hd.h r l).with (l.take k) from rfl] at cF
    unfold Hd.val Et.val Hd.with at cF
    simp only at cF j0 j1 j2 j3 j4 j5 j6
    clear hl' hbW1 hE hl2 hL2 hu2 hB2 HK hx
    cases q9 : Wl.fits ((Hd.h r l).with (l.take k)) x
    ·
     rw [q9] at cF
     have HR9 : Hid (Wl.right (Hd.h r l) = false) := Lib.hid (by rw [← HM.out,HSt.out,q9,Bool.false_and])
     clear HSt HM q9
     go_wp2_with (go_at_call 58; refine cF.mono ?_; rintro e w3 ⟨rfl,b3⟩; have HB3 := Lib.hid (bchain HB2.out b3); clear b3 cF)
     go_ret
     exact ⟨ret_bool HR9.out.symm,HB3.out⟩
    ·
     rw [q9] at cF
     have HM9 : Hid (Wl.more ((Hd.h r l).with (l.take (k + 1))) (l.drop (k + 1)) = Wl.right (Hd.h r l)) := Lib.hid (by rw [← HM.out,HSt.out,q9,Bool.true_and])
     clear HSt HM q9
     go_wp2_with (go_at_call 58; refine cF.mono ?_; rintro e w3 ⟨rfl,b3⟩; have HB3 := Lib.hid (bchain HB2.out b3); have HK3 := Lib.hid (HK2.out.below b3); clear b3 cF)
     go_roundw
     case rel => exact ⟨k + 1,by omega,by go_num,HB3,⟨_,HK3⟩,HM9⟩
     case measure => simp [intOf]; omega
   ·
    have HR9 : Hid (Wl.right (Hd.h r l) = true) := Lib.hid (by
     rw [← HM.out,List.drop_eq_nil_of_le (by have := HN.out; omega)]
     rfl)
    clear HM HK
    go_wp2_with fail
    go_ret
    exact ⟨ret_bool HR9.out.symm,HB.out⟩
end Go.Proofs.YtlmjeackfepllaaGreatDoor
namespace Go.Proofs.YtlmjeackfepllaaGreatDoor.Wl
open Go.RowKit
open Mem
def sv (v : Sl) : Value := .slice v.ao v.n v.cap
def row (h : H) (v : Sl) : Hd.T := ⟨h.term,h.vote,h.base,h.bt,h.mem,h.snap,v⟩
theorem h_row (h : H) (v : Sl) : Hd.h (row h v) h.log = h := rfl
def cel (r : Hd.T) (b c : Bool) : List Value := Hd.rv r ++ [Value.bool b,Value.bool c]
theorem cel_len (r : Hd.T) (b c : Bool) : (cel r b c).length = 9 := rfl
def Blk (w : World) (g o : Nat) (ty : TypeId) (pre post : List Value) (r : Hd.T) (b c : Bool) : Prop :=
 pre.length = o ∧ w.heap[g]? = some (.cells (pre ++ (cel r b c ++ post)).toArray ty (0,0))
section
variable {w u : World} {g o : Nat} {ty : TypeId} {pre post : List Value} {r : Hd.T} {b c : Bool}
theorem Blk.lt (h : Blk w g o ty pre post r b c) : g < w.heap.size := by
 obtain ⟨hg,_⟩ := Array.getElem?_eq_some_iff.1 h.2
 exact hg
theorem Blk.below (h : Blk w g o ty pre post r b c) (k : Below w.heap.size w u) : Blk u g o ty pre post r b c := ⟨h.1,(k.block g h.lt).trans h.2⟩
theorem Blk.frozen (h : Blk w g o ty pre post r b c) (k : Nat) : w.frozen? ⟨g,k,none⟩ = false := frozen_of_row w g k _ _ h.2
theorem Blk.cell (h : Blk w g o ty pre post r b c) (i : Nat) (hi : i < 9) : w.cell? ⟨g,o + i,none⟩ = (cel r b c)[i]? := by
 rw [cell_of_row w g _ _ _ _ h.2]
 rw [List.getElem?_toArray,List.getElem?_append_right (by rw [h.1]; omega),h.1,List.getElem?_append_left (by rw [cel_len]; exact (by omega : o + i - o < 9))]
 congr 1
 omega
theorem Blk.cells (h : Blk w g o ty pre post r b c) :
  w.cell? ⟨g,o,none⟩ = some (.int .i64 r.term) ∧ w.cell? ⟨g,o + 1,none⟩ = some (.int .i64 r.vote) ∧ w.cell? ⟨g,o + 2,none⟩ = some (.int .i64 r.base) ∧ w.cell? ⟨g,o + 3,none⟩ = some (.int .i64 r.bt) ∧ w.cell? ⟨g,o + 4,none⟩ = some (.int .i64 r.mem) ∧ w.cell? ⟨g,o + 5,none⟩ = some (.string r.snap) ∧
  w.cell? ⟨g,o + 6,none⟩ = some (sv r.log) ∧ w.cell? ⟨g,o + 7,none⟩ = some (.bool b) ∧ w.cell? ⟨g,o + 8,none⟩ = some (.bool c) :=
 ⟨h.cell 0 (by omega),h.cell 1 (by omega),h.cell 2 (by omega),h.cell 3 (by omega),h.cell 4 (by omega),h.cell 5 (by omega),h.cell 6 (by omega),h.cell 7 (by omega),h.cell 8 (by omega)⟩
theorem set_mid (m : List Value) (i : Nat) (x : Value) (hi : i < m.length) : (pre ++ (m ++ post)).set (pre.length + i) x = pre ++ (m.set i x ++ post) := by
 rw [List.set_append_right _ _ (by omega),Nat.add_sub_cancel_left,List.set_append_left _ _ hi]
theorem Blk.set (h : Blk w g o ty pre post r b c) (i : Nat) (hi : i < 9) (x : Value) {r' : Hd.T} {b' c' : Bool} (e : (cel r b c).set i x = cel r' b' c') : Blk (w.setCell ⟨g,o + i,none⟩ x) g o ty pre post r' b' c' := by
 refine ⟨h.1,(heap_setCell_same w g (o + i) _ _ x h.2).trans ?_⟩
 have := set_mid (pre := pre) (post := post) (cel r b c) i x (by rw [cel_len]; exact hi)
 rw [h.1] at this
 rw [List.setIfInBounds_toArray,this,e]
end
structure Seg (P : Nat → Prop) (w : World) (g o : Nat) (ty : TypeId) (pre post : List Value) (v : Sl) (s : Sg) : Prop where
 blk : Blk w g o ty pre post (row s.h v) s.begun s.ready
 own : Et.Own w 0 (sv v) s.h.log
 pg : P g
 pv : ∀ b,(sv v).ownBlock = some b → P b ∧ b ≠ g
 short : ∀ e ∈ s.h.log,Et.Short e
 few : s.h.log.length ≤ 200
 base : 0 ≤ s.h.base ∧ s.h.base ≤ 1099511627776
 fit : Fit s.h.term ∧ Fit s.h.vote ∧ Fit s.h.bt ∧ Fit s.h.mem
 snap : s.h.snap = .empty
def In (P : Nat → Prop) (w : World) (g o : Nat) (ty : TypeId) (pre post : List Value) (s : Sg) : Prop := ∃ v,Seg P w g o ty pre post v s
section
variable {P Q : Nat → Prop} {w u : World} {g o : Nat} {ty : TypeId} {pre post : List Value} {v : Sl} {s : Sg}
theorem Seg.keep (h : Seg P w g o ty pre post v s) (k : UpdQ Q w u) (hQ : ∀ b,P b → ¬ Q b) : Seg P u g o ty pre post v s :=
 ⟨⟨h.blk.1,(k.block g h.blk.lt (hQ g h.pg)).trans h.blk.2⟩,k.rows h.own fun b e => hQ b (h.pv b e).1,h.pg,h.pv,h.short,h.few,h.base,h.fit,h.snap⟩
theorem Seg.mono (h : Seg P w g o ty pre post v s) (k : ∀ b,P b → Q b) : Seg Q w g o ty pre post v s := ⟨h.blk,h.own,k g h.pg,fun b e => ⟨k b (h.pv b e).1,(h.pv b e).2⟩,h.short,h.few,h.base,h.fit,h.snap⟩
theorem Seg.below (h : Seg P w g o ty pre post v s) (k : Below w.heap.size w u) : Seg P u g o ty pre post v s := h.keep (UpdQ.of (Q := fun _ => False) k) fun _ _ z => z
theorem Seg.lt (h : Seg P w g o ty pre post v s) : Seg (fun b => P b ∧ b < w.heap.size) w g o ty pre post v s :=
 ⟨h.blk,h.own,⟨h.pg,h.blk.lt⟩,fun b e => ⟨⟨(h.pv b e).1,(World.ownsRow.lt h.own b e).2⟩,(h.pv b e).2⟩,h.short,h.few,h.base,h.fit,h.snap⟩
theorem Seg.ls (h : Seg P w g o ty pre post v s) : Et.Ls w v.ao v.n v.cap s.h.log := by
 obtain ⟨ao,cap,e,l,_⟩ := Et.own_ls h.own h.short
 unfold sv at e
 simp only [Value.slice.injEq] at e
 rw [e.1,e.2.1,e.2.2]
 exact l
theorem In.keep (h : In P w g o ty pre post s) (k : UpdQ Q w u) (hQ : ∀ b,P b → ¬ Q b) : In P u g o ty pre post s := h.elim fun v h => ⟨v,h.keep k hQ⟩
theorem In.mono (h : In P w g o ty pre post s) (k : ∀ b,P b → Q b) : In Q w g o ty pre post s := h.elim fun v h => ⟨v,h.mono k⟩
theorem In.below (h : In P w g o ty pre post s) (k : Below w.heap.size w u) : In P u g o ty pre post s := h.elim fun v h => ⟨v,h.below k⟩
theorem In.lt (h : In P w g o ty pre post s) : In (fun b => P b ∧ b < w.heap.size) w g o ty pre post s := h.elim fun v h => ⟨v,h.lt⟩
end
def StepE (P : Nat → Prop) (w : World) (g o : Nat) (ty : TypeId) (pre post : List Value) (s : Sg) (x : Option Sg) (e : Ending) (w' : World) : Prop :=
 e = .returned (.bool x.isSome) ∧ In (nw P w) w' g o ty pre post (x.getD s) ∧ UpdQ P w w'
theorem StepE.no {P : Nat → Prop} {w w' : World} {g o : Nat} {ty : TypeId} {pre post : List Value} {s : Sg} {x : Option Sg} (hx : x = none) (h : In P w g o ty pre post s) (k : Below w.heap.size w w') : StepE P w g o ty pre post s x (.returned (.bool false)) w' := by
 subst hx
 exact ⟨rfl,(h.below k).mono fun b z => .inl z,UpdQ.of k⟩
set_option maxHeartbeats 2000000 in
theorem sg_close {P : Nat → Prop} {w : World} {g o : Nat} {ty : TypeId} {pre post : List Value} {s : Sg} (h : In P w g o ty pre post s) :
  Calls Tryz.prog 167 #[.pointer (some ⟨g,o,none⟩)] w (StepE P w g o ty pre post s (closeS s)) := by
 have HI := Lib.hid h
 obtain ⟨v,h⟩ := h
 obtain ⟨c0,c1,c2,c3,c4,c5,c6,c7,c8⟩ := h.blk.cells
 have f8 := h.blk.frozen (o + 8)
 have hlt := h.blk.lt
 clear c0 c1 c2 c3 c4 c5 c6
 cases hb : s.begun
 ·
  have HE : Hid (closeS s = none) := Lib.hid (by unfold closeS; rw [if_pos hb])
  rw [hb] at c7
  clear h hb
  go_enter Tryz.func167,Tryz.ntmps167
  go_wp2
  go_ret
  exact StepE.no HE.out HI.out (Below.refl _ _)
 ·
  cases hr : s.ready
  ·
   have HE : Hid (closeS s = some ⟨s.h,s.begun,true⟩) := Lib.hid (by unfold closeS; rw [if_neg (by rw [hb]; simp),if_neg (by rw [hr]; simp)])
   rw [hb] at c7
   rw [hr] at c8
   have HF : Hid (StepE P w g o ty pre post s (closeS s) (.returned (.bool true)) (w.setCell ⟨g,o + 8,none⟩ (.bool true))) := Lib.hid (by
    rw [HE.out]
    have hu : UpdQ (fun b => b = g) w (w.setCell ⟨g,o + 8,none⟩ (.bool true)) := UpdQ.set (Q := fun b => b = g) w rfl (o + 8) _
    exact ⟨rfl,⟨v,⟨h.blk.set 8 (by omega) (.bool true) rfl,hu.rows h.own fun b e => (h.pv b e).2,.inl h.pg,fun b e => ⟨.inl (h.pv b e).1,(h.pv b e).2⟩,h.short,h.few,h.base,h.fit,h.snap⟩⟩,hu.mono fun b z => z ▸ h.pg⟩)
   clear h hb hr HE
   go_enter Tryz.func167,Tryz.ntmps167
   go_wp2
   go_ret
   exact HF.out
  ·
   have HE : Hid (closeS s = none) := Lib.hid (by unfold closeS; rw [if_neg (by rw [hb]; simp),if_pos hr])
   rw [hb] at c7
   rw [hr] at c8
   clear h hb hr
   go_enter Tryz.func167,Tryz.ntmps167
   go_wp2
   go_ret
   exact StepE.no HE.out HI.out (Below.refl _ _)
end Go.Proofs.YtlmjeackfepllaaGreatDoor.Wl
namespace Go.Proofs.YtlmjeackfepllaaGreatDoor.Wl
open Go.RowKit
open Mem
def fitH (h : H) : Prop := (Fit h.term ∧ Fit h.vote ∧ Fit h.bt ∧ Fit h.mem) ∧ Fit h.base
theorem headed_fit {h : H} (k : headed h = true) : (0 ≤ h.base ∧ h.base ≤ 1099511627776) ∧ (Fit h.term ∧ Fit h.vote ∧ Fit h.bt ∧ Fit h.mem) := by
 unfold headed within top at k
 simp only [Bool.and_eq_true,decide_eq_true_eq] at k
 obtain ⟨a,b,c,d,e,f⟩ := k
 exact ⟨c,⟨by omega,by omega⟩,⟨by omega,by omega⟩,⟨by omega,by omega⟩,⟨by omega,by omega⟩⟩
def lay (w : World) (g o : Nat) (r : Hd.T) : World :=
 ((((((w.setCell ⟨g,o,none⟩ (.int .i64 r.term)).setCell ⟨g,o + 1,none⟩ (.int .i64 r.vote)).setCell ⟨g,o + 2,none⟩ (.int .i64 r.base)).setCell ⟨g,o + 3,none⟩ (.int .i64 r.bt)).setCell ⟨g,o + 4,none⟩ (.int .i64 r.mem)).setCell ⟨g,o + 5,none⟩ (.string r.snap)).setCell ⟨g,o + 6,none⟩ (sv r.log)
theorem Blk.lay {w : World} {g o : Nat} {ty : TypeId} {pre post : List Value} {r : Hd.T} {b c : Bool} (h : Blk w g o ty pre post r b c) (x : Hd.T) : Blk (lay w g o x) g o ty pre post x b c := by
 have h0 : Blk (w.setCell ⟨g,o,none⟩ (.int .i64 x.term)) g o ty pre post ⟨x.term,r.vote,r.base,r.bt,r.mem,r.snap,r.log⟩ b c := h.set 0 (by omega) _ rfl
 have h1 := h0.set (r' := ⟨x.term,x.vote,r.base,r.bt,r.mem,r.snap,r.log⟩) 1 (by omega) (.int .i64 x.vote) rfl
 have h2 := h1.set (r' := ⟨x.term,x.vote,x.base,r.bt,r.mem,r.snap,r.log⟩) 2 (by omega) (.int .i64 x.base) rfl
 have h3 := h2.set (r' := ⟨x.term,x.vote,x.base,x.bt,r.mem,r.snap,r.log⟩) 3 (by omega) (.int .i64 x.bt) rfl
 have h4 := h3.set (r' := ⟨x.term,x.vote,x.base,x.bt,x.mem,r.snap,r.log⟩) 4 (by omega) (.int .i64 x.mem) rfl
 have h5 := h4.set (r' := ⟨x.term,x.vote,x.base,x.bt,x.mem,x.snap,r.log⟩) 5 (by omega) (.string x.snap) rfl
 exact h5.set (r' := x) 6 (by omega) (sv x.log) rfl
theorem upd_set (u : World) (g o : Nat) (x : Value) : UpdQ (fun b => b = g) u (u.setCell ⟨g,o,none⟩ x) := UpdQ.set (Q := fun b => b = g) u rfl o x
theorem lay_upd (w : World) (g o : Nat) (x : Hd.T) : UpdQ (fun b => b = g) w (lay w g o x) :=
 ((((((upd_set w g o _).trans (upd_set _ g _ _)).trans (upd_set _ g _ _)).trans (upd_set _ g _ _)).trans (upd_set _ g _ _)).trans (upd_set _ g _ _)).trans (upd_set _ g _ _)
set_option maxHeartbeats 1000000 in
theorem sg_begin {P : Nat → Prop} {w : World} {g o : Nat} {ty : TypeId} {pre post : List Value} {s : Sg} (h : In P w g o ty pre post s) (x : Hd.T) (hx : x.log = ⟨none,0,0⟩) (hs : x.snap = .empty) :
  Calls Tryz.prog 165 #[.pointer (some ⟨g,o,none⟩),Hd.val x] w (StepE P w g o ty pre post s (beginS s (Hd.h x []))) := by
 have HI := Lib.hid h
 obtain ⟨v,h⟩ := h
 obtain ⟨W,hW,hbW,hC⟩ := Hd.boxed1 w x
 have HBW := Lib.hid hbW
 obtain ⟨c0,c1,c2,c3,c4,c5,c6,c7,c8⟩ := (h.blk.below hbW).cells
 have hlt := (h.blk.below hbW).lt
 have HS := Lib.hid (h.below hbW)
 have cH := wl_headed x [] W
 unfold Hd.val at cH ⊢
 unfold Hd.C at hC
 rw [hx,hs] at cH hW hC
 rw [hx,hs]
 dsimp only at cH hW hC ⊢
 obtain ⟨a0,a1,a2,a3,a4,a5,a6⟩ := hC
 have fz := fun k => (h.blk.below hbW).frozen k
 cases hb : s.begun
 ·
  rw [hb] at c7
  cases hd : headed (Hd.h x [])
  ·
   have HE : Hid (beginS s (Hd.h x []) = none) := Lib.hid (by unfold beginS; rw [if_neg (by rw [hb]; simp),if_pos hd])
   rw [hd] at cH
   clear h hb hd hbW fz c0 c1 c2 c3 c4 c5 c6 c8
   go_enter Tryz.func165,Tryz.ntmps165
   go_wp2_with (go_at_call 57; refine cH.mono ?_; rintro e w1 ⟨rfl,b1⟩; have HB1 := Lib.hid (bchain HBW.out b1); clear b1 a0 a1 a2 a3 a4 a5 a6 c7 cH)
   go_ret
   exact StepE.no HE.out HI.out HB1.out
  ·
   have HE : Hid (beginS s (Hd.h x []) = some ⟨Hd.h x [],true,s.ready⟩) := Lib.hid (by unfold beginS; rw [if_neg (by rw [hb]; simp),if_neg (by rw [hd]; simp)])
   have HF : Hid (∀ u,Below w.heap.size w u → Seg P u g o ty pre post v s → StepE P w g o ty pre post s (beginS s (Hd.h x [])) (.returned (.bool true)) ((lay u g o (row (Hd.h x []) ⟨none,0,0⟩)).setCell ⟨g,o + 7,none⟩ (.bool true))) := Lib.hid fun u hu k => by
    rw [HE.out]
    have hup : UpdQ (fun b => b = g) u ((lay u g o (row (Hd.h x []) ⟨none,0,0⟩)).setCell ⟨g,o + 7,none⟩ (.bool true)) := (lay_upd u g o _).trans (upd_set _ g _ _)
    obtain ⟨e1,e2⟩ := headed_fit hd
    exact ⟨rfl,⟨⟨none,0,0⟩,⟨(k.blk.lay _).set 7 (by omega) (.bool true) rfl,Et.own_nil _ _,.inl k.pg,fun b e => (by cases e),fun e z => (by cases z),Nat.zero_le _,e1,e2,hs⟩⟩,(UpdQ.of hu).trans (hup.mono fun b z => z ▸ k.pg)⟩
   have HX : Hid (row (Hd.h x []) ⟨none,0,0⟩ = ⟨x.term,x.vote,x.base,x.bt,x.mem,.empty,⟨none,0,0⟩⟩) := Lib.hid (by unfold row Hd.h; rw [hs])
   rw [hd] at cH
   clear h hb hd hbW c0 c1 c2 c3 c4 c5 c6 c8
   go_enter Tryz.func165,Tryz.ntmps165
   go_wp2_with (go_at_call 57; refine cH.mono ?_; rintro e w1 ⟨rfl,b1⟩; have HB1 := Lib.hid (bchain HBW.out b1); have hS1 := HS.out.below b1; have HS1 := Lib.hid hS1; have a0' := ((bcell b1).1 _ _ (cell_lt a0)).trans a0; have a1' := ((bcell b1).1 _ _ (cell_lt a1)).trans a1; have a2' := ((bcell b1).1 _ _ (cell_lt a2)).trans a2; have a3' := ((bcell b1).1 _ _ (cell_lt a3)).trans a3; have a4' := ((bcell b1).1 _ _ (cell_lt a4)).trans a4; have a5' := ((bcell b1).1 _ _ (cell_lt a5)).trans a5; have a6' := ((bcell b1).1 _ _ (cell_lt a6)).trans a6; have gz := hS1.blk.frozen; (obtain ⟨d0,d1,d2,d3,d4,d5,d6,d7,d8⟩ := hS1.blk.cells); have hlt1 := hS1.blk.lt; clear b1 hS1 a0 a1 a2 a3 a4 a5 a6 c7 cH hlt fz hW)
   go_ret
   have := HF.out _ HB1.out HS1.out
   rw [HX.out] at this
   exact this
 ·
  have HE : Hid (beginS s (Hd.h x []) = none) := Lib.hid (by unfold beginS; rw [if_pos hb])
  rw [hb] at c7
  clear h hb hbW fz c0 c1 c2 c3 c4 c5 c6 c8 cH
  go_enter Tryz.func165,Tryz.ntmps165
  go_wp2_with fail
  go_ret
  exact StepE.no HE.out HI.out HBW.out
set_option maxHeartbeats 2000000 in
theorem sg_vote {P : Nat → Prop} {w : World} {g o : Nat} {ty : TypeId} {pre post : List Value} {s : Sg} (h : In P w g o ty pre post s) (t a : Int) (ht : Fit t) (ha : Fit a) :
  Calls Tryz.prog 168 #[.pointer (some ⟨g,o,none⟩),.int .i64 t,.int .i64 a] w (StepE P w g o ty pre post s (voteS s t a)) := by
 have HI := Lib.hid h
 obtain ⟨v,h⟩ := h
 obtain ⟨c0,c1,c2,c3,c4,c5,c6,c7,c8⟩ := h.blk.cells
 have hlt := h.blk.lt
 obtain ⟨⟨vo,vn,vc⟩,hv⟩ : ∃ x,x = v := ⟨_,rfl⟩
 obtain ⟨W,hW,hbW,hC⟩ := Hd.boxed1 w (row s.h v)
 have HBW := Lib.hid hbW
 have HS := Lib.hid (h.below hbW)
 unfold Hd.C at hC
 subst hv
 unfold row at hW hC c0 c1 c2 c3 c4 c5 c6
 unfold sv at c6
 dsimp only at hW hC c0 c1 c2 c3 c4 c5 c6
 obtain ⟨a0,a1,a2,a3,a4,a5,a6⟩ := hC
 have HT := Lib.hid h.fit
 cases hr : s.ready
 ·
  have HE : Hid (voteS s t a = none) := Lib.hid (by unfold voteS; rw [if_pos hr])
  have c8' := ((bcell hbW).1 _ _ (cell_lt c8)).trans c8
  rw [hr] at c8'
  clear h hr hbW c7 c8
  go_enter Tryz.func168,Tryz.ntmps168
  go_wp2_with fail
  go_ret
  exact StepE.no HE.out HI.out HBW.out
 have c8' := ((bcell hbW).1 _ _ (cell_lt c8)).trans c8
 rw [hr] at c8'
 by_cases h1 : t < s.h.term
 ·
  have HE : Hid (voteS s t a = none) := Lib.hid (by unfold voteS; rw [if_neg (by rw [hr]; simp),if_pos h1])
  clear h hr hbW c7 c8
  go_enter Tryz.func168,Tryz.ntmps168
  go_wp2_with fail
  go_ret
  exact StepE.no HE.out HI.out HBW.out
 by_cases h2 : t = s.h.term ∧ s.h.vote ≠ -1
 ·
  have HE : Hid (voteS s t a = none) := Lib.hid (by unfold voteS; rw [if_neg (by rw [hr]; simp),if_neg h1,if_pos h2])
  have e1 : (t == s.h.term) = true := beq_iff_eq.2 h2.1
  have e2 : (s.h.vote != -1) = true := bne_iff_ne.2 h2.2
  clear h hr hbW c7 c8 h2
  go_enter Tryz.func168,Tryz.ntmps168
  go_wp2_with fail
  go_ret
  exact StepE.no HE.out HI.out HBW.out
 obtain ⟨b1,b2,hbb,hor⟩ : ∃ b1 b2 : Bool,((t == s.h.term) = b1 ∧ (s.h.vote != -1) = b2) ∧ ((b1 = false ∧ b2 = false) ∨ (b1 = false ∧ b2 = true) ∨ (b1 = true ∧ b2 = false)) := by
  refine ⟨_,_,⟨rfl,rfl⟩,?_⟩
  cases q1 : (t == s.h.term) <;> cases q2 : (s.h.vote != -1)
  · exact .inl ⟨rfl,rfl⟩
  · exact .inr (.inl ⟨rfl,rfl⟩)
  · exact .inr (.inr ⟨rfl,rfl⟩)
  · exact absurd ⟨beq_iff_eq.1 q1,bne_iff_ne.1 q2⟩ h2
 obtain ⟨e1,e2⟩ := hbb
 obtain ⟨W2,hW2⟩ : ∃ W2,(W.setCell ⟨w.heap.size,0,none⟩ (.int .i64 t)).setCell ⟨w.heap.size,1,none⟩ (.int .i64 a) = W2 := ⟨_,rfl⟩
 have hne : g ≠ w.heap.size := by omega
 have hblk : Hd.Block W w.heap.size [⟨s.h.term,s.h.vote,s.h.base,s.h.bt,s.h.mem,s.h.snap,⟨vo,vn,vc⟩⟩] := hW ▸ heap_alloc_new w _
 have hblk2 : Hd.Block W2 w.heap.size [⟨t,a,s.h.base,s.h.bt,s.h.mem,s.h.snap,⟨vo,vn,vc⟩⟩] := by
  have k1 : Hd.Block (W.setCell ⟨w.heap.size,0,none⟩ (.int .i64 t)) w.heap.size [⟨t,s.h.vote,s.h.base,s.h.bt,s.h.mem,s.h.snap,⟨vo,vn,vc⟩⟩] := (heap_setCell_same W w.heap.size 0 _ _ _ hblk).trans rfl
  exact hW2 ▸ (heap_setCell_same _ w.heap.size 1 _ _ _ k1).trans rfl
 have hu : UpdQ (fun b => b = w.heap.size) W W2 := hW2 ▸ (upd_set W w.heap.size 0 _).trans (upd_set _ w.heap.size 1 _)
 have hB2 : Below w.heap.size w W2 := hu.below w hbW fun b z => by omega
 have HB2 := Lib.hid hB2
 have HS2 := Lib.hid (h.below hB2)
 have hf0 := hblk.frozen 0
 have hf1 := hblk.frozen 1
 have hlW : w.heap.size < W.heap.size := hblk.lt
 obtain ⟨d0,d1,d2,d3,d4,d5,d6⟩ := hblk2.cells
 dsimp only at d0 d1 d2 d3 d4 d5 d6
 have cH := wl_headed ⟨t,a,s.h.base,s.h.bt,s.h.mem,s.h.snap,⟨vo,vn,vc⟩⟩ s.h.log W2
 rw [show Hd.h ⟨t,a,s.h.base,s.h.bt,s.h.mem,s.h.snap,⟨vo,vn,vc⟩⟩ s.h.log = s.h.vote' t a from rfl] at cH
 unfold Hd.val at cH
 dsimp only at cH
 have c8'' := ((bcell hB2).1 _ _ (cell_lt c8)).trans c8
 cases hd : headed (s.h.vote' t a)
 ·
  rw [hd] at cH
  have HE : Hid (voteS s t a = none) := Lib.hid (by unfold voteS; rw [if_neg (by rw [hr]; simp),if_neg h1,if_neg h2,if_pos hd])
  clear h hr hbW c7 c8 h2 hblk hblk2 hu hB2 hd
  rcases hor with ⟨rfl,rfl⟩ | ⟨rfl,rfl⟩ | ⟨rfl,rfl⟩
  all_goals
   go_enter Tryz.func168,Tryz.ntmps168
   go_wp2_with (go_at_call 57; refine cH.mono ?_; rintro e w1 ⟨rfl,b1⟩; have HB1 := Lib.hid (bchain HB2.out b1); clear b1 cH)
   go_ret
   exact StepE.no HE.out HI.out HB1.out
 ·
  rw [hd] at cH
  have HE : Hid (voteS s t a = some (s.with (s.h.vote' t a))) := Lib.hid (by unfold voteS; rw [if_neg (by rw [hr]; simp),if_neg h1,if_neg h2,if_neg (by rw [hd]; simp)])
  have HF : Hid (∀ u,Below w.heap.size w u → StepE P w g o ty pre post s (voteS s t a) (.returned (.bool true)) (lay u g o (row (s.h.vote' t a) ⟨vo,vn,vc⟩))) := Lib.hid fun u hu => by
   rw [HE.out]
   have k := h.below hu
   have hup := lay_upd u g o (row (s.h.vote' t a) ⟨vo,vn,vc⟩)
   obtain ⟨e1,e2⟩ := headed_fit hd
   exact ⟨rfl,⟨⟨vo,vn,vc⟩,⟨k.blk.lay _,hup.rows k.own fun b e => (k.pv b e).2,.inl k.pg,fun b e => ⟨.inl (k.pv b e).1,(k.pv b e).2⟩,k.short,k.few,e1,e2,k.snap⟩⟩,(UpdQ.of hu).trans (hup.mono fun b z => z ▸ k.pg)⟩
  have HX : Hid (row (s.h.vote' t a) ⟨vo,vn,vc⟩ = ⟨t,a,s.h.base,s.h.bt,s.h.mem,s.h.snap,⟨vo,vn,vc⟩⟩) := Lib.hid rfl
  have HC2 := Lib.hid hblk2
  clear h hr hbW c7 c8 h2 hblk hblk2 hu hB2 hd
  rcases hor with ⟨rfl,rfl⟩ | ⟨rfl,rfl⟩ | ⟨rfl,rfl⟩
  all_goals
   go_enter Tryz.func168,Tryz.ntmps168
   go_wp2_with (go_at_call 57; refine cH.mono ?_; rintro e w1 ⟨rfl,b1⟩; have HB1 := Lib.hid (bchain HB2.out b1); have hS1 := HS2.out.below b1; (obtain ⟨x0,x1,x2,x3,x4,x5,x6⟩ := (HC2.out.below b1).cells); (dsimp only at x0 x1 x2 x3 x4 x5 x6); (obtain ⟨y0,y1,y2,y3,y4,y5,y6,y7,y8⟩ := hS1.blk.cells); have gz := hS1.blk.frozen; have hlt1 := hS1.blk.lt; clear b1 hS1 a0 a1 a2 a3 a4 a5 a6 d0 d1 d2 d3 d4 d5 d6 c0 c1 c2 c3 c4 c5 c6 c8'' cH hlt hf0 hf1 hW hW2 hlW)
   go_ret
   have := HF.out _ HB1.out
   rw [HX.out] at this
   exact this
end Go.Proofs.YtlmjeackfepllaaGreatDoor.Wl
namespace Go.Proofs.YtlmjeackfepllaaGreatDoor.Et
open Go.RowKit
open Mem
def Block (w : World) (g : Nat) (ts : List T) : Prop := w.heap[g]? = some (.cells (ts.flatMap rv).toArray 36 (0,0))
theorem Block.lt {w : World} {g : Nat} {ts : List T} (h : Block w g ts) : g < w.heap.size := by
 obtain ⟨hg,_⟩ := Array.getElem?_eq_some_iff.1 h
 exact hg
theorem Block.below {w u : World} {g : Nat} {ts : List T} (h : Block w g ts) (k : Below w.heap.size w u) : Block u g ts := (k.block g h.lt).trans h
theorem Block.row {w : World} {g : Nat} {ts : List T} (h : Block w g ts) (k : Nat) (hk : k < ts.length) : At w g (k * 3) ts[k] := by
 have hcell : ∀ p,p < 3 → w.cell? ⟨g,k * 3 + p,none⟩ = (rv ts[k])[p]? := by
  intro p hp
  rw [cell_of_row w g _ _ _ _ h,← flat_at ts k p hk hp]
  simp
 exact ⟨hcell 0 (by omega),hcell 1 (by omega),hcell 2 (by omega)⟩
theorem Block.frozen {w : World} {g : Nat} {ts : List T} (h : Block w g ts) (k : Nat) : w.frozen? ⟨g,k,none⟩ = false := frozen_of_row w g k _ _ h
theorem Block.ls {w : World} {g : Nat} {ts zs : List T} (h : Block w g (ts ++ zs)) (n cap : Nat) (hn : n = ts.length) (hc : n ≤ cap) (hm : cap ≤ 9223372036854775807) (hs : ∀ r ∈ ts,Short r) : Ls w (some ⟨g,0,none⟩) n cap ts := by
 refine ⟨hn,hc,hm,(fun k => by cases k),.inr ⟨g,0,rfl,fun k hk => ?_⟩,hs⟩
 have hr := h.row k (by rw [List.length_append]; omega)
 rw [List.getElem_append_left hk] at hr
 rw [Nat.zero_add]
 exact hr
def zeros (n : Nat) : Array Value := ((List.replicate n zero).flatMap rv).toArray
theorem sizeZ : (Tryz.prog.info? 36).map (·.size) = some 3 := by kernel_rfl
theorem made (n : Nat) : madeCells zeroV.cells (n * 3) = zeros n := by
 apply Array.ext_getElem?
 intro j
 by_cases hj : j < n * 3
 ·
  obtain ⟨k,p,rfl,hp⟩ : ∃ k p,j = k * 3 + p ∧ p < 3 := ⟨j / 3,j % 3,by omega,by omega⟩
  have hk : k < n := by omega
  have hz : (zeros n)[k * 3 + p]? = (rv zero)[p]? := by
   unfold zeros
   rw [List.getElem?_toArray,flat_at (List.replicate n zero) k p (by simpa using hk) hp,List.getElem_replicate]
  rw [hz]
  have e : (k * 3 + p) % 3 = p := by omega
  have hp' : p = 0 ∨ p = 1 ∨ p = 2 := by omega
  unfold madeCells
  rw [Array.getElem?_map,Array.getElem?_range,if_pos hj]
  simp only [Option.map_some]
  rw [show zeroV.cells.size = 3 from rfl,e]
  rcases hp' with rfl | rfl | rfl <;> rfl
 ·
  rw [Array.getElem?_eq_none (by rw [size_madeCells]; omega),Array.getElem?_eq_none]
  unfold zeros
  rw [List.size_toArray,flat_len,List.length_replicate]
  omega
theorem make (n : Nat) (hn : n ≤ 100000) (u : World) : (Instr.makeSlice 28 (.int .i64 (n : Int)) (.int .i64 (n : Int))).run Tryz.prog u =
  .ok (.slice (some ⟨u.heap.size,0,none⟩) n n) (u.alloc (.cells (zeros n) 36)) := by
 obtain ⟨i0,hi,hz0,hz1,hz2⟩ := info_parts info
 have h := run_make (P := Tryz.prog) u 28 36 i0 zeroV Tryz.underlying28 hi hz0 .i64 .i64 (n : Int) (n : Int) (by omega) (Int.le_refl _) (by rw [hz2]; omega) (by omega)
 rw [hz1,Int.toNat_natCast,made] at h
 exact h
theorem block_made (u : World) (n : Nat) : Block (u.alloc (.cells (zeros n) 36)) u.heap.size (List.replicate n zero) := heap_alloc_new u _
theorem copy (u : World) (g : Nat) (ts : List T) (dCap : Nat) (ao : Option Addr) (n cap : Nat) (rs : List T) (hb : Block u g (List.replicate n zero ++ ts)) (hn : n = rs.length) (hs : Seg u ao rs) :
  ∃ u',(Builtin.copy_ #[28,28] 3 #[.slice (some ⟨g,0,none⟩) (n + ts.length) dCap,.slice ao n cap]).run Tryz.prog u = .ok (goInt n) u' ∧ Block u' g (rs ++ ts) ∧ (∀ B w0,Below B w0 u → B ≤ g → Below B w0 u') ∧ u'.heap.size = u.heap.size := by
 obtain ⟨i0,hi,hiK⟩ := Option.map_eq_some_iff.1 sizeZ
 have hmin : Nat.min n (n + ts.length) = n := Nat.min_eq_left (by omega)
 rcases hs with e | ⟨b,off,rfl,hc⟩
 ·
  subst e
  obtain rfl : n = 0 := hn
  refine ⟨u,?_,by simpa using hb,fun _ _ h _ => h,rfl⟩
  have hl : ∀ (x : Addr),(loadCells x 0).run Tryz.prog u = .ok #[] u := fun x => by simpa using run_loadCells_list (P := Tryz.prog) u x [] (by simp)
  cases ao <;> simp [Builtin.copy_,run_underlying Tryz.underlying28,Builtin.lenOf,Builtin.firstCells,sizeOf,typeInfo,hi,storeCells,hl]
 ·
  have hl := run_loadCells_list (P := Tryz.prog) u ⟨b,off,none⟩ (rs.flatMap rv) (fun j v hv => news_of hc j v hv)
  have hst := run_storeCells_at Tryz.prog g 0 36 (rs.flatMap rv) 0 _ u hb (by rw [List.size_toArray,flat_len,flat_len,List.length_append,List.length_replicate]; omega) (one_cell rs)
  have hlen : (rs.flatMap rv).length = n * 3 := by rw [flat_len,hn]
  have e : (((List.replicate n zero ++ ts).flatMap rv).toArray.toList.take (0 + 0) ++ rs.flatMap rv ++ ((List.replicate n zero ++ ts).flatMap rv).toArray.toList.drop (0 + 0 + (rs.flatMap rv).length)) = (rs ++ ts).flatMap rv := by
   rw [List.toList_toArray,List.take_zero,List.nil_append,Nat.zero_add,hlen,List.flatMap_append,List.flatMap_append,List.drop_left' (by rw [flat_len,List.length_replicate])]
  rw [e] at hst
  refine ⟨u.setRow g ((rs ++ ts).flatMap rv).toArray,?_,setRow_heap u g _ _ 36 _ hb,fun B w0 h hB => below_setRow h hB _,by simp [World.setRow]⟩
  rw [hlen] at hl
  simp [Builtin.copy_,run_underlying Tryz.underlying28,Builtin.lenOf,Builtin.firstCells,sizeOf,typeInfo,hi,hiK,hmin,hl,hst]
theorem set_right {a : T} (X : List Value) (k p : Nat) (v : Value) : (rv a ++ X).set ((k + 1) * 3 + p) v = rv a ++ X.set (k * 3 + p) v := by
 rw [List.set_append_right _ _ (by rw [rv_len]; omega),rv_len,show (k + 1) * 3 + p - 3 = k * 3 + p by omega]
theorem flat_set : ∀ (ts : List T) (k : Nat) (r : T),k < ts.length → (ts.set k r).flatMap rv = ((((ts.flatMap rv).set (k * 3) (.int .i64 r.term)).set (k * 3 + 1) (.int .i64 r.mem)).set (k * 3 + 2) (.string r.data)) := by
 intro ts
 induction ts with
 | nil =>
  intro k r h
  simp at h
 | cons a l ih =>
 intro k r h
 cases k with
 | zero =>
  rw [List.set_cons_zero,List.flatMap_cons,List.flatMap_cons]
  simp only [rv,Nat.zero_mul,Nat.zero_add,List.cons_append,List.nil_append,List.set_cons_zero,List.set_cons_succ]
 | succ k =>
  have ih := ih k r (by simpa using h)
  have e0 := fun (X : List Value) (v : Value) => set_right (a := a) X k 0 v
  simp only [Nat.add_zero] at e0
  rw [List.set_cons_succ,List.flatMap_cons,ih,List.flatMap_cons,e0,set_right,set_right]
theorem Block.store {w : World} {g : Nat} {ts : List T} (h : Block w g ts) (k : Nat) (hk : k < ts.length) (r : T) :
  Block (((w.setCell ⟨g,k * 3,none⟩ (.int .i64 r.term)).setCell ⟨g,k * 3 + 1,none⟩ (.int .i64 r.mem)).setCell ⟨g,k * 3 + 2,none⟩ (.string r.data)) g (ts.set k r) := by
 have h1 := heap_setCell_same _ g (k * 3) _ _ (.int .i64 r.term) h
 have h2 := heap_setCell_same _ g (k * 3 + 1) _ _ (.int .i64 r.mem) h1
 have h3 := heap_setCell_same _ g (k * 3 + 2) _ _ (.string r.data) h2
 unfold Block
 rw [h3,flat_set ts k r hk]
 simp only [List.setIfInBounds_toArray]
theorem below_store {B g : Nat} {w0 w : World} (h : Below B w0 w) (hg : B ≤ g) (k : Nat) (x0 x1 x2 : Value) :
  Below B w0 (((w.setCell ⟨g,k * 3,none⟩ x0).setCell ⟨g,k * 3 + 1,none⟩ x1).setCell ⟨g,k * 3 + 2,none⟩ x2) :=
 (((h.setCell hg x0).setCell hg x1).setCell hg x2)
theorem own_store {w : World} {B g n cap : Nat} {M : List T} (h : Own w B (.slice (some ⟨g,0,none⟩) n cap) M) (k : Nat) (hk : k < M.length) (r : T) :
  Own (((w.setCell ⟨g,k * 3,none⟩ (.int .i64 r.term)).setCell ⟨g,k * 3 + 1,none⟩ (.int .i64 r.mem)).setCell ⟨g,k * 3 + 2,none⟩ (.string r.data)) B (.slice (some ⟨g,0,none⟩) n cap) (M.set k r) := by
 rcases h.2 with ⟨h',_⟩ | ⟨g',cap',cur,h',hb,hg,hnc,hcm,hcs,htake⟩
 · cases h'
 ·
  simp only [Value.slice.injEq,Option.some.injEq,Addr.mk.injEq,and_true] at h'
  obtain ⟨e1,e2,e3⟩ := h'
  subst e1 e3
  have h1 := heap_setCell_same _ g (k * 3) _ _ (.int .i64 r.term) hg
  have h2 := heap_setCell_same _ g (k * 3 + 1) _ _ (.int .i64 r.mem) h1
  have h3 := heap_setCell_same _ g (k * 3 + 2) _ _ (.string r.data) h2
  refine ⟨by rw [flat_len],.inr ⟨g,cap,_,by rw [List.length_set,e2],hb,h3,by rw [List.length_set]; exact hnc,hcm,by simpa using hcs,?_⟩⟩
  rw [List.length_set,flat_set M k r hk]
  simp only [Array.toList_setIfInBounds]
  rw [← htake]
  simp only [List.take_set]
theorem own_at {w : World} {B g n cap : Nat} {M : List T} (h : Own w B (.slice (some ⟨g,0,none⟩) n cap) M) (k : Nat) (hk : k < M.length) : At w g (k * 3) M[k] ∧ (∀ o,w.frozen? ⟨g,o,none⟩ = false) ∧ B ≤ g := by
 rcases h.2 with ⟨h',_⟩ | ⟨g',cap',cur,h',hb,hg,hnc,hcm,hcs,htake⟩
 · cases h'
 ·
  simp only [Value.slice.injEq,Option.some.injEq,Addr.mk.injEq,and_true] at h'
  obtain ⟨e1,e2,e3⟩ := h'
  subst e1 e3
  have hcell : ∀ p,p < 3 → w.cell? ⟨g,k * 3 + p,none⟩ = (rv M[k])[p]? := by
   intro p hp
   rw [cell_of_row w g _ _ _ _ hg,← flat_at M k p hk hp,← htake,List.getElem?_take_of_lt (by omega)]
   simp
  exact ⟨⟨hcell 0 (by omega),hcell 1 (by omega),hcell 2 (by omega)⟩,fun o => frozen_of_row w g o _ _ hg,hb⟩
theorem flat_put (r : T) (p : Nat) (x : Value) (hp : p < 3) : ∀ (M : List T) (k : Nat) (hk : k < M.length),rv r = (rv M[k]).set p x → (M.set k r).flatMap rv = (M.flatMap rv).set (k * 3 + p) x
 | a :: l,0,_,h => by
  have h' : rv r = (rv a).set p x := h
  rw [List.set_cons_zero,List.flatMap_cons,List.flatMap_cons,Nat.zero_mul,Nat.zero_add,List.set_append_left _ _ (by rw [rv_len]; exact hp),h']
 | a :: l,k + 1,hk,h => by
  have ih := flat_put r p x hp l k (by simpa using hk) (by simpa using h)
  rw [List.set_cons_succ,List.flatMap_cons,List.flatMap_cons,List.set_append_right _ _ (by rw [rv_len]; omega),rv_len,show (k + 1) * 3 + p - 3 = k * 3 + p by omega,ih]
theorem own_put {w : World} {B g n cap : Nat} {M : List T} (h : Own w B (.slice (some ⟨g,0,none⟩) n cap) M) (k p : Nat) (hk : k < M.length) (hp : p < 3) (x : Value) (r : T) (hr : rv r = (rv M[k]).set p x) :
  Own (w.setCell ⟨g,k * 3 + p,none⟩ x) B (.slice (some ⟨g,0,none⟩) n cap) (M.set k r) := by
 rcases h.2 with ⟨h',_⟩ | ⟨g',cap',cur,h',hb,hg,hnc,hcm,hcs,htake⟩
 · cases h'
 ·
  simp only [Value.slice.injEq,Option.some.injEq,Addr.mk.injEq,and_true] at h'
  obtain ⟨e1,e2,e3⟩ := h'
  subst e1 e3
  have h1 := heap_setCell_same _ g (k * 3 + p) _ _ x hg
  refine ⟨by rw [flat_len],.inr ⟨g,cap,_,by rw [List.length_set,e2],hb,h1,by rw [List.length_set]; exact hnc,hcm,by simpa using hcs,?_⟩⟩
  rw [List.length_set,flat_put r p x hp M k hk hr]
  simp only [Array.toList_setIfInBounds]
  rw [← htake]
  simp only [List.take_set]
theorem own_of_block {w : World} {B g n : Nat} {M : List T} (h : Block w g M) (hB : B ≤ g) (hn : n = M.length) (hm : n ≤ 100000) : Own w B (.slice (some ⟨g,0,none⟩) n n) M := by
 subst hn
 exact ⟨by rw [flat_len],.inr ⟨g,M.length,_,rfl,hB,h,Nat.le_refl _,by have : maxLen = 9223372036854775807 := rfl; omega,by rw [List.size_toArray,flat_len],List.take_of_length_le (by show (M.flatMap rv).length ≤ _; rw [flat_len]; exact Nat.le_refl _)⟩⟩
theorem own_far {w : World} {B : Nat} {v : Value} {M : List T} (h : Own w B v M) {b : Nat} (hne : b < B) (o : Nat) (x : Value) : Own (w.setCell ⟨b,o,none⟩ x) B v M := by
 obtain ⟨h1,h2⟩ := h
 refine ⟨h1,?_⟩
 rcases h2 with h2 | ⟨g,cap,cur,h',hb,hg,h3⟩
 · exact .inl h2
 · exact .inr ⟨g,cap,cur,h',hb,by rw [heap_setCell_other w ⟨b,o,none⟩ g x (by show g ≠ b; omega)]; exact hg,h3⟩
theorem make_cap (n : Nat) (hn : n ≤ 1000) (u : World) : (Instr.makeSlice 28 (.int .i64 0) (.int .i64 ((n : Int) + 1))).run Tryz.prog u =
  .ok (.slice (some ⟨u.heap.size,0,none⟩) 0 (n + 1)) (u.alloc (.cells (zeros (n + 1)) 36)) := by
 obtain ⟨i0,hi,hz0,hz1,hz2⟩ := info_parts info
 have h := run_make (P := Tryz.prog) u 28 36 i0 zeroV Tryz.underlying28 hi hz0 .i64 .i64 0 ((n : Int) + 1) (by omega) (by omega) (by rw [hz2]; omega) (by omega)
 rw [hz1,show ((n : Int) + 1).toNat = n + 1 from by omega,made] at h
 exact h
theorem own_cap (u : World) (B c : Nat) (hB : B ≤ u.heap.size) (hc : c ≤ 1000) : Own (u.alloc (.cells (zeros c) 36)) B (.slice (some ⟨u.heap.size,0,none⟩) 0 c) [] :=
 ⟨rfl,.inr ⟨u.heap.size,c,zeros c,rfl,hB,heap_alloc_new u _,Nat.zero_le _,by have : maxLen = 9223372036854775807 := rfl; omega,by unfold zeros; rw [List.size_toArray,flat_len,List.length_replicate],rfl⟩⟩
end Go.Proofs.YtlmjeackfepllaaGreatDoor.Et
namespace Go.Proofs.YtlmjeackfepllaaGreatDoor.Dt
def leapB (y : Int) : Bool := decide (y % 4 = 0 ∧ (y % 100 ≠ 0 ∨ y % 400 = 0))
def lp (y : Int) : Int := if leapB y = true then 1 else 0
theorem lp_01 (y : Int) : 0 ≤ lp y ∧ lp y ≤ 1 := by
 unfold lp
 split <;> omega
theorem lp_true {y : Int} (h : leapB y = true) : lp y = 1 := if_pos h
theorem lp_false {y : Int} (h : leapB y = false) : lp y = 0 := if_neg (by rw [h]; simp)
theorem leap_iff (y : Int) : leapB y = true ↔ y % 4 = 0 ∧ (y % 100 ≠ 0 ∨ y % 400 = 0) := decide_eq_true_iff
def len (y m : Int) : Int := if m = 2 then 28 + lp y else if m = 4 ∨ m = 6 ∨ m = 9 ∨ m = 11 then 30 else if 1 ≤ m ∧ m ≤ 12 then 31 else 0
theorem len_2 (y : Int) : len y 2 = 28 + lp y := if_pos rfl
theorem len_30 {y m : Int} (h : m = 4 ∨ m = 6 ∨ m = 9 ∨ m = 11) : len y m = 30 := by
 unfold len
 rw [if_neg (by omega),if_pos h]
theorem len_31 {y m : Int} (h : m = 1 ∨ m = 3 ∨ m = 5 ∨ m = 7 ∨ m = 8 ∨ m = 10 ∨ m = 12) : len y m = 31 := by
 unfold len
 rw [if_neg (by omega),if_neg (by omega),if_pos (by omega)]
theorem len_0 {y m : Int} (h : m < 1 ∨ 12 < m) : len y m = 0 := by
 unfold len
 rw [if_neg (by omega),if_neg (by omega),if_neg (by omega)]
theorem len_bd (y m : Int) : 0 ≤ len y m ∧ len y m ≤ 31 := by
 have := lp_01 y
 unfold len
 split
 · omega
 ·
  split
  · omega
  · split <;> omega
theorem len_lo {y m : Int} (h0 : 1 ≤ m) (h1 : m ≤ 12) : 28 ≤ len y m := by
 have := lp_01 y
 unfold len
 split
 · omega
 ·
  split
  · omega
  · rw [if_pos ⟨h0,h1⟩]; omega
theorem len_month {y m : Int} (h : 1 ≤ len y m) : 1 ≤ m ∧ m ≤ 12 := by
 by_cases h1 : m < 1 ∨ 12 < m
 · rw [len_0 h1] at h; omega
 · omega
def cum (y m : Int) : Int :=
 (if m ≤ 1 then 0 else if m = 2 then 31 else if m = 3 then 59 else if m = 4 then 90 else if m = 5 then 120 else if m = 6 then 151 else if m = 7 then 181 else if m = 8 then 212 else if m = 9 then 243 else if m = 10 then 273 else if m = 11 then 304 else if m = 12 then 334 else 365)
  + (if m ≤ 2 then 0 else lp y)
theorem cum_1 (y : Int) : cum y 1 = 0 := rfl
theorem cum_13 (y : Int) : cum y 13 = 365 + lp y := rfl
theorem cum_succ (y m : Int) (h0 : 1 ≤ m) (h1 : m ≤ 12) : cum y (m + 1) = cum y m + len y m := by
 have h : m = 1 ∨ m = 2 ∨ m = 3 ∨ m = 4 ∨ m = 5 ∨ m = 6 ∨ m = 7 ∨ m = 8 ∨ m = 9 ∨ m = 10 ∨ m = 11 ∨ m = 12 := by omega
 rcases h with rfl | rfl | rfl | rfl | rfl | rfl | rfl | rfl | rfl | rfl | rfl | rfl <;> simp [cum,len] <;> omega
theorem cum_mono (y m : Int) : ∀ (k : Nat),1 ≤ m → m + k ≤ 13 → cum y m + 28 * k ≤ cum y (m + k)
 | 0,_,_ => by simp
 | k + 1,h0,h1 => by
  have h := cum_mono y m k h0 (by omega)
  have h2 := cum_succ y (m + k) (by omega) (by omega)
  have h3 := len_lo (y := y) (show 1 ≤ m + (k : Int) by omega) (show m + (k : Int) ≤ 12 by omega)
  have e : m + ((k + 1 : Nat) : Int) = m + k + 1 := by omega
  rw [e,h2]
  omega
theorem cum_le {y m n : Int} (h0 : 1 ≤ m) (h1 : m ≤ n) (h2 : n ≤ 13) : cum y m ≤ cum y n := by
 have h := cum_mono y m (n - m).toNat h0 (by omega)
 rw [show m + ((n - m).toNat : Int) = n by omega] at h
 omega
theorem cum_bd {y m : Int} (h0 : 1 ≤ m) (h1 : m ≤ 13) : 0 ≤ cum y m ∧ cum y m ≤ 366 := by
 have h := cum_le (y := y) (show (1 : Int) ≤ 1 by omega) h0 h1
 have h2 := cum_le (y := y) h0 h1 (show (13 : Int) ≤ 13 by omega)
 rw [cum_1] at h
 rw [cum_13] at h2
 have := lp_01 y
 omega
def yd (y : Int) : Int := 365 * (y - 1) + (y - 1) / 4 - (y - 1) / 100 + (y - 1) / 400
theorem yd_1 : yd 1 = 0 := rfl
theorem yd_last : yd 10000 = 3652059 := rfl
theorem yd_succ (y : Int) : yd (y + 1) = yd y + 365 + lp y := by
 unfold yd lp
 split
 ·
  rename_i h
  rw [leap_iff] at h
  omega
 ·
  rename_i h
  rw [leap_iff] at h
  omega
theorem yd_mono (y : Int) : ∀ (k : Nat),yd y + 365 * k ≤ yd (y + k)
 | 0 => by simp
 | k + 1 => by
  have h := yd_mono y k
  have h2 := yd_succ (y + k)
  have := lp_01 (y + k)
  have e : y + ((k + 1 : Nat) : Int) = y + k + 1 := by omega
  rw [e,h2]
  omega
theorem yd_le {y z : Int} (h : y ≤ z) : yd y + 365 * (z - y) ≤ yd z := by
 have h1 := yd_mono y (z - y).toNat
 rw [show y + ((z - y).toNat : Int) = z by omega] at h1
 omega
theorem yd_bd {y : Int} (h0 : 1 ≤ y) (h1 : y ≤ 10000) : 0 ≤ yd y ∧ yd y ≤ 3652059 := by
 have h2 := yd_le h0
 have h3 := yd_le h1
 rw [yd_1] at h2
 rw [yd_last] at h3
 omega
def rightB (y m d : Int) : Bool := decide (1 ≤ y ∧ y ≤ 9999 ∧ 1 ≤ d ∧ d ≤ len y m)
theorem right_iff (y m d : Int) : rightB y m d = true ↔ 1 ≤ y ∧ y ≤ 9999 ∧ 1 ≤ d ∧ d ≤ len y m := decide_eq_true_iff
theorem right_mk {y m d : Int} (h : 1 ≤ y ∧ y ≤ 9999 ∧ 1 ≤ d ∧ d ≤ len y m) : rightB y m d = true := decide_eq_true h
theorem right_bd {y m d : Int} (h : rightB y m d = true) : 1 ≤ y ∧ y ≤ 9999 ∧ 1 ≤ m ∧ m ≤ 12 ∧ 1 ≤ d ∧ d ≤ 31 := by
 obtain ⟨h1,h2,h3,h4⟩ := (right_iff y m d).1 h
 have h5 := len_month (y := y) (m := m) (by omega)
 have h6 := len_bd y m
 omega
def num (y m d : Int) : Int := yd y + cum y m + d - 1
def days (y m d : Int) : Int := if rightB y m d = true then num y m d else -1
theorem days_right {y m d : Int} (h : rightB y m d = true) : days y m d = num y m d := if_pos h
theorem days_not {y m d : Int} (h : rightB y m d = false) : days y m d = -1 := if_neg (by rw [h]; simp)
theorem num_hi {y m d : Int} (h : rightB y m d = true) : yd y + cum y m ≤ num y m d ∧ num y m d < yd y + cum y (m + 1) ∧ num y m d < yd (y + 1) := by
 obtain ⟨h1,h2,h3,h4⟩ := (right_iff y m d).1 h
 obtain ⟨_,_,h5,h6,_,_⟩ := right_bd h
 have h7 := cum_succ y m h5 h6
 have h8 := cum_le (y := y) (show 1 ≤ m + 1 by omega) (show m + 1 ≤ 13 by omega) (show (13 : Int) ≤ 13 by omega)
 rw [cum_13] at h8
 have h9 := yd_succ y
 unfold num
 omega
theorem num_bd {y m d : Int} (h : rightB y m d = true) : 0 ≤ num y m d ∧ num y m d ≤ 3652058 := by
 obtain ⟨h1,h2,h3,h4,_,_⟩ := right_bd h
 have h5 := yd_bd h1 (show y ≤ 10000 by omega)
 have h6 := cum_bd (y := y) h3 (show m ≤ 13 by omega)
 have h7 := num_hi h
 have h8 := yd_bd (show 1 ≤ y + 1 by omega) (show y + 1 ≤ 10000 by omega)
 omega
theorem days_bd (y m d : Int) : -1 ≤ days y m d ∧ days y m d ≤ 3652058 := by
 by_cases h : rightB y m d = true
 ·
  rw [days_right h]
  have := num_bd h
  omega
 ·
  rw [days_not (by simpa using h)]
  omega
def Lex (y m d z n e : Int) : Prop := y < z ∨ (y = z ∧ (m < n ∨ (m = n ∧ d < e)))
theorem lex_lt {y m d z n e : Int} (ha : rightB y m d = true) (hb : rightB z n e = true) (h : Lex y m d z n e) : num y m d < num z n e := by
 have h1 := num_hi ha
 have h2 := num_hi hb
 obtain ⟨_,_,a3,a4,_,_⟩ := right_bd ha
 obtain ⟨_,_,b3,b4,_,_⟩ := right_bd hb
 rcases h with h | ⟨rfl,h | ⟨rfl,h⟩⟩
 ·
  have h3 := yd_le (show y + 1 ≤ z by omega)
  have h4 := cum_bd (y := z) b3 (show n ≤ 13 by omega)
  omega
 ·
  have h3 := cum_le (y := y) (show 1 ≤ m + 1 by omega) (show m + 1 ≤ n by omega) (show n ≤ 13 by omega)
  omega
 ·
  unfold num
  omega
theorem lex_three (y m d z n e : Int) : Lex y m d z n e ∨ (y = z ∧ m = n ∧ d = e) ∨ Lex z n e y m d := by
 unfold Lex
 omega
theorem lt_lex {y m d z n e : Int} (ha : rightB y m d = true) (hb : rightB z n e = true) : num y m d < num z n e ↔ Lex y m d z n e := by
 refine ⟨fun h => ?_,lex_lt ha hb⟩
 rcases lex_three y m d z n e with h1 | ⟨rfl,rfl,rfl⟩ | h1
 · exact h1
 · omega
 ·
  have := lex_lt hb ha h1
  omega
theorem num_inj {y m d z n e : Int} (ha : rightB y m d = true) (hb : rightB z n e = true) (h : num y m d = num z n e) : y = z ∧ m = n ∧ d = e := by
 rcases lex_three y m d z n e with h1 | h1 | h1
 ·
  have := lex_lt ha hb h1
  omega
 · exact h1
 ·
  have := lex_lt hb ha h1
  omega
theorem next {y m d : Int} (h : rightB y m d = true) (hn : num y m d < 3652058) :
  (d < len y m ∧ rightB y m (d + 1) = true ∧ num y m (d + 1) = num y m d + 1)
  ∨ (d = len y m ∧ m < 12 ∧ rightB y (m + 1) 1 = true ∧ num y (m + 1) 1 = num y m d + 1)
  ∨ (d = len y m ∧ m = 12 ∧ rightB (y + 1) 1 1 = true ∧ num (y + 1) 1 1 = num y m d + 1) := by
 obtain ⟨h1,h2,h3,h4⟩ := (right_iff y m d).1 h
 obtain ⟨_,_,h5,h6,_,_⟩ := right_bd h
 by_cases hd : d < len y m
 · exact .inl ⟨hd,right_mk ⟨h1,h2,by omega,by omega⟩,by unfold num; omega⟩
 ·
  have hd' : d = len y m := by omega
  by_cases hm : m < 12
  ·
   have h7 := len_lo (y := y) (show 1 ≤ m + 1 by omega) (show m + 1 ≤ 12 by omega)
   have h8 := cum_succ y m h5 h6
   exact .inr (.inl ⟨hd',hm,right_mk ⟨h1,h2,by omega,by omega⟩,by unfold num; omega⟩)
  ·
   have hm' : m = 12 := by omega
   subst hm'
   have h8 := cum_succ y 12 h5 h6
   rw [show (12 : Int) + 1 = 13 from rfl,cum_13] at h8
   have h9 := yd_succ y
   have h10 : num (y + 1) 1 1 = num y 12 d + 1 := by
    unfold num
    rw [cum_1]
    omega
   have h11 : y < 9999 := by
    by_cases h : y < 9999
    · exact h
    ·
     have : y = 9999 := by omega
     subst this
     unfold num at h10 hn
     rw [cum_1,show (9999 : Int) + 1 = 10000 from rfl,yd_last] at h10
     omega
   have h12 := len_lo (y := y + 1) (show (1 : Int) ≤ 1 by omega) (show (1 : Int) ≤ 12 by omega)
   exact .inr (.inr ⟨hd',rfl,right_mk ⟨by omega,by omega,by omega,by omega⟩,h10⟩)
theorem exists_day : ∀ (n : Nat),n ≤ 3652058 → ∃ y m d : Int,rightB y m d = true ∧ num y m d = n
 | 0,_ => ⟨1,1,1,by decide,by decide⟩
 | n + 1,h => by
  obtain ⟨y,m,d,h1,h2⟩ := exists_day n (by omega)
  rcases next h1 (by omega) with ⟨_,h3,h4⟩ | ⟨_,_,h3,h4⟩ | ⟨_,_,h3,h4⟩
  · exact ⟨_,_,_,h3,by omega⟩
  · exact ⟨_,_,_,h3,by omega⟩
  · exact ⟨_,_,_,h3,by omega⟩
end Go.Proofs.YtlmjeackfepllaaGreatDoor.Dt
namespace Go.Proofs.YtlmjeackfepllaaGreatDoor.Dt
def dig (u : Nat) : UInt8 := UInt8.ofNat (48 + u % 10)
theorem dig_nat (u : Nat) : (dig u).toNat = 48 + u % 10 := by
 unfold dig
 rw [UInt8.toNat_ofNat']
 omega
theorem dig_lt (u v : Nat) : dig u < dig v ↔ u % 10 < v % 10 := by
 rw [UInt8.lt_iff_toNat_lt,dig_nat,dig_nat]
 omega
theorem dig_eq (u v : Nat) : dig u = dig v ↔ u % 10 = v % 10 := by
 rw [← UInt8.toNat_inj,dig_nat,dig_nat]
 omega
def isDig (b : UInt8) : Bool := decide (48 ≤ b.toNat ∧ b.toNat ≤ 57)
theorem isDig_dig (u : Nat) : isDig (dig u) = true := by
 unfold isDig
 rw [dig_nat]
 exact decide_eq_true (by omega)
def worth (b : UInt8) : Nat := b.toNat - 48
theorem worth_dig (u : Nat) : worth (dig u) = u % 10 := by
 unfold worth
 rw [dig_nat]
 omega
def bare (y m d : Nat) : List UInt8 := [dig (y / 1000),dig (y / 100),dig (y / 10),dig y,45,dig (m / 10),dig m,45,dig (d / 10),dig d]
def shown (y m d : Int) : List UInt8 := if rightB y m d = true then bare y.toNat m.toNat d.toNat else []
theorem shown_right {y m d : Int} (h : rightB y m d = true) : shown y m d = bare y.toNat m.toNat d.toNat := if_pos h
theorem shown_not {y m d : Int} (h : rightB y m d = false) : shown y m d = [] := if_neg (by rw [h]; simp)
theorem bare_len (y m d : Nat) : (bare y m d).length = 10 := rfl
def parse : List UInt8 → Option (Nat × Nat × Nat)
 | [a,b,c,d,e,f,g,h,i,j] =>
  if isDig a && isDig b && isDig c && isDig d && (e == 45) && isDig f && isDig g && (h == 45) && isDig i && isDig j then
   some (1000 * worth a + 100 * worth b + 10 * worth c + worth d,10 * worth f + worth g,10 * worth i + worth j)
  else none
 | _ => none
theorem parse_ten (a b c d e f g h i j : UInt8) : parse [a,b,c,d,e,f,g,h,i,j] = if isDig a && isDig b && isDig c && isDig d && (e == 45) && isDig f && isDig g && (h == 45) && isDig i && isDig j then
   some (1000 * worth a + 100 * worth b + 10 * worth c + worth d,10 * worth f + worth g,10 * worth i + worth j)
  else none := rfl
theorem parse_len {l : List UInt8} (h : l.length ≠ 10) : parse l = none := by
 unfold parse
 split
 · exact absurd rfl h
 · rfl
theorem ten {l : List UInt8} (h : l.length = 10) : ∃ a b c d e f g h i j,l = [a,b,c,d,e,f,g,h,i,j] := by
 match l,h with
 | [a,b,c,d,e,f,g,h,i,j],_ => exact ⟨a,b,c,d,e,f,g,h,i,j,rfl⟩
theorem parse_bare (y m d : Nat) : parse (bare y m d) = some (y % 10000,m % 100,d % 100) := by
 unfold parse bare
 simp only [isDig_dig,worth_dig,beq_self_eq_true,Bool.and_true,if_true,Option.some.injEq,Prod.mk.injEq]
 refine ⟨?_,?_,?_⟩ <;> omega
def told (l : List UInt8) : Int × Int × Int × Int :=
 match parse l with
 | none => (0,0,0,4)
 | some (y,m,d) => if rightB y m d = true then ((y : Int),(m : Int),(d : Int),0) else (0,0,0,9)
theorem told_none {l : List UInt8} (h : parse l = none) : told l = (0,0,0,4) := by
 unfold told
 rw [h]
theorem told_some {l : List UInt8} {y m d : Nat} (h : parse l = some (y,m,d)) (hr : rightB y m d = true) : told l = ((y : Int),(m : Int),(d : Int),0) := by
 unfold told
 rw [h]
 exact if_pos hr
theorem told_date {l : List UInt8} {y m d : Nat} (h : parse l = some (y,m,d)) (hr : rightB y m d = false) : told l = (0,0,0,9) := by
 unfold told
 rw [h]
 exact if_neg (by rw [hr]; simp)
theorem told_shown {y m d : Int} (h : rightB y m d = true) : told (shown y m d) = (y,m,d,0) := by
 obtain ⟨h1,h2,h3,h4,h5,h6⟩ := right_bd h
 have e1 : ((y.toNat % 10000 : Nat) : Int) = y := by omega
 have e2 : ((m.toNat % 100 : Nat) : Int) = m := by omega
 have e3 : ((d.toNat % 100 : Nat) : Int) = d := by omega
 have hp := parse_bare y.toNat m.toNat d.toNat
 rw [shown_right h]
 rw [told_some hp (by rw [e1,e2,e3]; exact h),e1,e2,e3]
theorem less_cons (a b : UInt8) (x y : List UInt8) : Op.bytesLess (a :: x) (b :: y) = true ↔ a < b ∨ (a = b ∧ Op.bytesLess x y = true) := by
 simp [Op.bytesLess]
theorem less_same (a : UInt8) (x y : List UInt8) : Op.bytesLess (a :: x) (a :: y) = true ↔ Op.bytesLess x y = true := by
 simp [Op.bytesLess]
theorem less_nil (x : List UInt8) : Op.bytesLess x [] = false := by
 cases x <;> rfl
theorem split2 (u : Nat) (h : u ≤ 99) : ∃ c d,u = 10 * c + d ∧ c ≤ 9 ∧ d ≤ 9 := ⟨u / 10,u % 10,by omega,by omega,by omega⟩
theorem split4 (u : Nat) (h : u ≤ 9999) : ∃ a b c d,u = 1000 * a + 100 * b + 10 * c + d ∧ a ≤ 9 ∧ b ≤ 9 ∧ c ≤ 9 ∧ d ≤ 9 :=
 ⟨u / 1000,u / 100 % 10,u / 10 % 10,u % 10,by omega,by omega,by omega,by omega,by omega⟩
theorem less_two (u v : Nat) (hu : u ≤ 99) (hv : v ≤ 99) (x y : List UInt8) : Op.bytesLess (dig (u / 10) :: dig u :: x) (dig (v / 10) :: dig v :: y) = true ↔ u < v ∨ (u = v ∧ Op.bytesLess x y = true) := by
 rw [less_cons,less_cons,dig_lt,dig_lt,dig_eq,dig_eq]
 obtain ⟨a,b,rfl,ha,hb⟩ := split2 u hu
 obtain ⟨c,d,rfl,hc,hd⟩ := split2 v hv
 rw [show (10 * a + b) / 10 % 10 = a by omega,show (10 * a + b) % 10 = b by omega,show (10 * c + d) / 10 % 10 = c by omega,show (10 * c + d) % 10 = d by omega]
 by_cases h : Op.bytesLess x y = true
 ·
  simp only [h,eq_self,and_true]
  omega
 ·
  have h' : Op.bytesLess x y = false := by simpa using h
  simp only [h',Bool.false_eq_true,and_false,or_false]
  omega
theorem less_four (u v : Nat) (hu : u ≤ 9999) (hv : v ≤ 9999) (x y : List UInt8) : Op.bytesLess (dig (u / 1000) :: dig (u / 100) :: dig (u / 10) :: dig u :: x) (dig (v / 1000) :: dig (v / 100) :: dig (v / 10) :: dig v :: y) = true ↔ u < v ∨ (u = v ∧ Op.bytesLess x y = true) := by
 rw [less_cons,less_cons,less_cons,less_cons,dig_lt,dig_lt,dig_lt,dig_lt,dig_eq,dig_eq,dig_eq,dig_eq]
 obtain ⟨a,b,c,d,rfl,ha,hb,hc,hd⟩ := split4 u hu
 obtain ⟨e,f,g,i,rfl,he,hf,hg,hi⟩ := split4 v hv
 rw [show (1000 * a + 100 * b + 10 * c + d) / 1000 % 10 = a by omega,show (1000 * a + 100 * b + 10 * c + d) / 100 % 10 = b by omega,show (1000 * a + 100 * b + 10 * c + d) / 10 % 10 = c by omega,show (1000 * a + 100 * b + 10 * c + d) % 10 = d by omega]
 rw [show (1000 * e + 100 * f + 10 * g + i) / 1000 % 10 = e by omega,show (1000 * e + 100 * f + 10 * g + i) / 100 % 10 = f by omega,show (1000 * e + 100 * f + 10 * g + i) / 10 % 10 = g by omega,show (1000 * e + 100 * f + 10 * g + i) % 10 = i by omega]
 by_cases h : Op.bytesLess x y = true
 ·
  simp only [h,eq_self,and_true]
  omega
 ·
  have h' : Op.bytesLess x y = false := by simpa using h
  simp only [h',Bool.false_eq_true,and_false,or_false]
  omega
theorem less_bare (y m d z n e : Nat) (h1 : y ≤ 9999) (h2 : m ≤ 99) (h3 : d ≤ 99) (k1 : z ≤ 9999) (k2 : n ≤ 99) (k3 : e ≤ 99) :
  Op.bytesLess (bare y m d) (bare z n e) = true ↔ y < z ∨ (y = z ∧ (m < n ∨ (m = n ∧ d < e))) := by
 unfold bare
 rw [less_four y z h1 k1,less_same,less_two m n h2 k2,less_same,less_two d e h3 k3,less_nil]
 simp
theorem less_shown {y m d z n e : Int} (ha : rightB y m d = true) (hb : rightB z n e = true) : Op.bytesLess (shown y m d) (shown z n e) = decide (num y m d < num z n e) := by
 obtain ⟨a1,a2,a3,a4,a5,a6⟩ := right_bd ha
 obtain ⟨b1,b2,b3,b4,b5,b6⟩ := right_bd hb
 rw [Bool.eq_iff_iff,shown_right ha,shown_right hb,less_bare _ _ _ _ _ _ (by omega) (by omega) (by omega) (by omega) (by omega) (by omega),decide_eq_true_iff,lt_lex ha hb]
 unfold Lex
 omega
end Go.Proofs.YtlmjeackfepllaaGreatDoor.Dt
namespace Go.Proofs.YtlmjeackfepllaaGreatDoor.Rn
open Go.Lib
def runesF : Nat → List UInt8 → List Nat
 | 0,_ => []
 | f + 1,l => if l = [] then [] else (decodeL l).1 :: runesF f (l.drop (decodeL l).2)
def runes (l : List UInt8) : List Nat := runesF l.length l
def letter (r : Int) : Bool := (decide (97 ≤ r ∧ r ≤ 122) || decide (65 ≤ r ∧ r ≤ 90)) || decide (192 ≤ r ∧ r ≤ 591 ∧ r ≠ 215 ∧ r ≠ 247)
def digit (r : Int) : Bool := decide (48 ≤ r ∧ r ≤ 57)
def inner (r : Int) : Bool := digit r || decide (r = 45 ∨ r = 95 ∨ r = 46)
def nameOk : Bool → List Nat → Bool
 | _,[] => true
 | first,r :: rs => (letter r || (!first && inner r)) && nameOk false rs
def name (l : List UInt8) : Bool := (!l.isEmpty && decide (l.length ≤ 24)) && nameOk true (runes l)
def cutF : Nat → List UInt8 → Int → Nat
 | 0,_,_ => 0
 | f + 1,l,n => if l = [] then 0 else if n < 1 then 0 else (decodeL l).2 + cutF f (l.drop (decodeL l).2) (n - 1)
def cut (l : List UInt8) (n : Int) : Nat := cutF l.length l n
end Go.Proofs.YtlmjeackfepllaaGreatDoor.Rn
