import Derived.Maps.AppendAt
import Derived.Laws.AppendOwnNone
import Derived.Laws.Rows
import Derived.Laws.CopyOwn
import Derived.Laws.MakeOwn
import Derived.Lib.QuietBelow
import Derived.RegionTactic
import Derived.ProofKit
import Derived.OpenShut
import Derived.ShutString
import Derived.ChangeOld
import Derived.SizedLaws
import Derived.Deep.Slices
import Derived.Lib.SmallJoins
import Derived.Deep.MidRow
import Derived.Test.YtillcleccjgocaaGreatZIr1
import Derived.Test.YtillcleccjgocaaGreatZIr2
namespace Go.Proofs.YtillcleccjgocaaGreat.Pd
open Go.RowKit
open Mem
def rv (r : T) : List Value := [.string r.ser,.int .i64 r.num,.int .i64 r.y,.int .i64 r.m,.int .i64 r.d,.int .i64 r.net,.int .i64 r.tax,.int .i64 r.gross,.slice r.parts.ao r.parts.n r.parts.cap,.string r.ofS,.int .i64 r.ofN,.bool r.back]
theorem rv_len (r : T) : (rv r).length = 12 := rfl
theorem flat_len : ∀ rs : List T,(rs.flatMap rv).length = rs.length * 12
 | [] => rfl
 | r :: l => by
  rw [List.flatMap_cons,List.length_append,rv_len,flat_len l,List.length_cons]
  omega
theorem flat_at : ∀ (rs : List T) (k p : Nat) (hk : k < rs.length),p < 12 → (rs.flatMap rv)[k * 12 + p]? = (rv rs[k])[p]?
 | r :: l,0,p,_,hp => by
  rw [List.flatMap_cons,List.getElem?_append_left (by rw [rv_len]; omega),Nat.zero_mul,Nat.zero_add]
  rfl
 | r :: l,k + 1,p,hk,hp => by
  rw [List.flatMap_cons,List.getElem?_append_right (by rw [rv_len]; omega),rv_len,show (k + 1) * 12 + p - 12 = k * 12 + p by omega]
  exact flat_at l k p (by simpa using hk) hp
theorem one_cell (rs : List T) : ∀ v ∈ rs.flatMap rv,v.oneCell' = true := by
 intro v hv
 obtain ⟨r,_,h⟩ := List.mem_flatMap.1 hv
 unfold rv at h
 simp only [List.mem_cons,List.not_mem_nil,or_false] at h
 rcases h with rfl | rfl | rfl | rfl | rfl | rfl | rfl | rfl | rfl | rfl | rfl | rfl <;> rfl
theorem news_of {w : World} {b off : Nat} {rs : List T} (h : ∀ (k : Nat) (hk : k < rs.length),At w b (off + k * 12) rs[k]) (j : Nat) (u : Value) (hu : (rs.flatMap rv)[j]? = some u) : w.cell? ((⟨b,off,none⟩ : Addr).add j) = some u := by
 have hj : j < (rs.flatMap rv).length := by
  obtain ⟨hj,_⟩ := List.getElem?_eq_some_iff.1 hu
  exact hj
 rw [flat_len] at hj
 obtain ⟨k,p,rfl,hp⟩ : ∃ k p,j = k * 12 + p ∧ p < 12 := ⟨j / 12,j % 12,by omega,by omega⟩
 have hk : k < rs.length := by omega
 rw [flat_at rs k p hk hp] at hu
 have ha : (⟨b,off,none⟩ : Addr).add (k * 12 + p) = ⟨b,off + k * 12 + p,none⟩ := by
  unfold Addr.add
  split
  ·
   rename_i e
   simp only [Addr.mk.injEq,true_and,and_true]
   omega
  ·
   simp only [Addr.mk.injEq,true_and,and_true]
   omega
 rw [ha]
 obtain ⟨c0,c1,c2,c3,c4,c5,c6,c7,c8,c9,c10,c11⟩ := h k hk
 have hp' : p = 0 ∨ p = 1 ∨ p = 2 ∨ p = 3 ∨ p = 4 ∨ p = 5 ∨ p = 6 ∨ p = 7 ∨ p = 8 ∨ p = 9 ∨ p = 10 ∨ p = 11 := by omega
 unfold rv at hu
 rcases hp' with rfl | rfl | rfl | rfl | rfl | rfl | rfl | rfl | rfl | rfl | rfl | rfl
 all_goals simp at hu
 all_goals subst hu
 · exact c0
 · exact c1
 · exact c2
 · exact c3
 · exact c4
 · exact c5
 · exact c6
 · exact c7
 · exact c8
 · exact c9
 · exact c10
 · exact c11
def Own (w : World) (B : Nat) (v : Value) (xs : List T) : Prop := w.ownsRow B 100 12 v xs.length (xs.flatMap rv)
theorem own_nil (w : World) (B : Nat) : Own w B (.slice none 0 0) [] := ⟨rfl,.inl ⟨rfl,rfl⟩⟩
theorem own_ls {w : World} {B : Nat} {v : Value} {xs : List T} (h : Own w B v xs) (hs : ∀ r ∈ xs,Short r) : ∃ ao cap,v = .slice ao xs.length cap ∧ Ls w ao xs.length cap xs ∧ (∀ ad,ao = some ad → ∃ g,ad = ⟨g,0,none⟩ ∧ B ≤ g) := by
 rcases h.2 with ⟨h',h2⟩ | ⟨g,cap,cur,h',hb,hg,hnc,hcm,hcs,htake⟩
 ·
  have e : xs = [] := List.length_eq_zero_iff.1 h2
  subst e
  exact ⟨none,0,h',⟨rfl,Nat.le_refl _,by omega,fun _ => rfl,.inl rfl,hs⟩,fun ad k => by cases k⟩
 ·
  refine ⟨some ⟨g,0,none⟩,cap,h',⟨rfl,hnc,hcm,fun k => (by cases k),.inr ⟨g,0,rfl,fun k hk => ?_⟩,hs⟩,fun ad k => by cases k; exact ⟨g,rfl,hb⟩⟩
  have hcell : ∀ p,p < 12 → w.cell? ⟨g,0 + k * 12 + p,none⟩ = (rv xs[k])[p]? := by
   intro p hp
   rw [Nat.zero_add,cell_of_row w g _ _ _ _ hg,← flat_at xs k p hk hp,← htake,List.getElem?_take_of_lt (by omega)]
   simp
  exact ⟨hcell 0 (by omega),hcell 1 (by omega),hcell 2 (by omega),hcell 3 (by omega),hcell 4 (by omega),hcell 5 (by omega),hcell 6 (by omega),hcell 7 (by omega),hcell 8 (by omega),hcell 9 (by omega),hcell 10 (by omega),hcell 11 (by omega)⟩
def zero : T := ⟨.empty,0,0,0,0,0,0,0,⟨none,0,0⟩,.empty,0,false⟩
def zeroV : Value := .agg #[.string .empty,.int .i64 0,.int .i64 0,.int .i64 0,.int .i64 0,.int .i64 0,.int .i64 0,.int .i64 0,.slice none 0 0,.string .empty,.int .i64 0,.bool false]
theorem info : (Tryz.prog.info? 100).map (fun i => (i.zero,i.size,i.bytes)) = some (some zeroV,12,128) := by kernel_rfl
theorem wp_append {o : Oper} {a : Act} {K : Act → World → Prop} {Q : Exit → Act → World → Prop} (w : World) (s x : Operand)
  (ho : o.op = .call { callee := .builtin .append,args := #[s,x],argTypes := #[26,26] })
  (B : Nat) (v : Value) (xs : List T) (hs : a.eval s = v) (hown : Own w B v xs)
  (ao : Option Addr) (n cap : Nat) (zs : List T) (hx : a.eval x = .slice ao n cap) (hn : n = zs.length) (hnil : ao = none → cap = 0) (hsrc : Seg w ao zs) (hl : (xs.length + n) * 128 ≤ 140737488355328) (hb : B ≤ w.heap.size)
  (h : ∀ v' w1,Own w1 B v' (xs ++ zs) → w.grownBy w1 v.ownBlock → (v'.ownBlock = v.ownBlock ∨ v'.ownBlock = some w.heap.size) → K (a.put o.dst v') w1) : o.wp Tryz.prog a w K Q := by
 have hzs : zeroV.cells.size = 12 := rfl
 obtain ⟨i0,hi,hz0,hz1,hz2⟩ := info_parts info
 have hmx : maxLen = 9223372036854775807 := rfl
 have empty : zs = [] → n = 0 → Own w B v (xs ++ zs) := by
  intro e _
  rw [e,List.append_nil]
  exact hown
 cases ao with
 | none =>
  obtain rfl : cap = 0 := hnil rfl
  rcases hsrc with e | ⟨b,off,e,_⟩
  ·
   obtain rfl : n = 0 := by rw [hn,e]; rfl
   have hrun := run_append_owned_none (P := Tryz.prog) (w := w) B 26 o.type 100 i0 12 Tryz.underlying26 hi v _ _ hown
   unfold Oper.wp
   simp [execOp,ho,resolve,invoke,builtin,hs,hx,hrun,Result.andThen]
   exact h v w (empty e rfl) ⟨rfl,rfl,rfl,Nat.le_refl _,fun _ _ _ => rfl⟩ (.inl rfl)
  · cases e
 | some ad =>
  obtain ⟨v',w',hr,h2,h3,_,h5⟩ := run_append_own_at (P := Tryz.prog) w B 26 o.type 100 i0 zeroV 12 128 Tryz.underlying26 hi hz0 hz1 hz2 hzs (by omega) v xs.length (xs.flatMap rv) hown ad n cap (zs.flatMap rv) (by rw [flat_len,hn]) (by
   rcases hsrc with e | ⟨b,off,e,hc⟩
   ·
    rw [e]
    intro j u hu
    simp at hu
   ·
    cases e
    exact fun j u hu => news_of hc j u hu) (one_cell zs) (by omega) hl hb
  unfold Oper.wp execOp
  simp only [ho,resolve,invoke,builtin,Sem.run_bind,Sem.run_pure,Result.andThen_ok,List.map_toArray,List.map_cons,List.map_nil,hs,hx,hr]
  refine h v' w' ?_ h3 h5
  unfold Own
  rw [List.flatMap_append,List.length_append,← hn]
  exact h2
theorem wpList_append {ops : Array Oper} {rest : List Oper} {o : Oper} {a : Act} {Q : Exit → Act → World → Prop} (w : World) (hgd : o.guard = none) (s x : Operand)
  (ho : o.op = .call { callee := .builtin .append,args := #[s,x],argTypes := #[26,26] })
  (B : Nat) (v : Value) (xs : List T) (hs : a.eval s = v) (hown : Own w B v xs)
  (ao : Option Addr) (n cap : Nat) (zs : List T) (hx : a.eval x = .slice ao n cap) (hn : n = zs.length) (hnil : ao = none → cap = 0) (hsrc : Seg w ao zs) (hl : (xs.length + n) * 128 ≤ 140737488355328) (hb : B ≤ w.heap.size)
  (h : ∀ v' w1,Own w1 B v' (xs ++ zs) → w.grownBy w1 v.ownBlock → (v'.ownBlock = v.ownBlock ∨ v'.ownBlock = some w.heap.size) → wpList Tryz.prog ops Q rest (a.put o.dst v') w1) : wpList Tryz.prog ops Q (o :: rest) a w :=
 wpList_plain hgd fun _ hK => wp_append w s x ho B v xs hs hown ao n cap zs hx hn hnil hsrc hl hb fun v' w1 h1 h2 h3 => hK _ _ (h v' w1 h1 h2 h3)
theorem own_alloc {w : World} {B : Nat} {v : Value} {xs : List T} (h : Own w B v xs) (o : Obj) : Own (w.alloc o) B v xs := World.ownsRow.alloc h o
theorem own_below {w u : World} {B : Nat} {v : Value} {xs : List T} (h : Own w B v xs) (k : Below w.heap.size w u) : Own u B v xs := by
 obtain ⟨h1,h2⟩ := h
 refine ⟨h1,?_⟩
 rcases h2 with h2 | ⟨g,cap,cur,h',hb,hg,h3⟩
 · exact .inl h2
 ·
  refine .inr ⟨g,cap,cur,h',hb,?_,h3⟩
  have hl : g < w.heap.size := by
   obtain ⟨hl,_⟩ := Array.getElem?_eq_some_iff.1 hg
   exact hl
  rw [k.block g hl]
  exact hg
def block (r : T) : Obj := .cells #[.string r.ser,.int .i64 r.num,.int .i64 r.y,.int .i64 r.m,.int .i64 r.d,.int .i64 r.net,.int .i64 r.tax,.int .i64 r.gross,.slice r.parts.ao r.parts.n r.parts.cap,.string r.ofS,.int .i64 r.ofN,.bool r.back] 100 (0,0)
theorem seg_block {X : World} {g : Nat} {r : T} (h : X.heap[g]? = some (block r)) : Seg X (some ⟨g,0,none⟩) [r] := by
 refine .inr ⟨g,0,rfl,fun k hk => ?_⟩
 obtain rfl : k = 0 := by simpa using hk
 unfold block at h
 refine ⟨?_,?_,?_,?_,?_,?_,?_,?_,?_,?_,?_,?_⟩
 all_goals rw [cell_of_row X g _ _ _ _ h]
 all_goals rfl
end Go.Proofs.YtillcleccjgocaaGreat.Pd
namespace Go.Proofs.YtillcleccjgocaaGreat.Ca
open Go.RowKit
open Mem
structure T where
 sess : Int
 seq : Int
 kind : Int
 ser : ByteArray
 lim : Int
 cat : ByteArray
 ry : Int
 rm : Int
 rd : Int
 bp : Int
 y : Int
 m : Int
 d : Int
 lines : Sl
 ofS : ByteArray
 ofN : Int
 csess : Int
def Short (r : T) : Prop := Fit r.sess ∧ Fit r.seq ∧ Fit r.kind ∧ r.ser.size ≤ 140737488355328 ∧ Fit r.lim ∧ r.cat.size ≤ 140737488355328 ∧ Fit r.ry ∧ Fit r.rm ∧ Fit r.rd ∧ Fit r.bp ∧ Fit r.y ∧ Fit r.m ∧ Fit r.d ∧ r.ofS.size ≤ 140737488355328 ∧ Fit r.ofN ∧ Fit r.csess
end Go.Proofs.YtillcleccjgocaaGreat.Ca
namespace Go.Proofs.YtillcleccjgocaaGreat.Ca
open Go.RowKit
open Mem
structure At (u : World) (b o : Nat) (r : T) : Prop where
 c0 : u.cell? ⟨b,o,none⟩ = some (.int .i64 r.sess)
 c1 : u.cell? ⟨b,o + 1,none⟩ = some (.int .i64 r.seq)
 c2 : u.cell? ⟨b,o + 2,none⟩ = some (.int .i64 r.kind)
 c3 : u.cell? ⟨b,o + 3,none⟩ = some (.string r.ser)
 c4 : u.cell? ⟨b,o + 4,none⟩ = some (.int .i64 r.lim)
 c5 : u.cell? ⟨b,o + 5,none⟩ = some (.string r.cat)
 c6 : u.cell? ⟨b,o + 6,none⟩ = some (.int .i64 r.ry)
 c7 : u.cell? ⟨b,o + 7,none⟩ = some (.int .i64 r.rm)
 c8 : u.cell? ⟨b,o + 8,none⟩ = some (.int .i64 r.rd)
 c9 : u.cell? ⟨b,o + 9,none⟩ = some (.int .i64 r.bp)
 c10 : u.cell? ⟨b,o + 10,none⟩ = some (.int .i64 r.y)
 c11 : u.cell? ⟨b,o + 11,none⟩ = some (.int .i64 r.m)
 c12 : u.cell? ⟨b,o + 12,none⟩ = some (.int .i64 r.d)
 c13 : u.cell? ⟨b,o + 13,none⟩ = some (.slice r.lines.ao r.lines.n r.lines.cap)
 c14 : u.cell? ⟨b,o + 14,none⟩ = some (.string r.ofS)
 c15 : u.cell? ⟨b,o + 15,none⟩ = some (.int .i64 r.ofN)
 c16 : u.cell? ⟨b,o + 16,none⟩ = some (.int .i64 r.csess)
def Seg (w : World) (ao : Option Addr) (rs : List T) : Prop := rs = [] ∨ ∃ b off,ao = some ⟨b,off,none⟩ ∧ ∀ (k : Nat) (hk : k < rs.length),At w b (off + k * 17) rs[k]
structure Ls (w : World) (ao : Option Addr) (n cap : Nat) (rs : List T) : Prop where
 len : n = rs.length
 fits : n ≤ cap
 reach : cap ≤ 9223372036854775807
 nil : ao = none → cap = 0
 seg : Seg w ao rs
 short : ∀ r ∈ rs,Short r
end Go.Proofs.YtillcleccjgocaaGreat.Ca
namespace Go.Proofs.YtillcleccjgocaaGreat.Ca
open Go.RowKit
open Mem
def zero : T := ⟨0,0,0,.empty,0,.empty,0,0,0,0,0,0,0,⟨none,0,0⟩,.empty,0,0⟩
end Go.Proofs.YtillcleccjgocaaGreat.Ca
namespace Go.Proofs.YtillcleccjgocaaGreat
open Go.RowKit
def dayV (y m d : Int) : Value := .agg #[.int .i64 y,.int .i64 m,.int .i64 d]
theorem below_box {w0 w : World} (h : Below w0.heap.size w0 w) (o : Obj) : Below w0.heap.size w0 (w.alloc o) := h.alloc h.size o
theorem bcell {W w1 : World} (hb : Below W.heap.size W w1) : (∀ b o,b < W.heap.size → w1.cell? ⟨b,o,none⟩ = W.cell? ⟨b,o,none⟩) ∧ (∀ b o,b < W.heap.size → w1.frozen? ⟨b,o,none⟩ = W.frozen? ⟨b,o,none⟩) :=
 ⟨fun b o h => hb.cell (p := ⟨b,o,none⟩) h,fun b o h => hb.frozen (p := ⟨b,o,none⟩) h⟩
end Go.Proofs.YtillcleccjgocaaGreat
namespace Go.Proofs.YtillcleccjgocaaGreat
open Go.RowKit
open Vt (Rt)
def rowV (r : Rt) : Value := .agg #[.string r.cat,.int .i64 r.y,.int .i64 r.m,.int .i64 r.d,.int .i64 r.bp]
def Short (r : Rt) : Prop := r.cat.size ≤ 140737488355328 ∧ Fit r.y ∧ Fit r.m ∧ Fit r.d ∧ Fit r.bp
def boxR (w : World) (r : Rt) : World := w.alloc (.cells #[.string r.cat,.int .i64 r.y,.int .i64 r.m,.int .i64 r.d,.int .i64 r.bp] 63)
theorem cell_lt {u : World} {b o : Nat} {v : Value} (h : u.cell? ⟨b,o,none⟩ = some v) : b < u.heap.size := by
 by_cases k : b < u.heap.size
 · exact k
 ·
  exfalso
  simp [World.cell?,Array.getElem?_eq_none (Nat.le_of_not_lt k)] at h
def RowC (u : World) (b : Nat) (r : Rt) : Prop :=
 u.cell? ⟨b,0,none⟩ = some (.string r.cat) ∧ u.cell? ⟨b,1,none⟩ = some (.int .i64 r.y) ∧ u.cell? ⟨b,2,none⟩ = some (.int .i64 r.m) ∧ u.cell? ⟨b,3,none⟩ = some (.int .i64 r.d) ∧ u.cell? ⟨b,4,none⟩ = some (.int .i64 r.bp)
theorem RowC.below {u v : World} {b : Nat} {r : Rt} (h : RowC u b r) (k : Below u.heap.size u v) : RowC v b r := by
 obtain ⟨h0,h1,h2,h3,h4⟩ := h
 have hl := cell_lt h0
 unfold RowC
 rw [(bcell k).1 _ _ hl,(bcell k).1 _ _ hl,(bcell k).1 _ _ hl,(bcell k).1 _ _ hl,(bcell k).1 _ _ hl]
 exact ⟨h0,h1,h2,h3,h4⟩
theorem rowC_box (w : World) (r : Rt) : RowC (boxR w r) w.heap.size r := by
 unfold boxR RowC
 simp [go_sem]
theorem boxR_size (w : World) (r : Rt) : (boxR w r).heap.size = w.heap.size + 1 := by
 unfold boxR
 simp
theorem below_boxR (w : World) (r : Rt) : Below w.heap.size w (boxR w r) := (Below.refl _ _).alloc (Nat.le_refl _) _
theorem boxed1 (w : World) (a : Rt) : ∃ W,w.alloc (.cells #[.string a.cat,.int .i64 a.y,.int .i64 a.m,.int .i64 a.d,.int .i64 a.bp] 63) = W ∧ Below w.heap.size w W ∧ RowC W w.heap.size a :=
 ⟨_,rfl,below_boxR w a,rowC_box w a⟩
theorem boxed2 (w : World) (a b : Rt) : ∃ W,(w.alloc (.cells #[.string a.cat,.int .i64 a.y,.int .i64 a.m,.int .i64 a.d,.int .i64 a.bp] 63)).alloc (.cells #[.string b.cat,.int .i64 b.y,.int .i64 b.m,.int .i64 b.d,.int .i64 b.bp] 63) = W ∧
  Below w.heap.size w W ∧ RowC W w.heap.size a ∧ RowC W (w.heap.size + 1) b := by
 refine ⟨_,rfl,((below_boxR w a).trans ((below_boxR (boxR w a) b).mono (below_boxR w a).size)),(rowC_box w a).below (below_boxR _ b),?_⟩
 have h := rowC_box (boxR w a) b
 rw [boxR_size] at h
 exact h
theorem bchain {w0 u v : World} (h : Below w0.heap.size w0 u) (k : Below u.heap.size u v) : Below w0.heap.size w0 v := h.trans (k.mono h.size)
end Go.Proofs.YtillcleccjgocaaGreat
namespace Go.Proofs.YtillcleccjgocaaGreat
open Go.RowKit
open Vt (Rt)
structure RowAt (u : World) (b o : Nat) (r : Rt) : Prop where
 c0 : u.cell? ⟨b,o,none⟩ = some (.string r.cat)
 c1 : u.cell? ⟨b,o + 1,none⟩ = some (.int .i64 r.y)
 c2 : u.cell? ⟨b,o + 2,none⟩ = some (.int .i64 r.m)
 c3 : u.cell? ⟨b,o + 3,none⟩ = some (.int .i64 r.d)
 c4 : u.cell? ⟨b,o + 4,none⟩ = some (.int .i64 r.bp)
theorem RowAt.below {u v : World} {b o : Nat} {r : Rt} (h : RowAt u b o r) (k : Below u.heap.size u v) : RowAt v b o r := by
 have hl := cell_lt h.c0
 exact ⟨by rw [(bcell k).1 _ _ hl]; exact h.c0,by rw [(bcell k).1 _ _ hl]; exact h.c1,by rw [(bcell k).1 _ _ hl]; exact h.c2,by rw [(bcell k).1 _ _ hl]; exact h.c3,by rw [(bcell k).1 _ _ hl]; exact h.c4⟩
def SegR (w : World) (ao : Option Addr) (rs : List Rt) : Prop := rs = [] ∨ ∃ b off,ao = some ⟨b,off,none⟩ ∧ ∀ (k : Nat) (hk : k < rs.length),RowAt w b (off + k * 5) rs[k]
theorem SegR.below {w v : World} {ao : Option Addr} {rs : List Rt} (h : SegR w ao rs) (k : Below w.heap.size w v) : SegR v ao rs := by
 rcases h with h | ⟨b,off,e,h⟩
 · exact .inl h
 · exact .inr ⟨b,off,e,fun i hi => (h i hi).below k⟩
structure Rts (w : World) (ao : Option Addr) (n cap : Nat) (rs : List Rt) : Prop where
 len : n = rs.length
 fits : n ≤ cap
 reach : cap ≤ 9223372036854775807
 nil : ao = none → cap = 0
 seg : SegR w ao rs
 short : ∀ r ∈ rs,Short r
theorem Rts.below {w v : World} {ao : Option Addr} {n cap : Nat} {rs : List Rt} (h : Rts w ao n cap rs) (k : Below w.heap.size w v) : Rts v ao n cap rs :=
 ⟨h.len,h.fits,h.reach,h.nil,h.seg.below k,h.short⟩
theorem Rts.at {w : World} {ao : Option Addr} {n cap : Nat} {rs : List Rt} (h : Rts w ao n cap rs) (hn : 0 < n) : ∃ b off,ao = some ⟨b,off,none⟩ := by
 rcases h.seg with e | ⟨b,off,e,_⟩
 ·
  have := h.len
  rw [e] at this
  simp at this
  omega
 · exact ⟨b,off,e⟩
theorem Rts.row {w : World} {b off n cap : Nat} {rs : List Rt} (h : Rts w (some ⟨b,off,none⟩) n cap rs) (k : Nat) (hk : k < rs.length) : RowAt w b (off + k * 5) rs[k] := by
 rcases h.seg with e | ⟨b',off',e,hs⟩
 ·
  subst e
  simp at hk
 ·
  cases e
  exact hs k hk
end Go.Proofs.YtillcleccjgocaaGreat
set_option linter.unusedVariables false
namespace Go.Proofs.YtillcleccjgocaaGreat.Bl
open Go.RowKit
open Mem
open Vt (Rt)
structure IsP (w : World) (r : Pd.T) (p : Ps) : Prop where
 ser : r.ser = p.ser
 num : r.num = p.num
 y : r.y = p.y
 m : r.m = p.m
 d : r.d = p.d
 net : r.net = p.tot.net
 tax : r.tax = p.tot.tax
 gross : r.gross = p.tot.gross
 parts : Pt.Ls w r.parts.ao r.parts.n r.parts.cap p.tot.parts
 ofS : r.ofS = p.ofS
 ofN : r.ofN = p.ofN
 back : r.back = p.back
theorem IsP.below {w v : World} {r : Pd.T} {p : Ps} (h : IsP w r p) (k : Below w.heap.size w v) : IsP v r p :=
 ⟨h.ser,h.num,h.y,h.m,h.d,h.net,h.tax,h.gross,h.parts.below k,h.ofS,h.ofN,h.back⟩
structure Each (w : World) (rs : List Pd.T) (ps : List Ps) : Prop where
 len : rs.length = ps.length
 each : ∀ i (h : i < rs.length),IsP w rs[i] (ps[i]'(len ▸ h))
theorem Each.below {w v : World} {rs : List Pd.T} {ps : List Ps} (h : Each w rs ps) (k : Below w.heap.size w v) : Each v rs ps :=
 ⟨h.len,fun i q => (h.each i q).below k⟩
theorem each_nil (w : World) : Each w [] [] := ⟨rfl,fun i h => absurd h (Nat.not_lt_zero _)⟩
theorem Each.add {w : World} {rs : List Pd.T} {ps : List Ps} (h : Each w rs ps) {r : Pd.T} {p : Ps} (k : IsP w r p) : Each w (rs ++ [r]) (ps ++ [p]) := by
 have hl : (rs ++ [r]).length = (ps ++ [p]).length := by rw [List.length_append,List.length_append,h.len]; rfl
 refine ⟨hl,fun i hi => ?_⟩
 rw [List.length_append] at hi
 have hi' : i < rs.length + 1 := hi
 rcases Nat.lt_or_ge i rs.length with q | q
 ·
  rw [List.getElem_append_left q,List.getElem_append_left (h.len ▸ q)]
  exact h.each i q
 ·
  obtain rfl : i = rs.length := by omega
  have e1 : (rs ++ [r])[rs.length] = r := by
   rw [List.getElem_append_right (Nat.le_refl _)]
   simp
  have e2 : (ps ++ [p])[rs.length]'(by rw [List.length_append,h.len]; exact Nat.lt_succ_self _) = p := get_last h.len.symm _
  rw [e1,e2]
  exact k
structure Sv where
 tab : Sl
 ser : Sl
 post : Sl
 book : Sl
 sess : Sl
 next : Int
def sl (s : Sl) : Value := .slice s.ao s.n s.cap
def Sv.val (h : Sv) : Value := .agg #[sl h.tab,sl h.ser,sl h.post,sl h.book,sl h.sess,.int .i64 h.next]
structure Lies (w : World) (h : Sv) (s : St) : Prop where
 tab : Rts w h.tab.ao h.tab.n h.tab.cap s.tab
 ser : Sr.Ls w h.ser.ao h.ser.n h.ser.cap s.ser
 post : ∃ rs,Pd.Ls w h.post.ao h.post.n h.post.cap rs ∧ Each w rs s.post
 book : Ba.Ls w h.book.ao h.book.n h.book.cap s.book
 sess : Sn.Ls w h.sess.ao h.sess.n h.sess.cap s.sess
 next : h.next = s.next
 fit : Fit s.next
theorem Lies.below {w v : World} {h : Sv} {s : St} (l : Lies w h s) (k : Below w.heap.size w v) : Lies v h s := by
 obtain ⟨rs,h1,h2⟩ := l.post
 exact ⟨l.tab.below k,l.ser.below k,⟨rs,h1.below k,h2.below k⟩,l.book.below k,l.sess.below k,l.next,l.fit⟩
theorem lies_new (w : World) : Lies w ⟨⟨none,0,0⟩,⟨none,0,0⟩,⟨none,0,0⟩,⟨none,0,0⟩,⟨none,0,0⟩,1⟩ new :=
 ⟨⟨rfl,Nat.le_refl _,by show (0 : Nat) ≤ _; omega,fun _ => rfl,.inl rfl,by intro r hr; cases hr⟩,Sr.ls_nil w,⟨[],Pd.ls_nil w,each_nil w⟩,Ba.ls_nil w,Sn.ls_nil w,rfl,by show Fit 1; unfold Fit; omega⟩
end Go.Proofs.YtillcleccjgocaaGreat.Bl
namespace Go.Proofs.YtillcleccjgocaaGreat.Pt
open Go.RowKit
open Mem
def rv (r : T) : List Value := [.string r.cat,.int .i64 r.bp,.int .i64 r.net,.int .i64 r.tax]
theorem rv_len (r : T) : (rv r).length = 4 := rfl
theorem flat_len : ∀ rs : List T,(rs.flatMap rv).length = rs.length * 4
 | [] => rfl
 | r :: l => by
  rw [List.flatMap_cons,List.length_append,rv_len,flat_len l,List.length_cons]
  omega
theorem flat_at : ∀ (rs : List T) (k p : Nat) (hk : k < rs.length),p < 4 → (rs.flatMap rv)[k * 4 + p]? = (rv rs[k])[p]?
 | r :: l,0,p,_,hp => by
  rw [List.flatMap_cons,List.getElem?_append_left (by rw [rv_len]; omega),Nat.zero_mul,Nat.zero_add]
  rfl
 | r :: l,k + 1,p,hk,hp => by
  rw [List.flatMap_cons,List.getElem?_append_right (by rw [rv_len]; omega),rv_len,show (k + 1) * 4 + p - 4 = k * 4 + p by omega]
  exact flat_at l k p (by simpa using hk) hp
theorem one_cell (rs : List T) : ∀ v ∈ rs.flatMap rv,v.oneCell' = true := by
 intro v hv
 obtain ⟨r,_,h⟩ := List.mem_flatMap.1 hv
 unfold rv at h
 simp only [List.mem_cons,List.not_mem_nil,or_false] at h
 rcases h with rfl | rfl | rfl | rfl <;> rfl
theorem news_of {w : World} {b off : Nat} {rs : List T} (h : ∀ (k : Nat) (hk : k < rs.length),At w b (off + k * 4) rs[k]) (j : Nat) (u : Value) (hu : (rs.flatMap rv)[j]? = some u) : w.cell? ((⟨b,off,none⟩ : Addr).add j) = some u := by
 have hj : j < (rs.flatMap rv).length := by
  obtain ⟨hj,_⟩ := List.getElem?_eq_some_iff.1 hu
  exact hj
 rw [flat_len] at hj
 obtain ⟨k,p,rfl,hp⟩ : ∃ k p,j = k * 4 + p ∧ p < 4 := ⟨j / 4,j % 4,by omega,by omega⟩
 have hk : k < rs.length := by omega
 rw [flat_at rs k p hk hp] at hu
 have ha : (⟨b,off,none⟩ : Addr).add (k * 4 + p) = ⟨b,off + k * 4 + p,none⟩ := by
  unfold Addr.add
  split
  ·
   rename_i e
   simp only [Addr.mk.injEq,true_and,and_true]
   omega
  ·
   simp only [Addr.mk.injEq,true_and,and_true]
   omega
 rw [ha]
 obtain ⟨c0,c1,c2,c3⟩ := h k hk
 have hp' : p = 0 ∨ p = 1 ∨ p = 2 ∨ p = 3 := by omega
 unfold rv at hu
 rcases hp' with rfl | rfl | rfl | rfl
 all_goals simp at hu
 all_goals subst hu
 · exact c0
 · exact c1
 · exact c2
 · exact c3
def Own (w : World) (B : Nat) (v : Value) (xs : List T) : Prop := w.ownsRow B 134 4 v xs.length (xs.flatMap rv)
theorem own_nil (w : World) (B : Nat) : Own w B (.slice none 0 0) [] := ⟨rfl,.inl ⟨rfl,rfl⟩⟩
theorem own_ls {w : World} {B : Nat} {v : Value} {xs : List T} (h : Own w B v xs) (hs : ∀ r ∈ xs,Short r) : ∃ ao cap,v = .slice ao xs.length cap ∧ Ls w ao xs.length cap xs ∧ (∀ ad,ao = some ad → ∃ g,ad = ⟨g,0,none⟩ ∧ B ≤ g) := by
 rcases h.2 with ⟨h',h2⟩ | ⟨g,cap,cur,h',hb,hg,hnc,hcm,hcs,htake⟩
 ·
  have e : xs = [] := List.length_eq_zero_iff.1 h2
  subst e
  exact ⟨none,0,h',⟨rfl,Nat.le_refl _,by omega,fun _ => rfl,.inl rfl,hs⟩,fun ad k => by cases k⟩
 ·
  refine ⟨some ⟨g,0,none⟩,cap,h',⟨rfl,hnc,hcm,fun k => (by cases k),.inr ⟨g,0,rfl,fun k hk => ?_⟩,hs⟩,fun ad k => by cases k; exact ⟨g,rfl,hb⟩⟩
  have hcell : ∀ p,p < 4 → w.cell? ⟨g,0 + k * 4 + p,none⟩ = (rv xs[k])[p]? := by
   intro p hp
   rw [Nat.zero_add,cell_of_row w g _ _ _ _ hg,← flat_at xs k p hk hp,← htake,List.getElem?_take_of_lt (by omega)]
   simp
  exact ⟨hcell 0 (by omega),hcell 1 (by omega),hcell 2 (by omega),hcell 3 (by omega)⟩
def zero : T := ⟨.empty,0,0,0⟩
def zeroV : Value := .agg #[.string .empty,.int .i64 0,.int .i64 0,.int .i64 0]
theorem info : (Tryz.prog.info? 134).map (fun i => (i.zero,i.size,i.bytes)) = some (some zeroV,4,40) := by kernel_rfl
theorem wp_append {o : Oper} {a : Act} {K : Act → World → Prop} {Q : Exit → Act → World → Prop} (w : World) (s x : Operand)
  (ho : o.op = .call { callee := .builtin .append,args := #[s,x],argTypes := #[96,96] })
  (B : Nat) (v : Value) (xs : List T) (hs : a.eval s = v) (hown : Own w B v xs)
  (ao : Option Addr) (n cap : Nat) (zs : List T) (hx : a.eval x = .slice ao n cap) (hn : n = zs.length) (hnil : ao = none → cap = 0) (hsrc : Seg w ao zs) (hl : (xs.length + n) * 40 ≤ 140737488355328) (hb : B ≤ w.heap.size)
  (h : ∀ v' w1,Own w1 B v' (xs ++ zs) → w.grownBy w1 v.ownBlock → (v'.ownBlock = v.ownBlock ∨ v'.ownBlock = some w.heap.size) → K (a.put o.dst v') w1) : o.wp Tryz.prog a w K Q := by
 have hzs : zeroV.cells.size = 4 := rfl
 obtain ⟨i0,hi,hz0,hz1,hz2⟩ := info_parts info
 have hmx : maxLen = 9223372036854775807 := rfl
 have empty : zs = [] → n = 0 → Own w B v (xs ++ zs) := by
  intro e _
  rw [e,List.append_nil]
  exact hown
 cases ao with
 | none =>
  obtain rfl : cap = 0 := hnil rfl
  rcases hsrc with e | ⟨b,off,e,_⟩
  ·
   obtain rfl : n = 0 := by rw [hn,e]; rfl
   have hrun := run_append_owned_none (P := Tryz.prog) (w := w) B 96 o.type 134 i0 4 Tryz.underlying96 hi v _ _ hown
   unfold Oper.wp
   simp [execOp,ho,resolve,invoke,builtin,hs,hx,hrun,Result.andThen]
   exact h v w (empty e rfl) ⟨rfl,rfl,rfl,Nat.le_refl _,fun _ _ _ => rfl⟩ (.inl rfl)
  · cases e
 | some ad =>
  obtain ⟨v',w',hr,h2,h3,_,h5⟩ := run_append_own_at (P := Tryz.prog) w B 96 o.type 134 i0 zeroV 4 40 Tryz.underlying96 hi hz0 hz1 hz2 hzs (by omega) v xs.length (xs.flatMap rv) hown ad n cap (zs.flatMap rv) (by rw [flat_len,hn]) (by
   rcases hsrc with e | ⟨b,off,e,hc⟩
   ·
    rw [e]
    intro j u hu
    simp at hu
   ·
    cases e
    exact fun j u hu => news_of hc j u hu) (one_cell zs) (by omega) hl hb
  unfold Oper.wp execOp
  simp only [ho,resolve,invoke,builtin,Sem.run_bind,Sem.run_pure,Result.andThen_ok,List.map_toArray,List.map_cons,List.map_nil,hs,hx,hr]
  refine h v' w' ?_ h3 h5
  unfold Own
  rw [List.flatMap_append,List.length_append,← hn]
  exact h2
theorem wpList_append {ops : Array Oper} {rest : List Oper} {o : Oper} {a : Act} {Q : Exit → Act → World → Prop} (w : World) (hgd : o.guard = none) (s x : Operand)
  (ho : o.op = .call { callee := .builtin .append,args := #[s,x],argTypes := #[96,96] })
  (B : Nat) (v : Value) (xs : List T) (hs : a.eval s = v) (hown : Own w B v xs)
  (ao : Option Addr) (n cap : Nat) (zs : List T) (hx : a.eval x = .slice ao n cap) (hn : n = zs.length) (hnil : ao = none → cap = 0) (hsrc : Seg w ao zs) (hl : (xs.length + n) * 40 ≤ 140737488355328) (hb : B ≤ w.heap.size)
  (h : ∀ v' w1,Own w1 B v' (xs ++ zs) → w.grownBy w1 v.ownBlock → (v'.ownBlock = v.ownBlock ∨ v'.ownBlock = some w.heap.size) → wpList Tryz.prog ops Q rest (a.put o.dst v') w1) : wpList Tryz.prog ops Q (o :: rest) a w :=
 wpList_plain hgd fun _ hK => wp_append w s x ho B v xs hs hown ao n cap zs hx hn hnil hsrc hl hb fun v' w1 h1 h2 h3 => hK _ _ (h v' w1 h1 h2 h3)
theorem own_mono {w : World} {B C : Nat} {v : Value} {xs : List T} (h : Own w B v xs) (hc : C ≤ B) : Own w C v xs := by
 obtain ⟨h1,h2⟩ := h
 refine ⟨h1,?_⟩
 rcases h2 with h2 | ⟨g,cap,cur,h',hb,h3⟩
 · exact .inl h2
 · exact .inr ⟨g,cap,cur,h',by omega,h3⟩
theorem own_alloc {w : World} {B : Nat} {v : Value} {xs : List T} (h : Own w B v xs) (o : Obj) : Own (w.alloc o) B v xs := World.ownsRow.alloc h o
theorem own_below {w u : World} {B : Nat} {v : Value} {xs : List T} (h : Own w B v xs) (k : Below w.heap.size w u) : Own u B v xs := by
 obtain ⟨h1,h2⟩ := h
 refine ⟨h1,?_⟩
 rcases h2 with h2 | ⟨g,cap,cur,h',hb,hg,h3⟩
 · exact .inl h2
 ·
  refine .inr ⟨g,cap,cur,h',hb,?_,h3⟩
  have hl : g < w.heap.size := by
   obtain ⟨hl,_⟩ := Array.getElem?_eq_some_iff.1 hg
   exact hl
  rw [k.block g hl]
  exact hg
def block (r : T) : Obj := .cells #[.string r.cat,.int .i64 r.bp,.int .i64 r.net,.int .i64 r.tax] 134 (0,0)
theorem seg_block {X : World} {g : Nat} {r : T} (h : X.heap[g]? = some (block r)) : Seg X (some ⟨g,0,none⟩) [r] := by
 refine .inr ⟨g,0,rfl,fun k hk => ?_⟩
 obtain rfl : k = 0 := by simpa using hk
 unfold block at h
 refine ⟨?_,?_,?_,?_⟩
 all_goals rw [cell_of_row X g _ _ _ _ h]
 all_goals rfl
end Go.Proofs.YtillcleccjgocaaGreat.Pt
namespace Go.Proofs.YtillcleccjgocaaGreat.Pt
open Go.RowKit
open Mem
def Block (w : World) (g : Nat) (ts : List T) : Prop := w.heap[g]? = some (.cells (ts.flatMap rv).toArray 134 (0,0))
theorem Block.lt {w : World} {g : Nat} {ts : List T} (h : Block w g ts) : g < w.heap.size := by
 obtain ⟨hg,_⟩ := Array.getElem?_eq_some_iff.1 h
 exact hg
theorem Block.below {w u : World} {g : Nat} {ts : List T} (h : Block w g ts) (k : Below w.heap.size w u) : Block u g ts := (k.block g h.lt).trans h
theorem Block.row {w : World} {g : Nat} {ts : List T} (h : Block w g ts) (k : Nat) (hk : k < ts.length) : At w g (k * 4) ts[k] := by
 have hcell : ∀ p,p < 4 → w.cell? ⟨g,k * 4 + p,none⟩ = (rv ts[k])[p]? := by
  intro p hp
  rw [cell_of_row w g _ _ _ _ h,← flat_at ts k p hk hp]
  simp
 exact ⟨hcell 0 (by omega),hcell 1 (by omega),hcell 2 (by omega),hcell 3 (by omega)⟩
theorem Block.frozen {w : World} {g : Nat} {ts : List T} (h : Block w g ts) (k : Nat) : w.frozen? ⟨g,k,none⟩ = false := frozen_of_row w g k _ _ h
def zeros (n : Nat) : Array Value := ((List.replicate n zero).flatMap rv).toArray
theorem sizeZ : (Tryz.prog.info? 134).map (·.size) = some 4 := by kernel_rfl
theorem made (n : Nat) : madeCells zeroV.cells (n * 4) = zeros n := by
 apply Array.ext_getElem?
 intro j
 by_cases hj : j < n * 4
 ·
  obtain ⟨k,p,rfl,hp⟩ : ∃ k p,j = k * 4 + p ∧ p < 4 := ⟨j / 4,j % 4,by omega,by omega⟩
  have hk : k < n := by omega
  have hz : (zeros n)[k * 4 + p]? = (rv zero)[p]? := by
   unfold zeros
   rw [List.getElem?_toArray,flat_at (List.replicate n zero) k p (by simpa using hk) hp,List.getElem_replicate]
  rw [hz]
  have e : (k * 4 + p) % 4 = p := by omega
  have hp' : p = 0 ∨ p = 1 ∨ p = 2 ∨ p = 3 := by omega
  unfold madeCells
  rw [Array.getElem?_map,Array.getElem?_range,if_pos hj]
  simp only [Option.map_some]
  rw [show zeroV.cells.size = 4 from rfl,e]
  rcases hp' with rfl | rfl | rfl | rfl <;> rfl
 ·
  rw [Array.getElem?_eq_none (by rw [size_madeCells]; omega),Array.getElem?_eq_none]
  unfold zeros
  rw [List.size_toArray,flat_len,List.length_replicate]
  omega
theorem make (n : Nat) (hn : n ≤ 100000) (u : World) : (Instr.makeSlice 96 (.int .i64 (n : Int)) (.int .i64 (n : Int))).run Tryz.prog u =
  .ok (.slice (some ⟨u.heap.size,0,none⟩) n n) (u.alloc (.cells (zeros n) 134)) := by
 obtain ⟨i0,hi,hz0,hz1,hz2⟩ := info_parts info
 have h := run_make (P := Tryz.prog) u 96 134 i0 zeroV Tryz.underlying96 hi hz0 .i64 .i64 (n : Int) (n : Int) (by omega) (Int.le_refl _) (by rw [hz2]; omega) (by omega)
 rw [hz1,Int.toNat_natCast,made] at h
 exact h
theorem block_made (u : World) (n : Nat) : Block (u.alloc (.cells (zeros n) 134)) u.heap.size (List.replicate n zero) := heap_alloc_new u _
theorem copy (u : World) (g : Nat) (ts : List T) (dCap : Nat) (ao : Option Addr) (n cap : Nat) (rs : List T) (hb : Block u g (List.replicate n zero ++ ts)) (hn : n = rs.length) (hs : Seg u ao rs) :
  ∃ u',(Builtin.copy_ #[96,96] 3 #[.slice (some ⟨g,0,none⟩) (n + ts.length) dCap,.slice ao n cap]).run Tryz.prog u = .ok (goInt n) u' ∧ Block u' g (rs ++ ts) ∧ (∀ B w0,Below B w0 u → B ≤ g → Below B w0 u') ∧ u'.heap.size = u.heap.size := by
 obtain ⟨i0,hi,hiK⟩ := Option.map_eq_some_iff.1 sizeZ
 have hmin : Nat.min n (n + ts.length) = n := Nat.min_eq_left (by omega)
 rcases hs with e | ⟨b,off,rfl,hc⟩
 ·
  subst e
  obtain rfl : n = 0 := hn
  refine ⟨u,?_,by simpa using hb,fun _ _ h _ => h,rfl⟩
  have hl : ∀ (x : Addr),(loadCells x 0).run Tryz.prog u = .ok #[] u := fun x => by simpa using run_loadCells_list (P := Tryz.prog) u x [] (by simp)
  cases ao <;> simp [Builtin.copy_,run_underlying Tryz.underlying96,Builtin.lenOf,Builtin.firstCells,sizeOf,typeInfo,hi,storeCells,hl]
 ·
  have hl := run_loadCells_list (P := Tryz.prog) u ⟨b,off,none⟩ (rs.flatMap rv) (fun j v hv => news_of hc j v hv)
  have hst := run_storeCells_at Tryz.prog g 0 134 (rs.flatMap rv) 0 _ u hb (by rw [List.size_toArray,flat_len,flat_len,List.length_append,List.length_replicate]; omega) (one_cell rs)
  have hlen : (rs.flatMap rv).length = n * 4 := by rw [flat_len,hn]
  have e : (((List.replicate n zero ++ ts).flatMap rv).toArray.toList.take (0 + 0) ++ rs.flatMap rv ++ ((List.replicate n zero ++ ts).flatMap rv).toArray.toList.drop (0 + 0 + (rs.flatMap rv).length)) = (rs ++ ts).flatMap rv := by
   rw [List.toList_toArray,List.take_zero,List.nil_append,Nat.zero_add,hlen,List.flatMap_append,List.flatMap_append,List.drop_left' (by rw [flat_len,List.length_replicate])]
  rw [e] at hst
  refine ⟨u.setRow g ((rs ++ ts).flatMap rv).toArray,?_,setRow_heap u g _ _ 134 _ hb,fun B w0 h hB => below_setRow h hB _,by simp [World.setRow]⟩
  rw [hlen] at hl
  simp [Builtin.copy_,run_underlying Tryz.underlying96,Builtin.lenOf,Builtin.firstCells,sizeOf,typeInfo,hi,hiK,hmin,hl,hst]
theorem own_at {w : World} {B g n cap : Nat} {M : List T} (h : Own w B (.slice (some ⟨g,0,none⟩) n cap) M) (k : Nat) (hk : k < M.length) : At w g (k * 4) M[k] ∧ (∀ o,w.frozen? ⟨g,o,none⟩ = false) ∧ B ≤ g := by
 rcases h.2 with ⟨h',_⟩ | ⟨g',cap',cur,h',hb,hg,hnc,hcm,hcs,htake⟩
 · cases h'
 ·
  simp only [Value.slice.injEq,Option.some.injEq,Addr.mk.injEq,and_true] at h'
  obtain ⟨e1,e2,e3⟩ := h'
  subst e1 e3
  have hcell : ∀ p,p < 4 → w.cell? ⟨g,k * 4 + p,none⟩ = (rv M[k])[p]? := by
   intro p hp
   rw [cell_of_row w g _ _ _ _ hg,← flat_at M k p hk hp,← htake,List.getElem?_take_of_lt (by omega)]
   simp
  exact ⟨⟨hcell 0 (by omega),hcell 1 (by omega),hcell 2 (by omega),hcell 3 (by omega)⟩,fun o => frozen_of_row w g o _ _ hg,hb⟩
theorem flat_put (r : T) (p : Nat) (x : Value) (hp : p < 4) : ∀ (M : List T) (k : Nat) (hk : k < M.length),rv r = (rv M[k]).set p x → (M.set k r).flatMap rv = (M.flatMap rv).set (k * 4 + p) x
 | a :: l,0,_,h => by
  have h' : rv r = (rv a).set p x := h
  rw [List.set_cons_zero,List.flatMap_cons,List.flatMap_cons,Nat.zero_mul,Nat.zero_add,List.set_append_left _ _ (by rw [rv_len]; exact hp),h']
 | a :: l,k + 1,hk,h => by
  have ih := flat_put r p x hp l k (by simpa using hk) (by simpa using h)
  rw [List.set_cons_succ,List.flatMap_cons,List.flatMap_cons,List.set_append_right _ _ (by rw [rv_len]; omega),rv_len,show (k + 1) * 4 + p - 4 = k * 4 + p by omega,ih]
theorem own_put {w : World} {B g n cap : Nat} {M : List T} (h : Own w B (.slice (some ⟨g,0,none⟩) n cap) M) (k p : Nat) (hk : k < M.length) (hp : p < 4) (x : Value) (r : T) (hr : rv r = (rv M[k]).set p x) :
  Own (w.setCell ⟨g,k * 4 + p,none⟩ x) B (.slice (some ⟨g,0,none⟩) n cap) (M.set k r) := by
 rcases h.2 with ⟨h',_⟩ | ⟨g',cap',cur,h',hb,hg,hnc,hcm,hcs,htake⟩
 · cases h'
 ·
  simp only [Value.slice.injEq,Option.some.injEq,Addr.mk.injEq,and_true] at h'
  obtain ⟨e1,e2,e3⟩ := h'
  subst e1 e3
  have h1 := heap_setCell_same _ g (k * 4 + p) _ _ x hg
  refine ⟨by rw [flat_len],.inr ⟨g,cap,_,by rw [List.length_set,e2],hb,h1,by rw [List.length_set]; exact hnc,hcm,by simpa using hcs,?_⟩⟩
  rw [List.length_set,flat_put r p x hp M k hk hr]
  simp only [Array.toList_setIfInBounds]
  rw [← htake]
  simp only [List.take_set]
theorem own_of_block {w : World} {B g n : Nat} {M : List T} (h : Block w g M) (hB : B ≤ g) (hn : n = M.length) (hm : n ≤ 100000) : Own w B (.slice (some ⟨g,0,none⟩) n n) M := by
 subst hn
 exact ⟨by rw [flat_len],.inr ⟨g,M.length,_,rfl,hB,h,Nat.le_refl _,by have : maxLen = 9223372036854775807 := rfl; omega,by rw [List.size_toArray,flat_len],List.take_of_length_le (by show (M.flatMap rv).length ≤ _; rw [flat_len]; exact Nat.le_refl _)⟩⟩
end Go.Proofs.YtillcleccjgocaaGreat.Pt
namespace Go.Proofs.YtillcleccjgocaaGreat.Tt
open Go.RowKit
open Mem
def val (n t s : Int) (v : Value) : Value := .agg #[.int .i64 n,.int .i64 t,.int .i64 s,v]
def At (u : World) (g : Nat) (n t s : Int) (v : Value) : Prop := u.heap[g]? = some (.cells #[.int .i64 n,.int .i64 t,.int .i64 s,v] 98 (0,0))
def box (w : World) (n t s : Int) (v : Value) : World := w.alloc (.cells #[.int .i64 n,.int .i64 t,.int .i64 s,v] 98)
theorem at_box (w : World) (n t s : Int) (v : Value) : At (box w n t s v) w.heap.size n t s v := heap_alloc_new w _
theorem box_size (w : World) (n t s : Int) (v : Value) : (box w n t s v).heap.size = w.heap.size + 1 := by
 unfold box
 simp
theorem below_own (w : World) (n t s : Int) (v : Value) : Below w.heap.size w (box w n t s v) := (Below.refl _ _).alloc (Nat.le_refl _) _
section
variable {u u' : World} {g : Nat} {n t s : Int} {v : Value}
theorem At.lt (h : At u g n t s v) : g < u.heap.size := by
 obtain ⟨hl,_⟩ := Array.getElem?_eq_some_iff.1 h
 exact hl
theorem At.below (h : At u g n t s v) (b : Below u.heap.size u u') : At u' g n t s v := (b.block g h.lt).trans h
theorem At.cells (h : At u g n t s v) : u.cell? ⟨g,0,none⟩ = some (.int .i64 n) ∧ u.cell? ⟨g,1,none⟩ = some (.int .i64 t) ∧ u.cell? ⟨g,2,none⟩ = some (.int .i64 s) ∧ u.cell? ⟨g,3,none⟩ = some v := by
 refine ⟨?_,?_,?_,?_⟩
 all_goals
  rw [cell_of_row u g _ _ _ _ h]
  rfl
theorem At.frozen (h : At u g n t s v) (k : Nat) : u.frozen? ⟨g,k,none⟩ = false := frozen_of_row u g k _ _ h
theorem At.far (h : At u g n t s v) {b : Nat} (hne : g ≠ b) (o : Nat) (x : Value) : At (u.setCell ⟨b,o,none⟩ x) g n t s v := by
 unfold At
 rw [heap_setCell_other u ⟨b,o,none⟩ g x hne]
 exact h
theorem At.set0 (h : At u g n t s v) (x : Int) : At (u.setCell ⟨g,0,none⟩ (.int .i64 x)) g x t s v := (heap_setCell_same u g 0 _ _ _ h).trans rfl
theorem At.set1 (h : At u g n t s v) (x : Int) : At (u.setCell ⟨g,1,none⟩ (.int .i64 x)) g n x s v := (heap_setCell_same u g 1 _ _ _ h).trans rfl
theorem At.set2 (h : At u g n t s v) (x : Int) : At (u.setCell ⟨g,2,none⟩ (.int .i64 x)) g n t x v := (heap_setCell_same u g 2 _ _ _ h).trans rfl
theorem At.set3 (h : At u g n t s v) (x : Value) : At (u.setCell ⟨g,3,none⟩ x) g n t s x := (heap_setCell_same u g 3 _ _ _ h).trans rfl
end
def Ans (w : World) (E : Int) (T : Iv.Tot) (e : Ending) (w' : World) : Prop := ∃ v,e = .returned (.tuple #[val T.net T.tax T.gross v,.int .i64 E]) ∧ Pt.Own w' w.heap.size v T.parts ∧ Below w.heap.size w w'
end Go.Proofs.YtillcleccjgocaaGreat.Tt
namespace Go.Proofs.YtillcleccjgocaaGreat.Pt
open Go.RowKit
open Mem
open Go.Sort (grow)
def eqB (a b : T) : Bool := decide (a.cat = b.cat ∧ a.bp = b.bp ∧ a.net = b.net ∧ a.tax = b.tax)
theorem eqB_iff (a b : T) : eqB a b = true ↔ a = b := by
 unfold eqB
 rw [decide_eq_true_iff]
 cases a
 cases b
 simp
def sameB : List T → List T → Bool
 | [],[] => true
 | a :: l,b :: m => eqB a b && sameB l m
 | _,_ => false
theorem sameB_iff : ∀ l m : List T,sameB l m = true ↔ l = m
 | [],[] => by simp [sameB]
 | [],_ :: _ => by simp [sameB]
 | _ :: _,[] => by simp [sameB]
 | a :: l,b :: m => by
  rw [sameB,Bool.and_eq_true,eqB_iff,sameB_iff l m,List.cons.injEq]
theorem sameB_self (l : List T) : sameB l l = true := (sameB_iff l l).2 rfl
theorem sameB_len {l m : List T} (h : l.length ≠ m.length) : sameB l m = false := by
 rw [Bool.eq_false_iff]
 intro k
 exact h (congrArg List.length ((sameB_iff l m).1 k))
theorem same_at (l m : List T) (k : Nat) (h : k < l.length) (h' : k < m.length) : sameB (l.drop k) (m.drop k) = (eqB l[k] m[k] && sameB (l.drop (k + 1)) (m.drop (k + 1))) := by
 rw [List.drop_eq_getElem_cons h,List.drop_eq_getElem_cons h',sameB]
set_option maxHeartbeats 4000000 in
theorem same_any (xs ys : List T) (ao bo : Option Addr) (n m ca cb : Nat) (w0 w : World) (hw : Below w0.heap.size w0 w) (hA : Ls w ao n ca xs) (hB : Ls w bo m cb ys) :
  Calls Tryz.prog 99 #[.slice ao n ca,.slice bo m cb] w fun e w' => e = .returned (.bool (sameB xs ys)) ∧ Below w0.heap.size w0 w' := by
 have HW := Lib.hid hw
 have HA := Lib.hid hA
 have HB := Lib.hid hB
 have HN := Lib.hid hA.len
 have HM := Lib.hid hB.len
 have hca := hA.reach
 have hfa := hA.fits
 have hcb := hB.reach
 have hfb := hB.fits
 clear hw hA hB
 by_cases hnm : n = m
 ·
  subst hnm
  have hne : ((n : Int) != (n : Int)) = false := bne_self_eq_false _
  go_enter Tryz.func99,Tryz.ntmps99
  go_wp2
  go_loopw [5] (fun i wr => ∃ k : Nat,k ≤ n ∧ i = .int .i64 k ∧ Hid (sameB (xs.drop k) (ys.drop k) = sameB xs ys) ∧ Hid (Below w.heap.size w wr)) (fun i _ => n - (intOf i).toNat)
  case atStart => exact ⟨0,Nat.zero_le _,rfl,Lib.hid rfl,Lib.hid (Below.refl _ _)⟩
  case round =>
   obtain ⟨k,hk,rfl,HK,HBz⟩ := hrel
   by_cases hlt : k < n
   ·
    obtain ⟨a,oa,rfl⟩ := HA.out.at (by omega)
    obtain ⟨b,ob,rfl⟩ := HB.out.at (by omega)
    have hkr : k < xs.length := HN.out ▸ hlt
    have hks : k < ys.length := HM.out ▸ hlt
    have HSt := Lib.hid (same_at xs ys k hkr hks)
    obtain ⟨r,hr⟩ : ∃ r,xs[k] = r := ⟨_,rfl⟩
    obtain ⟨s,hs⟩ : ∃ s,ys[k] = s := ⟨_,rfl⟩
    have h1 := (HA.out.row k hkr).below HBz.out
    have h2 := (HB.out.row k hks).below HBz.out
    rw [hr] at h1 HSt
    rw [hs] at h2 HSt
    clear hr hs
    obtain ⟨g0,g1,g2,g3⟩ := h1
    obtain ⟨f0,f1,f2,f3⟩ := h2
    have g0' := cell_regrown g0
    have g1' := cell_regrown g1
    have g2' := cell_regrown g2
    have g3' := cell_regrown g3
    have f0' := cell_regrown f0
    have f1' := cell_regrown f1
    have f2' := cell_regrown f2
    have f3' := cell_regrown f3
    clear g0 g1 g2 g3 f0 f1 f2 f3
    by_cases e0 : r.cat = s.cat
    ·
     have q0 : (r.cat.toList == s.cat.toList) = true := beq_iff_eq.2 (by rw [e0])
     by_cases e1 : r.bp = s.bp
     ·
      have q1 : (r.bp == s.bp) = true := beq_iff_eq.2 e1
      by_cases e2 : r.net = s.net
      ·
       have q2 : (r.net == s.net) = true := beq_iff_eq.2 e2
       by_cases e3 : r.tax = s.tax
       ·
        have q3 : (r.tax == s.tax) = true := beq_iff_eq.2 e3
        have HE : Hid (eqB r s = true) := Lib.hid (decide_eq_true ⟨e0,e1,e2,e3⟩)
        clear e0 e1 e2 e3
        go_wp2
        refine wp_region_quiet_below (by kernel_rfl) (by kernel_rfl) ?_
        repeat (first | go_big_quiet_step (fail) | quiet_step (fail))
        refine wpQuiet_nil ?_
        intro _ hw'
        obtain ⟨⟨dq,osq⟩,hw''⟩ := hw'
        subst hw''
        have HBv := Lib.hid (bchain HBz.out (below_regrown wr dq osq))
        go_wp2
        go_roundw
        case rel => exact ⟨k + 1,by omega,by go_num,Lib.hid (by rw [← HK.out,HSt.out,HE.out,Bool.true_and]),HBv⟩
        case measure => simp [intOf]; omega
       ·
        have q3 : (r.tax == s.tax) = false := beq_eq_false_iff_ne.2 e3
        have HE : Hid (eqB r s = false) := Lib.hid (decide_eq_false fun h => e3 h.2.2.2)
        clear e0 e1 e2 e3
        go_wp2
        refine wp_region_quiet_below (by kernel_rfl) (by kernel_rfl) ?_
        repeat (first | go_big_quiet_step (fail) | quiet_step (fail))
        refine wpQuiet_nil ?_
        intro _ hw'
        obtain ⟨⟨dq,osq⟩,hw''⟩ := hw'
        subst hw''
        have HBv := Lib.hid (bchain HBz.out (below_regrown wr dq osq))
        go_wp2
        go_ret
        exact ⟨ret_bool (by rw [← HK.out,HSt.out,HE.out,Bool.false_and]),bchain HW.out HBv.out⟩
      ·
       have q2 : (r.net == s.net) = false := beq_eq_false_iff_ne.2 e2
       have HE : Hid (eqB r s = false) := Lib.hid (decide_eq_false fun h => e2 h.2.2.1)
       clear e0 e1 e2
       go_wp2
       refine wp_region_quiet_below (by kernel_rfl) (by kernel_rfl) ?_
       repeat (first | go_big_quiet_step (fail) | quiet_step (fail))
       refine wpQuiet_nil ?_
       intro _ hw'
       obtain ⟨⟨dq,osq⟩,hw''⟩ := hw'
       subst hw''
       have HBv := Lib.hid (bchain HBz.out (below_regrown wr dq osq))
       go_wp2
       go_ret
       exact ⟨ret_bool (by rw [← HK.out,HSt.out,HE.out,Bool.false_and]),bchain HW.out HBv.out⟩
     ·
      have q1 : (r.bp == s.bp) = false := beq_eq_false_iff_ne.2 e1
      have HE : Hid (eqB r s = false) := Lib.hid (decide_eq_false fun h => e1 h.2.1)
      clear e0 e1
      go_wp2
      refine wp_region_quiet_below (by kernel_rfl) (by kernel_rfl) ?_
      repeat (first | go_big_quiet_step (fail) | quiet_step (fail))
      refine wpQuiet_nil ?_
      intro _ hw'
      obtain ⟨⟨dq,osq⟩,hw''⟩ := hw'
      subst hw''
      have HBv := Lib.hid (bchain HBz.out (below_regrown wr dq osq))
      go_wp2
      go_ret
      exact ⟨ret_bool (by rw [← HK.out,HSt.out,HE.out,Bool.false_and]),bchain HW.out HBv.out⟩
    ·
     have q0 : (r.cat.toList == s.cat.toList) = false := beq_eq_false_iff_ne.2 fun h => e0 (txt_ext (by rw [← tl,← tl]; exact h))
     have HE : Hid (eqB r s = false) := Lib.hid (decide_eq_false fun h => e0 h.1)
     clear e0
     go_wp2
     refine wp_region_quiet_below (by kernel_rfl) (by kernel_rfl) ?_
     repeat (first | go_big_quiet_step (fail) | quiet_step (fail))
     refine wpQuiet_nil ?_
     intro _ hw'
     obtain ⟨⟨dq,osq⟩,hw''⟩ := hw'
     subst hw''
     have HBv := Lib.hid (bchain HBz.out (below_regrown wr dq osq))
     go_wp2
     go_ret
     exact ⟨ret_bool (by rw [← HK.out,HSt.out,HE.out,Bool.false_and]),bchain HW.out HBv.out⟩
   ·
    obtain rfl : k = n := by omega
    go_wp2
    go_ret
    refine ⟨ret_bool ?_,HW.out.trans (HBz.out.mono HW.out.size)⟩
    rw [← HK.out,List.drop_eq_nil_of_le (Nat.le_of_eq HN.out.symm),List.drop_eq_nil_of_le (Nat.le_of_eq HM.out.symm)]
    rfl
 ·
  have HE := Lib.hid (sameB_len (l := xs) (m := ys) (by rw [← HN.out,← HM.out]; exact hnm))
  have hne : ((n : Int) != (m : Int)) = true := bne_iff_ne.2 (by omega)
  go_enter Tryz.func99,Tryz.ntmps99
  go_wp2
  go_ret
  exact ⟨ret_bool HE.out.symm,HW.out⟩
theorem same_rows (xs : List T) (ao bo : Option Addr) (n ca cb : Nat) (w0 w : World) (hw : Below w0.heap.size w0 w) (hA : Ls w ao n ca xs) (hB : Ls w bo n cb xs) :
  Calls Tryz.prog 99 #[.slice ao n ca,.slice bo n cb] w fun e w' => e = .returned (.bool true) ∧ Below w0.heap.size w0 w' := by
 have h := same_any xs xs ao bo n n ca cb w0 w hw hA hB
 rw [sameB_self] at h
 exact h
end Go.Proofs.YtillcleccjgocaaGreat.Pt
namespace Go.Proofs.YtillcleccjgocaaGreat
open Go.RowKit
open Mem
set_option maxHeartbeats 2000000 in
theorem totals_same (T : Iv.Tot) (ao bo : Option Addr) (p ca cb : Nat) (w0 w : World) (hw : Below w0.heap.size w0 w) (hA : Pt.Ls w ao p ca T.parts) (hB : Pt.Ls w bo p cb T.parts) :
  Calls Tryz.prog 58 #[Tt.val T.net T.tax T.gross (.slice ao p ca),Tt.val T.net T.tax T.gross (.slice bo p cb)] w fun e w' => e = .returned (.bool true) ∧ Below w0.heap.size w0 w' := by
 have HW := Lib.hid hw
 have HA := Lib.hid hA
 have HB := Lib.hid hB
 clear hw hA hB
 obtain ⟨n,t,s,ps⟩ := T
 dsimp only at HA HB ⊢
 have hb1 := Tt.below_own w n t s (.slice ao p ca)
 have hb2 := Tt.below_own (Tt.box w n t s (.slice ao p ca)) n t s (.slice bo p cb)
 have h1 := (Tt.at_box w n t s (.slice ao p ca)).below hb2
 have h2 := Tt.at_box (Tt.box w n t s (.slice ao p ca)) n t s (.slice bo p cb)
 rw [Tt.box_size] at h2
 have HBl := Lib.hid (bchain hb1 hb2)
 obtain ⟨a0,a1,a2,a3⟩ := h1.cells
 obtain ⟨b0,b1,b2,b3⟩ := h2.cells
 have q0 : (n == n) = true := beq_self_eq_true _
 have q1 : (t == t) = true := beq_self_eq_true _
 have q2 : (s == s) = true := beq_self_eq_true _
 clear h1 h2 hb1 hb2
 unfold Tt.val
 go_enter Tryz.func58,Tryz.ntmps58
 go_wp2_with fail
 refine (Pt.same_rows ps ao bo p ca cb w0 _ (bchain HW.out HBl.out) (HA.out.below HBl.out) (HB.out.below HBl.out)).mono ?_
 rintro e w1 ⟨rfl,b5⟩
 have HB5 := Lib.hid b5
 clear b5
 go_wp2_with fail
 go_ret
 exact ⟨rfl,HB5.out⟩
end Go.Proofs.YtillcleccjgocaaGreat
namespace Go.Proofs.YtillcleccjgocaaGreat
open Go
def lexL (md : Region.Mode) (ops : Array Oper) : Nat → List Oper → Bool
 | _,[] => true
 | k,o :: l => (o.after.all fun e => !Region.binds md e || decide (e.on < k)) && (l.all fun y => y.after.any (fun e => Region.binds md e && e.on == k) || o.apart ops y) && lexL md ops (k + 1) l
theorem lexFrom_of {md : Region.Mode} {ops : Array Oper} : ∀ (l : List Oper) (k : Nat) (listed : Array Bool),(∀ j,l[j]? = ops[k + j]?) → (∀ i d,i < ops.size → listed.getD i d = decide (i < k)) → listed.size = ops.size → lexL md ops k l = true → Region.lexFrom md ops l.length k listed = true
 | [],k,listed,hl,hd,hs,_ => by
  have hk : ops.size ≤ k := by
   have := hl 0
   simp at this
   exact this
  simp only [List.length_nil,Region.lexFrom,List.isEmpty_iff]
  rw [List.eq_nil_iff_forall_not_mem]
  intro j hj
  obtain ⟨h1,o,ho,_⟩ := mem_ready.1 hj
  have hlt := (Array.getElem?_eq_some_iff.1 ho).1
  rw [hd j true hlt] at h1
  simp at h1
  omega
 | o :: l,k,listed,hl,hd,hs,h => by
  have h0 : ops[k]? = some o := by simpa using (hl 0).symm
  have hlt := (Array.getElem?_eq_some_iff.1 h0).1
  have hl' : ∀ j,l[j]? = ops[k + 1 + j]? := fun j => by
   have := hl (j + 1)
   rw [show k + 1 + j = k + (j + 1) by omega]
   simpa using this
  rw [lexL,Bool.and_eq_true,Bool.and_eq_true] at h
  obtain ⟨⟨h1,h2⟩,h3⟩ := h
  simp only [List.length_cons,Region.lexFrom,Bool.and_eq_true]
  refine ⟨⟨?_,?_⟩,?_⟩
  ·
   rw [List.contains_iff_mem,mem_ready]
   refine ⟨by rw [hd k true hlt]; simp,o,h0,fun e he hb => ?_⟩
   have := Array.all_eq_true_iff_forall_mem.1 h1 e he
   rw [hb] at this
   simp at this
   rw [hd _ _ (by omega)]
   simpa using this
  ·
   unfold Region.free
   rw [h0]
   dsimp only
   rw [List.all_eq_true]
   intro j hj
   rw [List.mem_range] at hj
   by_cases hjk : j = k
   · simp [hjk]
   ·
    by_cases hlj : j < k
    ·
     rw [hd j true hj]
     simp [hlj]
    ·
     have e : ops[j]? = l[j - k - 1]? := by
      rw [hl',show k + 1 + (j - k - 1) = j by omega]
     obtain ⟨oj,hoj⟩ : ∃ oj,ops[j]? = some oj := ⟨_,Array.getElem?_eq_getElem hj⟩
     have hm : oj ∈ l := by
      rw [hoj] at e
      exact List.mem_of_getElem? e.symm
     have := List.all_eq_true.1 h2 oj hm
     rw [hoj]
     dsimp only
     rw [this]
     simp
  ·
   refine lexFrom_of l (k + 1) _ hl' (fun i d hi => ?_) (by simpa using hs) h3
   by_cases hik : k = i
   ·
    subst hik
    simp [Array.getD,hs,hlt]
   ·
    rw [getD_set_ne d hik,hd i d hi]
    congr 1
    apply propext
    omega
theorem lexB_of {md : Region.Mode} {l : List Oper} (hs : Region.noSelect l.toArray = true) (h : lexL md l.toArray 0 l = true) : Region.lexB md l.toArray = true := by
 unfold Region.lexB
 rw [hs,Bool.true_and]
 have := lexFrom_of (md := md) (ops := l.toArray) l 0 (Array.replicate l.toArray.size false) (fun j => by simp) (fun i d hi => by
  simp [Array.getD]
  intro h
  simp at hi
  omega) (by simp) h
 simpa using this
end Go.Proofs.YtillcleccjgocaaGreat
namespace Go.Proofs.YtillcleccjgocaaGreat
open Go.RowKit
open Mem
open Go.Sort (grow)
def AnsK (f : FuncId) (args : Array Value) (u : World) (i : Nat) (os : Array Obj) (v : Value) : Prop :=
 Calls Tryz.prog f args (grow (redrawn u i) os) fun e w'' => e = .returned v ∧ ∃ p : Regrown,w'' = grow (redrawn u p.d) p.os
theorem totals_agg (t : Iv.Tot) (ao bo : Option Addr) (p ca cb : Nat) (u : World) (hA : Pt.Ls u ao p ca t.parts) (hB : Pt.Ls u bo p cb t.parts) (i : Nat) (os : Array Obj) : AnsK 58 #[.agg #[.int .i64 t.net,.int .i64 t.tax,.int .i64 t.gross,.slice ao p ca],.agg #[.int .i64 t.net,.int .i64 t.tax,.int .i64 t.gross,.slice bo p cb]] u i os (.bool true) :=
 Calls.regrown_of (totals_same t ao bo p ca cb _ _ (Below.refl _ _) (hA.below (below_regrown u i os)) (hB.below (below_regrown u i os)))
set_option maxHeartbeats 4000000 in
theorem keep_posted (ps : List Bl.Ps) (rs qs : List Pd.T) (ao bo : Option Addr) (n ca cb : Nat) (w0 w : World) (hw : Below w0.heap.size w0 w) (hA : Pd.Ls w ao n ca rs) (hB : Pd.Ls w bo n cb qs) (hr : Bl.Each w rs ps) (hq : Bl.Each w qs ps) :
  Calls Tryz.prog 22 #[.slice ao n ca,.slice bo n cb] w fun e w' => e = .returned (.bool true) ∧ Below w0.heap.size w0 w' := by
 have HW := Lib.hid hw
 have HA := Lib.hid hA
 have HB := Lib.hid hB
 have HR := Lib.hid hr
 have HQ := Lib.hid hq
 have HN := Lib.hid hA.len
 have HM := Lib.hid hB.len
 have hcap := hA.reach
 have hfit := hA.fits
 have hcap2 := hB.reach
 have hfit2 := hB.fits
 clear hA hB hw hr hq
 go_enter Tryz.func22,Tryz.ntmps22
 go_wp2_with fail
 go_loopw [5] (fun j wr => ∃ k : Nat,k ≤ n ∧ j = .int .i64 k ∧ Hid (Below w.heap.size w wr)) (fun j _ => n - (intOf j).toNat)
 case atStart => exact ⟨0,by omega,rfl,Lib.hid (Below.refl _ _)⟩
 case round =>
  obtain ⟨k,hk,rfl,HBl⟩ := hrel
  by_cases hlt : k < n
  ·
   obtain ⟨b,off,rfl⟩ := HA.out.at (by omega)
   obtain ⟨b2,off2,rfl⟩ := HB.out.at (by omega)
   have hkr : k < rs.length := HN.out ▸ hlt
   have hkq : k < qs.length := HM.out ▸ hlt
   have hrow := (HA.out.row k hkr).below HBl.out
   have hrow2 := (HB.out.row k hkq).below HBl.out
   have hp := (HR.out.each k hkr).below HBl.out
   have hp2 := (HQ.out.each k hkq).below HBl.out
   generalize ps[k]'(HR.out.len ▸ hkr) = p at hp hp2
   generalize rs[k] = r at hrow hp
   generalize qs[k] = q at hrow2 hp2
   obtain ⟨r0,r1,r2,r3,r4,r5,r6,r7,⟨ra,rn,rc⟩,r9,r10,r11⟩ := r
   obtain ⟨q0,q1,q2,q3,q4,q5,q6,q7,⟨qa,qn,qc⟩,q9,q10,q11⟩ := q
   obtain ⟨x0,x1,x2,x3,x4,⟨x5,x6,x7,x8⟩,x9,x10,x11⟩ := p
   obtain ⟨e0,e1,e2,e3,e4,e5,e6,e7,hL,e9,e10,e11⟩ := hp
   obtain ⟨d0,d1,d2,d3,d4,d5,d6,d7,hL2,d9,d10,d11⟩ := hp2
   simp only at e0 e1 e2 e3 e4 e5 e6 e7 e9 e10 e11 d0 d1 d2 d3 d4 d5 d6 d7 d9 d10 d11 hL hL2
   subst e0 e1 e2 e3 e4 e5 e6 e7 e9 e10 e11 d0 d1 d2 d3 d4 d5 d6 d7 d9 d10 d11
   obtain rfl : rn = qn := hL.len.trans hL2.len.symm
   have c1 := totals_agg ⟨q5,q6,q7,x8⟩ ra qa rn rc qc wr hL hL2
   simp only at c1
   obtain ⟨g0,g1,g2,g3,g4,g5,g6,g7,g8,g9,g10,g11⟩ := hrow
   obtain ⟨h0,h1,h2,h3,h4,h5,h6,h7,h8,h9,h10,h11⟩ := hrow2
   simp only at g0 g1 g2 g3 g4 g5 g6 g7 g8 g9 g10 g11 h0 h1 h2 h3 h4 h5 h6 h7 h8 h9 h10 h11
   have k0 := cell_regrown g0
   have m0 := cell_regrown h0
   have k1 := cell_regrown g1
   have m1 := cell_regrown h1
   have k2 := cell_regrown g2
   have m2 := cell_regrown h2
   have k3 := cell_regrown g3
   have m3 := cell_regrown h3
   have k4 := cell_regrown g4
   have m4 := cell_regrown h4
   have k5 := cell_regrown g5
   have m5 := cell_regrown h5
   have k6 := cell_regrown g6
   have m6 := cell_regrown h6
   have k7 := cell_regrown g7
   have m7 := cell_regrown h7
   have k8 := cell_regrown g8
   have m8 := cell_regrown h8
   have k9 := cell_regrown g9
   have m9 := cell_regrown h9
   have k10 := cell_regrown g10
   have m10 := cell_regrown h10
   have k11 := cell_regrown g11
   have m11 := cell_regrown h11
   have t0 : (q0.toList == q0.toList) = true := beq_self_eq_true _
   have t1 : (q1 == q1) = true := beq_self_eq_true _
   have t2 : (q2 == q2) = true := beq_self_eq_true _
   have t3 : (q3 == q3) = true := beq_self_eq_true _
   have t4 : (q4 == q4) = true := beq_self_eq_true _
   have t9 : (q9.toList == q9.toList) = true := beq_self_eq_true _
   have t10 : (q10 == q10) = true := beq_self_eq_true _
   have t11 : (q11 == q11) = true := beq_self_eq_true _
   clear hL hL2
   go_wp2_with fail
   refine wp_region_quiet_below (by kernel_rfl) (lexB_of (by kernel_rfl) (by kernel_rfl)) ?_
   repeat (first | go_big_quiet_step (first | (go_at_call 58; exact c1 _ _)) | quiet_step (first | (go_at_call 58; exact c1 _ _)))
   refine wpQuiet_nil ?_
   intro _ hw'
   obtain ⟨⟨dq,osq⟩,hw''⟩ := hw'
   subst hw''
   have HBv := Lib.hid (bchain HBl.out (below_regrown wr dq osq))
   go_wp2_with fail
   go_roundw
   case rel => exact ⟨k + 1,by omega,by go_num,HBv⟩
   case measure => simp [intOf]; omega
  ·
   obtain rfl : k = n := by omega
   go_wp2_with fail
   go_ret
   exact ⟨rfl,bchain HW.out HBl.out⟩
end Go.Proofs.YtillcleccjgocaaGreat
namespace Go.Proofs.YtillcleccjgocaaGreat.Sr
open Go.RowKit
open Mem
open Go.Sort (grow)
def eqB (a b : T) : Bool := decide (a.name = b.name ∧ a.next = b.next ∧ a.limit = b.limit ∧ a.shut = b.shut)
theorem eqB_iff (a b : T) : eqB a b = true ↔ a = b := by
 unfold eqB
 rw [decide_eq_true_iff]
 cases a
 cases b
 simp
def sameB : List T → List T → Bool
 | [],[] => true
 | a :: l,b :: m => eqB a b && sameB l m
 | _,_ => false
theorem sameB_iff : ∀ l m : List T,sameB l m = true ↔ l = m
 | [],[] => by simp [sameB]
 | [],_ :: _ => by simp [sameB]
 | _ :: _,[] => by simp [sameB]
 | a :: l,b :: m => by
  rw [sameB,Bool.and_eq_true,eqB_iff,sameB_iff l m,List.cons.injEq]
theorem sameB_self (l : List T) : sameB l l = true := (sameB_iff l l).2 rfl
theorem sameB_len {l m : List T} (h : l.length ≠ m.length) : sameB l m = false := by
 rw [Bool.eq_false_iff]
 intro k
 exact h (congrArg List.length ((sameB_iff l m).1 k))
theorem same_at (l m : List T) (k : Nat) (h : k < l.length) (h' : k < m.length) : sameB (l.drop k) (m.drop k) = (eqB l[k] m[k] && sameB (l.drop (k + 1)) (m.drop (k + 1))) := by
 rw [List.drop_eq_getElem_cons h,List.drop_eq_getElem_cons h',sameB]
set_option maxHeartbeats 4000000 in
theorem same_any (xs ys : List T) (ao bo : Option Addr) (n m ca cb : Nat) (w0 w : World) (hw : Below w0.heap.size w0 w) (hA : Ls w ao n ca xs) (hB : Ls w bo m cb ys) :
  Calls Tryz.prog 21 #[.slice ao n ca,.slice bo m cb] w fun e w' => e = .returned (.bool (sameB xs ys)) ∧ Below w0.heap.size w0 w' := by
 have HW := Lib.hid hw
 have HA := Lib.hid hA
 have HB := Lib.hid hB
 have HN := Lib.hid hA.len
 have HM := Lib.hid hB.len
 have hca := hA.reach
 have hfa := hA.fits
 have hcb := hB.reach
 have hfb := hB.fits
 clear hw hA hB
 by_cases hnm : n = m
 ·
  subst hnm
  have hne : ((n : Int) != (n : Int)) = false := bne_self_eq_false _
  go_enter Tryz.func21,Tryz.ntmps21
  go_wp2
  go_loopw [5] (fun i wr => ∃ k : Nat,k ≤ n ∧ i = .int .i64 k ∧ Hid (sameB (xs.drop k) (ys.drop k) = sameB xs ys) ∧ Hid (Below w.heap.size w wr)) (fun i _ => n - (intOf i).toNat)
  case atStart => exact ⟨0,Nat.zero_le _,rfl,Lib.hid rfl,Lib.hid (Below.refl _ _)⟩
  case round =>
   obtain ⟨k,hk,rfl,HK,HBz⟩ := hrel
   by_cases hlt : k < n
   ·
    obtain ⟨a,oa,rfl⟩ := HA.out.at (by omega)
    obtain ⟨b,ob,rfl⟩ := HB.out.at (by omega)
    have hkr : k < xs.length := HN.out ▸ hlt
    have hks : k < ys.length := HM.out ▸ hlt
    have HSt := Lib.hid (same_at xs ys k hkr hks)
    obtain ⟨r,hr⟩ : ∃ r,xs[k] = r := ⟨_,rfl⟩
    obtain ⟨s,hs⟩ : ∃ s,ys[k] = s := ⟨_,rfl⟩
    have h1 := (HA.out.row k hkr).below HBz.out
    have h2 := (HB.out.row k hks).below HBz.out
    rw [hr] at h1 HSt
    rw [hs] at h2 HSt
    clear hr hs
    obtain ⟨g0,g1,g2,g3⟩ := h1
    obtain ⟨f0,f1,f2,f3⟩ := h2
    have g0' := cell_regrown g0
    have g1' := cell_regrown g1
    have g2' := cell_regrown g2
    have g3' := cell_regrown g3
    have f0' := cell_regrown f0
    have f1' := cell_regrown f1
    have f2' := cell_regrown f2
    have f3' := cell_regrown f3
    clear g0 g1 g2 g3 f0 f1 f2 f3
    by_cases e0 : r.name = s.name
    ·
     have q0 : (r.name.toList == s.name.toList) = true := beq_iff_eq.2 (by rw [e0])
     by_cases e1 : r.next = s.next
     ·
      have q1 : (r.next == s.next) = true := beq_iff_eq.2 e1
      by_cases e2 : r.limit = s.limit
      ·
       have q2 : (r.limit == s.limit) = true := beq_iff_eq.2 e2
       by_cases e3 : r.shut = s.shut
       ·
        have q3 : (r.shut == s.shut) = true := beq_iff_eq.2 e3
        have HE : Hid (eqB r s = true) := Lib.hid (decide_eq_true ⟨e0,e1,e2,e3⟩)
        clear e0 e1 e2 e3
        go_wp2
        refine wp_region_quiet_below (by kernel_rfl) (by kernel_rfl) ?_
        repeat (first | go_big_quiet_step (fail) | quiet_step (fail))
        refine wpQuiet_nil ?_
        intro _ hw'
        obtain ⟨⟨dq,osq⟩,hw''⟩ := hw'
        subst hw''
        have HBv := Lib.hid (bchain HBz.out (below_regrown wr dq osq))
        go_wp2
        go_roundw
        case rel => exact ⟨k + 1,by omega,by go_num,Lib.hid (by rw [← HK.out,HSt.out,HE.out,Bool.true_and]),HBv⟩
        case measure => simp [intOf]; omega
       ·
        have q3 : (r.shut == s.shut) = false := beq_eq_false_iff_ne.2 e3
        have HE : Hid (eqB r s = false) := Lib.hid (decide_eq_false fun h => e3 h.2.2.2)
        clear e0 e1 e2 e3
        go_wp2
        refine wp_region_quiet_below (by kernel_rfl) (by kernel_rfl) ?_
        repeat (first | go_big_quiet_step (fail) | quiet_step (fail))
        refine wpQuiet_nil ?_
        intro _ hw'
        obtain ⟨⟨dq,osq⟩,hw''⟩ := hw'
        subst hw''
        have HBv := Lib.hid (bchain HBz.out (below_regrown wr dq osq))
        go_wp2
        go_ret
        exact ⟨ret_bool (by rw [← HK.out,HSt.out,HE.out,Bool.false_and]),bchain HW.out HBv.out⟩
      ·
       have q2 : (r.limit == s.limit) = false := beq_eq_false_iff_ne.2 e2
       have HE : Hid (eqB r s = false) := Lib.hid (decide_eq_false fun h => e2 h.2.2.1)
       clear e0 e1 e2
       go_wp2
       refine wp_region_quiet_below (by kernel_rfl) (by kernel_rfl) ?_
       repeat (first | go_big_quiet_step (fail) | quiet_step (fail))
       refine wpQuiet_nil ?_
       intro _ hw'
       obtain ⟨⟨dq,osq⟩,hw''⟩ := hw'
       subst hw''
       have HBv := Lib.hid (bchain HBz.out (below_regrown wr dq osq))
       go_wp2
       go_ret
       exact ⟨ret_bool (by rw [← HK.out,HSt.out,HE.out,Bool.false_and]),bchain HW.out HBv.out⟩
     ·
      have q1 : (r.next == s.next) = false := beq_eq_false_iff_ne.2 e1
      have HE : Hid (eqB r s = false) := Lib.hid (decide_eq_false fun h => e1 h.2.1)
      clear e0 e1
      go_wp2
      refine wp_region_quiet_below (by kernel_rfl) (by kernel_rfl) ?_
      repeat (first | go_big_quiet_step (fail) | quiet_step (fail))
      refine wpQuiet_nil ?_
      intro _ hw'
      obtain ⟨⟨dq,osq⟩,hw''⟩ := hw'
      subst hw''
      have HBv := Lib.hid (bchain HBz.out (below_regrown wr dq osq))
      go_wp2
      go_ret
      exact ⟨ret_bool (by rw [← HK.out,HSt.out,HE.out,Bool.false_and]),bchain HW.out HBv.out⟩
    ·
     have q0 : (r.name.toList == s.name.toList) = false := beq_eq_false_iff_ne.2 fun h => e0 (txt_ext (by rw [← tl,← tl]; exact h))
     have HE : Hid (eqB r s = false) := Lib.hid (decide_eq_false fun h => e0 h.1)
     clear e0
     go_wp2
     refine wp_region_quiet_below (by kernel_rfl) (by kernel_rfl) ?_
     repeat (first | go_big_quiet_step (fail) | quiet_step (fail))
     refine wpQuiet_nil ?_
     intro _ hw'
     obtain ⟨⟨dq,osq⟩,hw''⟩ := hw'
     subst hw''
     have HBv := Lib.hid (bchain HBz.out (below_regrown wr dq osq))
     go_wp2
     go_ret
     exact ⟨ret_bool (by rw [← HK.out,HSt.out,HE.out,Bool.false_and]),bchain HW.out HBv.out⟩
   ·
    obtain rfl : k = n := by omega
    go_wp2
    go_ret
    refine ⟨ret_bool ?_,HW.out.trans (HBz.out.mono HW.out.size)⟩
    rw [← HK.out,List.drop_eq_nil_of_le (Nat.le_of_eq HN.out.symm),List.drop_eq_nil_of_le (Nat.le_of_eq HM.out.symm)]
    rfl
 ·
  have HE := Lib.hid (sameB_len (l := xs) (m := ys) (by rw [← HN.out,← HM.out]; exact hnm))
  have hne : ((n : Int) != (m : Int)) = true := bne_iff_ne.2 (by omega)
  go_enter Tryz.func21,Tryz.ntmps21
  go_wp2
  go_ret
  exact ⟨ret_bool HE.out.symm,HW.out⟩
theorem same_rows (xs : List T) (ao bo : Option Addr) (n ca cb : Nat) (w0 w : World) (hw : Below w0.heap.size w0 w) (hA : Ls w ao n ca xs) (hB : Ls w bo n cb xs) :
  Calls Tryz.prog 21 #[.slice ao n ca,.slice bo n cb] w fun e w' => e = .returned (.bool true) ∧ Below w0.heap.size w0 w' := by
 have h := same_any xs xs ao bo n n ca cb w0 w hw hA hB
 rw [sameB_self] at h
 exact h
end Go.Proofs.YtillcleccjgocaaGreat.Sr
namespace Go.Proofs.YtillcleccjgocaaGreat.Ba
open Go.RowKit
open Mem
open Go.Sort (grow)
def eqB (a b : T) : Bool := decide (a.acct = b.acct ∧ a.amt = b.amt)
theorem eqB_iff (a b : T) : eqB a b = true ↔ a = b := by
 unfold eqB
 rw [decide_eq_true_iff]
 cases a
 cases b
 simp
def sameB : List T → List T → Bool
 | [],[] => true
 | a :: l,b :: m => eqB a b && sameB l m
 | _,_ => false
theorem sameB_iff : ∀ l m : List T,sameB l m = true ↔ l = m
 | [],[] => by simp [sameB]
 | [],_ :: _ => by simp [sameB]
 | _ :: _,[] => by simp [sameB]
 | a :: l,b :: m => by
  rw [sameB,Bool.and_eq_true,eqB_iff,sameB_iff l m,List.cons.injEq]
theorem sameB_self (l : List T) : sameB l l = true := (sameB_iff l l).2 rfl
theorem sameB_len {l m : List T} (h : l.length ≠ m.length) : sameB l m = false := by
 rw [Bool.eq_false_iff]
 intro k
 exact h (congrArg List.length ((sameB_iff l m).1 k))
theorem same_at (l m : List T) (k : Nat) (h : k < l.length) (h' : k < m.length) : sameB (l.drop k) (m.drop k) = (eqB l[k] m[k] && sameB (l.drop (k + 1)) (m.drop (k + 1))) := by
 rw [List.drop_eq_getElem_cons h,List.drop_eq_getElem_cons h',sameB]
set_option maxHeartbeats 4000000 in
theorem same_any (xs ys : List T) (ao bo : Option Addr) (n m ca cb : Nat) (w0 w : World) (hw : Below w0.heap.size w0 w) (hA : Ls w ao n ca xs) (hB : Ls w bo m cb ys) :
  Calls Tryz.prog 23 #[.slice ao n ca,.slice bo m cb] w fun e w' => e = .returned (.bool (sameB xs ys)) ∧ Below w0.heap.size w0 w' := by
 have HW := Lib.hid hw
 have HA := Lib.hid hA
 have HB := Lib.hid hB
 have HN := Lib.hid hA.len
 have HM := Lib.hid hB.len
 have hca := hA.reach
 have hfa := hA.fits
 have hcb := hB.reach
 have hfb := hB.fits
 clear hw hA hB
 by_cases hnm : n = m
 ·
  subst hnm
  have hne : ((n : Int) != (n : Int)) = false := bne_self_eq_false _
  go_enter Tryz.func23,Tryz.ntmps23
  go_wp2
  go_loopw [5] (fun i wr => ∃ k : Nat,k ≤ n ∧ i = .int .i64 k ∧ Hid (sameB (xs.drop k) (ys.drop k) = sameB xs ys) ∧ Hid (Below w.heap.size w wr)) (fun i _ => n - (intOf i).toNat)
  case atStart => exact ⟨0,Nat.zero_le _,rfl,Lib.hid rfl,Lib.hid (Below.refl _ _)⟩
  case round =>
   obtain ⟨k,hk,rfl,HK,HBz⟩ := hrel
   by_cases hlt : k < n
   ·
    obtain ⟨a,oa,rfl⟩ := HA.out.at (by omega)
    obtain ⟨b,ob,rfl⟩ := HB.out.at (by omega)
    have hkr : k < xs.length := HN.out ▸ hlt
    have hks : k < ys.length := HM.out ▸ hlt
    have HSt := Lib.hid (same_at xs ys k hkr hks)
    obtain ⟨r,hr⟩ : ∃ r,xs[k] = r := ⟨_,rfl⟩
    obtain ⟨s,hs⟩ : ∃ s,ys[k] = s := ⟨_,rfl⟩
    have h1 := (HA.out.row k hkr).below HBz.out
    have h2 := (HB.out.row k hks).below HBz.out
    rw [hr] at h1 HSt
    rw [hs] at h2 HSt
    clear hr hs
    obtain ⟨g0,g1⟩ := h1
    obtain ⟨f0,f1⟩ := h2
    have g0' := cell_regrown g0
    have g1' := cell_regrown g1
    have f0' := cell_regrown f0
    have f1' := cell_regrown f1
    clear g0 g1 f0 f1
    by_cases e0 : r.acct = s.acct
    ·
     have q0 : (r.acct.toList == s.acct.toList) = true := beq_iff_eq.2 (by rw [e0])
     by_cases e1 : r.amt = s.amt
     ·
      have q1 : (r.amt == s.amt) = true := beq_iff_eq.2 e1
      have HE : Hid (eqB r s = true) := Lib.hid (decide_eq_true ⟨e0,e1⟩)
      clear e0 e1
      go_wp2
      refine wp_region_quiet_below (by kernel_rfl) (by kernel_rfl) ?_
      repeat (first | go_big_quiet_step (fail) | quiet_step (fail))
      refine wpQuiet_nil ?_
      intro _ hw'
      obtain ⟨⟨dq,osq⟩,hw''⟩ := hw'
      subst hw''
      have HBv := Lib.hid (bchain HBz.out (below_regrown wr dq osq))
      go_wp2
      go_roundw
      case rel => exact ⟨k + 1,by omega,by go_num,Lib.hid (by rw [← HK.out,HSt.out,HE.out,Bool.true_and]),HBv⟩
      case measure => simp [intOf]; omega
     ·
      have q1 : (r.amt == s.amt) = false := beq_eq_false_iff_ne.2 e1
      have HE : Hid (eqB r s = false) := Lib.hid (decide_eq_false fun h => e1 h.2)
      clear e0 e1
      go_wp2
      refine wp_region_quiet_below (by kernel_rfl) (by kernel_rfl) ?_
      repeat (first | go_big_quiet_step (fail) | quiet_step (fail))
      refine wpQuiet_nil ?_
      intro _ hw'
      obtain ⟨⟨dq,osq⟩,hw''⟩ := hw'
      subst hw''
      have HBv := Lib.hid (bchain HBz.out (below_regrown wr dq osq))
      go_wp2
      go_ret
      exact ⟨ret_bool (by rw [← HK.out,HSt.out,HE.out,Bool.false_and]),bchain HW.out HBv.out⟩
    ·
     have q0 : (r.acct.toList == s.acct.toList) = false := beq_eq_false_iff_ne.2 fun h => e0 (txt_ext (by rw [← tl,← tl]; exact h))
     have HE : Hid (eqB r s = false) := Lib.hid (decide_eq_false fun h => e0 h.1)
     clear e0
     go_wp2
     refine wp_region_quiet_below (by kernel_rfl) (by kernel_rfl) ?_
     repeat (first | go_big_quiet_step (fail) | quiet_step (fail))
     refine wpQuiet_nil ?_
     intro _ hw'
     obtain ⟨⟨dq,osq⟩,hw''⟩ := hw'
     subst hw''
     have HBv := Lib.hid (bchain HBz.out (below_regrown wr dq osq))
     go_wp2
     go_ret
     exact ⟨ret_bool (by rw [← HK.out,HSt.out,HE.out,Bool.false_and]),bchain HW.out HBv.out⟩
   ·
    obtain rfl : k = n := by omega
    go_wp2
    go_ret
    refine ⟨ret_bool ?_,HW.out.trans (HBz.out.mono HW.out.size)⟩
    rw [← HK.out,List.drop_eq_nil_of_le (Nat.le_of_eq HN.out.symm),List.drop_eq_nil_of_le (Nat.le_of_eq HM.out.symm)]
    rfl
 ·
  have HE := Lib.hid (sameB_len (l := xs) (m := ys) (by rw [← HN.out,← HM.out]; exact hnm))
  have hne : ((n : Int) != (m : Int)) = true := bne_iff_ne.2 (by omega)
  go_enter Tryz.func23,Tryz.ntmps23
  go_wp2
  go_ret
  exact ⟨ret_bool HE.out.symm,HW.out⟩
theorem same_rows (xs : List T) (ao bo : Option Addr) (n ca cb : Nat) (w0 w : World) (hw : Below w0.heap.size w0 w) (hA : Ls w ao n ca xs) (hB : Ls w bo n cb xs) :
  Calls Tryz.prog 23 #[.slice ao n ca,.slice bo n cb] w fun e w' => e = .returned (.bool true) ∧ Below w0.heap.size w0 w' := by
 have h := same_any xs xs ao bo n n ca cb w0 w hw hA hB
 rw [sameB_self] at h
 exact h
end Go.Proofs.YtillcleccjgocaaGreat.Ba
namespace Go.Proofs.YtillcleccjgocaaGreat.Sn
open Go.RowKit
open Mem
open Go.Sort (grow)
def eqB (a b : T) : Bool := decide (a.id = b.id ∧ a.last = b.last ∧ a.why = b.why ∧ a.num = b.num ∧ a.gross = b.gross)
theorem eqB_iff (a b : T) : eqB a b = true ↔ a = b := by
 unfold eqB
 rw [decide_eq_true_iff]
 cases a
 cases b
 simp
def sameB : List T → List T → Bool
 | [],[] => true
 | a :: l,b :: m => eqB a b && sameB l m
 | _,_ => false
theorem sameB_iff : ∀ l m : List T,sameB l m = true ↔ l = m
 | [],[] => by simp [sameB]
 | [],_ :: _ => by simp [sameB]
 | _ :: _,[] => by simp [sameB]
 | a :: l,b :: m => by
  rw [sameB,Bool.and_eq_true,eqB_iff,sameB_iff l m,List.cons.injEq]
theorem sameB_self (l : List T) : sameB l l = true := (sameB_iff l l).2 rfl
theorem sameB_len {l m : List T} (h : l.length ≠ m.length) : sameB l m = false := by
 rw [Bool.eq_false_iff]
 intro k
 exact h (congrArg List.length ((sameB_iff l m).1 k))
theorem same_at (l m : List T) (k : Nat) (h : k < l.length) (h' : k < m.length) : sameB (l.drop k) (m.drop k) = (eqB l[k] m[k] && sameB (l.drop (k + 1)) (m.drop (k + 1))) := by
 rw [List.drop_eq_getElem_cons h,List.drop_eq_getElem_cons h',sameB]
set_option maxHeartbeats 4000000 in
theorem same_any (xs ys : List T) (ao bo : Option Addr) (n m ca cb : Nat) (w0 w : World) (hw : Below w0.heap.size w0 w) (hA : Ls w ao n ca xs) (hB : Ls w bo m cb ys) :
  Calls Tryz.prog 24 #[.slice ao n ca,.slice bo m cb] w fun e w' => e = .returned (.bool (sameB xs ys)) ∧ Below w0.heap.size w0 w' := by
 have HW := Lib.hid hw
 have HA := Lib.hid hA
 have HB := Lib.hid hB
 have HN := Lib.hid hA.len
 have HM := Lib.hid hB.len
 have hca := hA.reach
 have hfa := hA.fits
 have hcb := hB.reach
 have hfb := hB.fits
 clear hw hA hB
 by_cases hnm : n = m
 ·
  subst hnm
  have hne : ((n : Int) != (n : Int)) = false := bne_self_eq_false _
  go_enter Tryz.func24,Tryz.ntmps24
  go_wp2
  go_loopw [5] (fun i wr => ∃ k : Nat,k ≤ n ∧ i = .int .i64 k ∧ Hid (sameB (xs.drop k) (ys.drop k) = sameB xs ys) ∧ Hid (Below w.heap.size w wr)) (fun i _ => n - (intOf i).toNat)
  case atStart => exact ⟨0,Nat.zero_le _,rfl,Lib.hid rfl,Lib.hid (Below.refl _ _)⟩
  case round =>
   obtain ⟨k,hk,rfl,HK,HBz⟩ := hrel
   by_cases hlt : k < n
   ·
    obtain ⟨a,oa,rfl⟩ := HA.out.at (by omega)
    obtain ⟨b,ob,rfl⟩ := HB.out.at (by omega)
    have hkr : k < xs.length := HN.out ▸ hlt
    have hks : k < ys.length := HM.out ▸ hlt
    have HSt := Lib.hid (same_at xs ys k hkr hks)
    obtain ⟨r,hr⟩ : ∃ r,xs[k] = r := ⟨_,rfl⟩
    obtain ⟨s,hs⟩ : ∃ s,ys[k] = s := ⟨_,rfl⟩
    have h1 := (HA.out.row k hkr).below HBz.out
    have h2 := (HB.out.row k hks).below HBz.out
    rw [hr] at h1 HSt
    rw [hs] at h2 HSt
    clear hr hs
    obtain ⟨g0,g1,g2,g3,g4⟩ := h1
    obtain ⟨f0,f1,f2,f3,f4⟩ := h2
    have g0' := cell_regrown g0
    have g1' := cell_regrown g1
    have g2' := cell_regrown g2
    have g3' := cell_regrown g3
    have g4' := cell_regrown g4
    have f0' := cell_regrown f0
    have f1' := cell_regrown f1
    have f2' := cell_regrown f2
    have f3' := cell_regrown f3
    have f4' := cell_regrown f4
    clear g0 g1 g2 g3 g4 f0 f1 f2 f3 f4
    by_cases e0 : r.id = s.id
    ·
     have q0 : (r.id == s.id) = true := beq_iff_eq.2 e0
     by_cases e1 : r.last = s.last
     ·
      have q1 : (r.last == s.last) = true := beq_iff_eq.2 e1
      by_cases e2 : r.why = s.why
      ·
       have q2 : (r.why == s.why) = true := beq_iff_eq.2 e2
       by_cases e3 : r.num = s.num
       ·
        have q3 : (r.num == s.num) = true := beq_iff_eq.2 e3
        by_cases e4 : r.gross = s.gross
        ·
         have q4 : (r.gross == s.gross) = true := beq_iff_eq.2 e4
         have HE : Hid (eqB r s = true) := Lib.hid (decide_eq_true ⟨e0,e1,e2,e3,e4⟩)
         clear e0 e1 e2 e3 e4
         go_wp2
         refine wp_region_quiet_below (by kernel_rfl) (by kernel_rfl) ?_
         repeat (first | go_big_quiet_step (fail) | quiet_step (fail))
         refine wpQuiet_nil ?_
         intro _ hw'
         obtain ⟨⟨dq,osq⟩,hw''⟩ := hw'
         subst hw''
         have HBv := Lib.hid (bchain HBz.out (below_regrown wr dq osq))
         go_wp2
         go_roundw
         case rel => exact ⟨k + 1,by omega,by go_num,Lib.hid (by rw [← HK.out,HSt.out,HE.out,Bool.true_and]),HBv⟩
         case measure => simp [intOf]; omega
        ·
         have q4 : (r.gross == s.gross) = false := beq_eq_false_iff_ne.2 e4
         have HE : Hid (eqB r s = false) := Lib.hid (decide_eq_false fun h => e4 h.2.2.2.2)
         clear e0 e1 e2 e3 e4
         go_wp2
         refine wp_region_quiet_below (by kernel_rfl) (by kernel_rfl) ?_
         repeat (first | go_big_quiet_step (fail) | quiet_step (fail))
         refine wpQuiet_nil ?_
         intro _ hw'
         obtain ⟨⟨dq,osq⟩,hw''⟩ := hw'
         subst hw''
         have HBv := Lib.hid (bchain HBz.out (below_regrown wr dq osq))
         go_wp2
         go_ret
         exact ⟨ret_bool (by rw [← HK.out,HSt.out,HE.out,Bool.false_and]),bchain HW.out HBv.out⟩
       ·
        have q3 : (r.num == s.num) = false := beq_eq_false_iff_ne.2 e3
        have HE : Hid (eqB r s = false) := Lib.hid (decide_eq_false fun h => e3 h.2.2.2.1)
        clear e0 e1 e2 e3
        go_wp2
        refine wp_region_quiet_below (by kernel_rfl) (by kernel_rfl) ?_
        repeat (first | go_big_quiet_step (fail) | quiet_step (fail))
        refine wpQuiet_nil ?_
        intro _ hw'
        obtain ⟨⟨dq,osq⟩,hw''⟩ := hw'
        subst hw''
        have HBv := Lib.hid (bchain HBz.out (below_regrown wr dq osq))
        go_wp2
        go_ret
        exact ⟨ret_bool (by rw [← HK.out,HSt.out,HE.out,Bool.false_and]),bchain HW.out HBv.out⟩
      ·
       have q2 : (r.why == s.why) = false := beq_eq_false_iff_ne.2 e2
       have HE : Hid (eqB r s = false) := Lib.hid (decide_eq_false fun h => e2 h.2.2.1)
       clear e0 e1 e2
       go_wp2
       refine wp_region_quiet_below (by kernel_rfl) (by kernel_rfl) ?_
       repeat (first | go_big_quiet_step (fail) | quiet_step (fail))
       refine wpQuiet_nil ?_
       intro _ hw'
       obtain ⟨⟨dq,osq⟩,hw''⟩ := hw'
       subst hw''
       have HBv := Lib.hid (bchain HBz.out (below_regrown wr dq osq))
       go_wp2
       go_ret
       exact ⟨ret_bool (by rw [← HK.out,HSt.out,HE.out,Bool.false_and]),bchain HW.out HBv.out⟩
     ·
      have q1 : (r.last == s.last) = false := beq_eq_false_iff_ne.2 e1
      have HE : Hid (eqB r s = false) := Lib.hid (decide_eq_false fun h => e1 h.2.1)
      clear e0 e1
      go_wp2
      refine wp_region_quiet_below (by kernel_rfl) (by kernel_rfl) ?_
      repeat (first | go_big_quiet_step (fail) | quiet_step (fail))
      refine wpQuiet_nil ?_
      intro _ hw'
      obtain ⟨⟨dq,osq⟩,hw''⟩ := hw'
      subst hw''
      have HBv := Lib.hid (bchain HBz.out (below_regrown wr dq osq))
      go_wp2
      go_ret
      exact ⟨ret_bool (by rw [← HK.out,HSt.out,HE.out,Bool.false_and]),bchain HW.out HBv.out⟩
    ·
     have q0 : (r.id == s.id) = false := beq_eq_false_iff_ne.2 e0
     have HE : Hid (eqB r s = false) := Lib.hid (decide_eq_false fun h => e0 h.1)
     clear e0
     go_wp2
     refine wp_region_quiet_below (by kernel_rfl) (by kernel_rfl) ?_
     repeat (first | go_big_quiet_step (fail) | quiet_step (fail))
     refine wpQuiet_nil ?_
     intro _ hw'
     obtain ⟨⟨dq,osq⟩,hw''⟩ := hw'
     subst hw''
     have HBv := Lib.hid (bchain HBz.out (below_regrown wr dq osq))
     go_wp2
     go_ret
     exact ⟨ret_bool (by rw [← HK.out,HSt.out,HE.out,Bool.false_and]),bchain HW.out HBv.out⟩
   ·
    obtain rfl : k = n := by omega
    go_wp2
    go_ret
    refine ⟨ret_bool ?_,HW.out.trans (HBz.out.mono HW.out.size)⟩
    rw [← HK.out,List.drop_eq_nil_of_le (Nat.le_of_eq HN.out.symm),List.drop_eq_nil_of_le (Nat.le_of_eq HM.out.symm)]
    rfl
 ·
  have HE := Lib.hid (sameB_len (l := xs) (m := ys) (by rw [← HN.out,← HM.out]; exact hnm))
  have hne : ((n : Int) != (m : Int)) = true := bne_iff_ne.2 (by omega)
  go_enter Tryz.func24,Tryz.ntmps24
  go_wp2
  go_ret
  exact ⟨ret_bool HE.out.symm,HW.out⟩
theorem same_rows (xs : List T) (ao bo : Option Addr) (n ca cb : Nat) (w0 w : World) (hw : Below w0.heap.size w0 w) (hA : Ls w ao n ca xs) (hB : Ls w bo n cb xs) :
  Calls Tryz.prog 24 #[.slice ao n ca,.slice bo n cb] w fun e w' => e = .returned (.bool true) ∧ Below w0.heap.size w0 w' := by
 have h := same_any xs xs ao bo n n ca cb w0 w hw hA hB
 rw [sameB_self] at h
 exact h
end Go.Proofs.YtillcleccjgocaaGreat.Sn
namespace Go.Proofs.YtillcleccjgocaaGreat
open Go.RowKit
open Vt (Rt)
open Go.Sort (grow)
set_option maxHeartbeats 1000000 in
theorem same_rows (xs : List Rt) (ao bo : Option Addr) (n ca cb : Nat) (w0 w : World) (hw : Below w0.heap.size w0 w) (hA : Rts w ao n ca xs) (hB : Rts w bo n cb xs) :
  Calls Tryz.prog 20 #[.slice ao n ca,.slice bo n cb] w fun e w' => e = .returned (.bool true) ∧ Below w0.heap.size w0 w' := by
 have HW := Lib.hid hw
 have HA := Lib.hid hA
 have HB := Lib.hid hB
 have HN := Lib.hid hA.len
 have hca := hA.reach
 have hfa := hA.fits
 have hcb := hB.reach
 have hfb := hB.fits
 clear hw hA hB
 have hne : ((n : Int) != (n : Int)) = false := bne_self_eq_false _
 go_enter Tryz.func20,Tryz.ntmps20
 go_wp2
 go_loopw [5] (fun i wr => ∃ k : Nat,k ≤ n ∧ i = .int .i64 k ∧ Hid (Below w.heap.size w wr)) (fun i _ => n - (intOf i).toNat)
 case atStart => exact ⟨0,Nat.zero_le _,rfl,Lib.hid (Below.refl _ _)⟩
 case round =>
  obtain ⟨k,hk,rfl,HBz⟩ := hrel
  by_cases hlt : k < n
  ·
   obtain ⟨a,oa,rfl⟩ := HA.out.at (by omega)
   obtain ⟨b,ob,rfl⟩ := HB.out.at (by omega)
   have hkr : k < xs.length := HN.out ▸ hlt
   obtain ⟨r,hr⟩ : ∃ r,xs[k] = r := ⟨_,rfl⟩
   have h1 := (HA.out.row k hkr).below HBz.out
   have h2 := (HB.out.row k hkr).below HBz.out
   rw [hr] at h1 h2
   clear hr
   obtain ⟨g0,g1,g2,g3,g4⟩ := h1
   obtain ⟨f0,f1,f2,f3,f4⟩ := h2
   have g0' := cell_regrown g0
   have g1' := cell_regrown g1
   have g2' := cell_regrown g2
   have g3' := cell_regrown g3
   have g4' := cell_regrown g4
   have f0' := cell_regrown f0
   have f1' := cell_regrown f1
   have f2' := cell_regrown f2
   have f3' := cell_regrown f3
   have f4' := cell_regrown f4
   have q0 : (r.cat.toList == r.cat.toList) = true := beq_self_eq_true _
   have q1 : (r.y == r.y) = true := beq_self_eq_true _
   have q2 : (r.m == r.m) = true := beq_self_eq_true _
   have q3 : (r.d == r.d) = true := beq_self_eq_true _
   have q4 : (r.bp == r.bp) = true := beq_self_eq_true _
   go_wp2
   refine wp_region_quiet_below (by kernel_rfl) (by kernel_rfl) ?_
   repeat (first | go_big_quiet_step (fail) | quiet_step (fail))
   refine wpQuiet_nil ?_
   intro _ hw'
   obtain ⟨⟨dq,osq⟩,hw''⟩ := hw'
   subst hw''
   have HBv := Lib.hid (bchain HBz.out (below_regrown wr dq osq))
   go_wp2
   go_roundw
   case rel => exact ⟨k + 1,by omega,by go_num,HBv⟩
   case measure => simp [intOf]; omega
  ·
   obtain rfl : k = n := by omega
   go_wp2
   go_ret
   exact ⟨rfl,HW.out.trans (HBz.out.mono HW.out.size)⟩
end Go.Proofs.YtillcleccjgocaaGreat
namespace Go.Proofs.YtillcleccjgocaaGreat
open Go.RowKit
open Mem
def Bl.box (w : World) (h : Bl.Sv) : World := w.alloc (.cells #[Bl.sl h.tab,Bl.sl h.ser,Bl.sl h.post,Bl.sl h.book,Bl.sl h.sess,.int .i64 h.next] 30)
def Bl.At (u : World) (g : Nat) (h : Bl.Sv) : Prop := u.heap[g]? = some (.cells #[Bl.sl h.tab,Bl.sl h.ser,Bl.sl h.post,Bl.sl h.book,Bl.sl h.sess,.int .i64 h.next] 30 (0,0))
theorem Bl.at_box (w : World) (h : Bl.Sv) : Bl.At (Bl.box w h) w.heap.size h := heap_alloc_new w _
theorem Bl.box_size (w : World) (h : Bl.Sv) : (Bl.box w h).heap.size = w.heap.size + 1 := by
 unfold Bl.box
 simp
theorem Bl.below_own (w : World) (h : Bl.Sv) : Below w.heap.size w (Bl.box w h) := (Below.refl _ _).alloc (Nat.le_refl _) _
theorem Bl.At.lt {u : World} {g : Nat} {h : Bl.Sv} (a : Bl.At u g h) : g < u.heap.size := by
 obtain ⟨hl,_⟩ := Array.getElem?_eq_some_iff.1 a
 exact hl
theorem Bl.At.below {u v : World} {g : Nat} {h : Bl.Sv} (a : Bl.At u g h) (b : Below u.heap.size u v) : Bl.At v g h := (b.block g a.lt).trans a
theorem Bl.At.cells {u : World} {g : Nat} {h : Bl.Sv} (a : Bl.At u g h) : u.cell? ⟨g,0,none⟩ = some (.slice h.tab.ao h.tab.n h.tab.cap) ∧ u.cell? ⟨g,1,none⟩ = some (.slice h.ser.ao h.ser.n h.ser.cap) ∧ u.cell? ⟨g,2,none⟩ = some (.slice h.post.ao h.post.n h.post.cap) ∧ u.cell? ⟨g,3,none⟩ = some (.slice h.book.ao h.book.n h.book.cap) ∧ u.cell? ⟨g,4,none⟩ = some (.slice h.sess.ao h.sess.n h.sess.cap) ∧ u.cell? ⟨g,5,none⟩ = some (.int .i64 h.next) := by
 refine ⟨?_,?_,?_,?_,?_,?_⟩
 all_goals
  rw [cell_of_row u g _ _ _ _ a]
  rfl
theorem Bl.At.frozen {u : World} {g : Nat} {h : Bl.Sv} (a : Bl.At u g h) (k : Nat) : u.frozen? ⟨g,k,none⟩ = false := frozen_of_row u g k _ _ a
set_option maxHeartbeats 4000000 in
theorem keep_states (s : Bl.St) (h k : Bl.Sv) (w0 w : World) (hw : Below w0.heap.size w0 w) (hA : Bl.Lies w h s) (hB : Bl.Lies w k s) :
  Calls Tryz.prog 10 #[h.val,k.val] w fun e w' => e = .returned (.bool true) ∧ Below w0.heap.size w0 w' := by
 have HW := Lib.hid hw
 clear hw
 obtain ⟨rs,hP1,hE1⟩ := hA.post
 obtain ⟨qs,hP2,hE2⟩ := hB.post
 obtain ⟨⟨a0,n0,c0⟩,⟨a1,n1,c1⟩,⟨a2,n2,c2⟩,⟨a3,n3,c3⟩,⟨a4,n4,c4⟩,nx⟩ := h
 obtain ⟨⟨b0,m0,d0⟩,⟨b1,m1,d1⟩,⟨b2,m2,d2⟩,⟨b3,m3,d3⟩,⟨b4,m4,d4⟩,my⟩ := k
 obtain rfl : n0 = m0 := hA.tab.len.trans hB.tab.len.symm
 obtain rfl : n1 = m1 := hA.ser.len.trans hB.ser.len.symm
 obtain rfl : n2 = m2 := (hP1.len.trans (hE1.len.trans hE2.len.symm)).trans hP2.len.symm
 obtain rfl : n3 = m3 := hA.book.len.trans hB.book.len.symm
 obtain rfl : n4 = m4 := hA.sess.len.trans hB.sess.len.symm
 obtain rfl : nx = my := hA.next.trans hB.next.symm
 have HT := Lib.hid (And.intro hA.tab hB.tab)
 have HS := Lib.hid (And.intro hA.ser hB.ser)
 have HP := Lib.hid (And.intro (And.intro hP1 hP2) (And.intro hE1 hE2))
 have HK := Lib.hid (And.intro hA.book hB.book)
 have HN := Lib.hid (And.intro hA.sess hB.sess)
 clear hA hB hP1 hP2 hE1 hE2
 obtain ⟨h,hh⟩ : ∃ h : Bl.Sv,h = ⟨⟨a0,n0,c0⟩,⟨a1,n1,c1⟩,⟨a2,n2,c2⟩,⟨a3,n3,c3⟩,⟨a4,n4,c4⟩,nx⟩ := ⟨_,rfl⟩
 obtain ⟨k,hk⟩ : ∃ k : Bl.Sv,k = ⟨⟨b0,n0,d0⟩,⟨b1,n1,d1⟩,⟨b2,n2,d2⟩,⟨b3,n3,d3⟩,⟨b4,n4,d4⟩,nx⟩ := ⟨_,rfl⟩
 have hb1 := Bl.below_own w h
 have hb2 := Bl.below_own (Bl.box w h) k
 have h1 := (Bl.at_box w h).below hb2
 have h2 := Bl.at_box (Bl.box w h) k
 rw [Bl.box_size] at h2
 have HBl := Lib.hid (bchain hb1 hb2)
 obtain ⟨U,hU⟩ : ∃ U,Bl.box (Bl.box w h) k = U := ⟨_,rfl⟩
 rw [hU] at h1 h2 HBl
 subst hh hk
 have H1 := Lib.hid h1
 have H2 := Lib.hid h2
 obtain ⟨x0,x1,x2,x3,x4,x5⟩ := h1.cells
 obtain ⟨y0,y1,y2,y3,y4,y5⟩ := h2.cells
 simp only at x0 x1 x2 x3 x4 x5 y0 y1 y2 y3 y4 y5
 unfold Bl.box Bl.sl at hU
 clear h1 h2 hb1 hb2
 have hq : (nx == nx) = true := beq_self_eq_true _
 unfold Bl.Sv.val Bl.sl
 go_enter Tryz.func10,Tryz.ntmps10
 go_wp2_with fail
 have HY : Hid (Below U.heap.size U U) := Lib.hid (Below.refl _ _)
 refine (same_rows s.tab a0 b0 n0 c0 d0 U _ HY.out (HT.out.1.below (bchain HBl.out HY.out)) (HT.out.2.below (bchain HBl.out HY.out))).mono ?_
 rintro e w1 ⟨rfl,z1⟩
 have HY0 := Lib.hid z1
 clear x0 x1 x2 x3 x4 x5 y0 y1 y2 y3 y4 y5 hU
 obtain ⟨x0,x1,x2,x3,x4,x5⟩ := (H1.out.below z1).cells
 obtain ⟨y0,y1,y2,y3,y4,y5⟩ := (H2.out.below z1).cells
 simp only at x0 x1 x2 x3 x4 x5 y0 y1 y2 y3 y4 y5
 clear z1
 go_wp2_with fail
 refine (Sr.same_rows s.ser a1 b1 n1 c1 d1 U _ HY0.out (HS.out.1.below (bchain HBl.out HY0.out)) (HS.out.2.below (bchain HBl.out HY0.out))).mono ?_
 rintro e w2 ⟨rfl,z2⟩
 have HY1 := Lib.hid z2
 clear x0 x1 x2 x3 x4 x5 y0 y1 y2 y3 y4 y5
 obtain ⟨x0,x1,x2,x3,x4,x5⟩ := (H1.out.below z2).cells
 obtain ⟨y0,y1,y2,y3,y4,y5⟩ := (H2.out.below z2).cells
 simp only at x0 x1 x2 x3 x4 x5 y0 y1 y2 y3 y4 y5
 clear z2
 go_wp2_with fail
 refine (keep_posted s.post rs qs a2 b2 n2 c2 d2 U _ HY1.out (HP.out.1.1.below (bchain HBl.out HY1.out)) (HP.out.1.2.below (bchain HBl.out HY1.out)) (HP.out.2.1.below (bchain HBl.out HY1.out)) (HP.out.2.2.below (bchain HBl.out HY1.out))).mono ?_
 rintro e w3 ⟨rfl,z3⟩
 have HY2 := Lib.hid z3
 clear x0 x1 x2 x3 x4 x5 y0 y1 y2 y3 y4 y5
 obtain ⟨x0,x1,x2,x3,x4,x5⟩ := (H1.out.below z3).cells
 obtain ⟨y0,y1,y2,y3,y4,y5⟩ := (H2.out.below z3).cells
 simp only at x0 x1 x2 x3 x4 x5 y0 y1 y2 y3 y4 y5
 clear z3
 go_wp2_with fail
 refine (Ba.same_rows s.book a3 b3 n3 c3 d3 U _ HY2.out (HK.out.1.below (bchain HBl.out HY2.out)) (HK.out.2.below (bchain HBl.out HY2.out))).mono ?_
 rintro e w4 ⟨rfl,z4⟩
 have HY3 := Lib.hid z4
 clear x0 x1 x2 x3 x4 x5 y0 y1 y2 y3 y4 y5
 obtain ⟨x0,x1,x2,x3,x4,x5⟩ := (H1.out.below z4).cells
 obtain ⟨y0,y1,y2,y3,y4,y5⟩ := (H2.out.below z4).cells
 simp only at x0 x1 x2 x3 x4 x5 y0 y1 y2 y3 y4 y5
 clear z4
 go_wp2_with fail
 refine (Sn.same_rows s.sess a4 b4 n4 c4 d4 U _ HY3.out (HN.out.1.below (bchain HBl.out HY3.out)) (HN.out.2.below (bchain HBl.out HY3.out))).mono ?_
 rintro e w5 ⟨rfl,z5⟩
 have HZ := Lib.hid z5
 clear x0 x1 x2 x3 x4 x5 y0 y1 y2 y3 y4 y5
 obtain ⟨x0,x1,x2,x3,x4,x5⟩ := (H1.out.below z5).cells
 obtain ⟨y0,y1,y2,y3,y4,y5⟩ := (H2.out.below z5).cells
 simp only at x0 x1 x2 x3 x4 x5 y0 y1 y2 y3 y4 y5
 clear z5
 go_wp2_with fail
 go_ret
 exact ⟨rfl,bchain HW.out (bchain HBl.out HZ.out)⟩
end Go.Proofs.YtillcleccjgocaaGreat
namespace Go.Proofs.YtillcleccjgocaaGreat
open Go.ChangeShapes Go.WideShapes Go.ChangeAt Go.RowKit
theorem own : ownKnob Tryz.prog.godebug = none := by kernel_rfl
end Go.Proofs.YtillcleccjgocaaGreat
namespace Go.Proofs.YtillcleccjgocaaGreat.Ba
open Go.RowKit
open Mem
def rv (r : T) : List Value := [.string r.acct,.int .i64 r.amt]
theorem rv_len (r : T) : (rv r).length = 2 := rfl
theorem flat_len : ∀ rs : List T,(rs.flatMap rv).length = rs.length * 2
 | [] => rfl
 | r :: l => by
  rw [List.flatMap_cons,List.length_append,rv_len,flat_len l,List.length_cons]
  omega
theorem flat_at : ∀ (rs : List T) (k p : Nat) (hk : k < rs.length),p < 2 → (rs.flatMap rv)[k * 2 + p]? = (rv rs[k])[p]?
 | r :: l,0,p,_,hp => by
  rw [List.flatMap_cons,List.getElem?_append_left (by rw [rv_len]; omega),Nat.zero_mul,Nat.zero_add]
  rfl
 | r :: l,k + 1,p,hk,hp => by
  rw [List.flatMap_cons,List.getElem?_append_right (by rw [rv_len]; omega),rv_len,show (k + 1) * 2 + p - 2 = k * 2 + p by omega]
  exact flat_at l k p (by simpa using hk) hp
theorem one_cell (rs : List T) : ∀ v ∈ rs.flatMap rv,v.oneCell' = true := by
 intro v hv
 obtain ⟨r,_,h⟩ := List.mem_flatMap.1 hv
 unfold rv at h
 simp only [List.mem_cons,List.not_mem_nil,or_false] at h
 rcases h with rfl | rfl <;> rfl
theorem news_of {w : World} {b off : Nat} {rs : List T} (h : ∀ (k : Nat) (hk : k < rs.length),At w b (off + k * 2) rs[k]) (j : Nat) (u : Value) (hu : (rs.flatMap rv)[j]? = some u) : w.cell? ((⟨b,off,none⟩ : Addr).add j) = some u := by
 have hj : j < (rs.flatMap rv).length := by
  obtain ⟨hj,_⟩ := List.getElem?_eq_some_iff.1 hu
  exact hj
 rw [flat_len] at hj
 obtain ⟨k,p,rfl,hp⟩ : ∃ k p,j = k * 2 + p ∧ p < 2 := ⟨j / 2,j % 2,by omega,by omega⟩
 have hk : k < rs.length := by omega
 rw [flat_at rs k p hk hp] at hu
 have ha : (⟨b,off,none⟩ : Addr).add (k * 2 + p) = ⟨b,off + k * 2 + p,none⟩ := by
  unfold Addr.add
  split
  ·
   rename_i e
   simp only [Addr.mk.injEq,true_and,and_true]
   omega
  ·
   simp only [Addr.mk.injEq,true_and,and_true]
   omega
 rw [ha]
 obtain ⟨c0,c1⟩ := h k hk
 have hp' : p = 0 ∨ p = 1 := by omega
 unfold rv at hu
 rcases hp' with rfl | rfl
 all_goals simp at hu
 all_goals subst hu
 · exact c0
 · exact c1
def Own (w : World) (B : Nat) (v : Value) (xs : List T) : Prop := w.ownsRow B 70 2 v xs.length (xs.flatMap rv)
theorem own_nil (w : World) (B : Nat) : Own w B (.slice none 0 0) [] := ⟨rfl,.inl ⟨rfl,rfl⟩⟩
theorem own_ls {w : World} {B : Nat} {v : Value} {xs : List T} (h : Own w B v xs) (hs : ∀ r ∈ xs,Short r) : ∃ ao cap,v = .slice ao xs.length cap ∧ Ls w ao xs.length cap xs ∧ (∀ ad,ao = some ad → ∃ g,ad = ⟨g,0,none⟩ ∧ B ≤ g) := by
 rcases h.2 with ⟨h',h2⟩ | ⟨g,cap,cur,h',hb,hg,hnc,hcm,hcs,htake⟩
 ·
  have e : xs = [] := List.length_eq_zero_iff.1 h2
  subst e
  exact ⟨none,0,h',⟨rfl,Nat.le_refl _,by omega,fun _ => rfl,.inl rfl,hs⟩,fun ad k => by cases k⟩
 ·
  refine ⟨some ⟨g,0,none⟩,cap,h',⟨rfl,hnc,hcm,fun k => (by cases k),.inr ⟨g,0,rfl,fun k hk => ?_⟩,hs⟩,fun ad k => by cases k; exact ⟨g,rfl,hb⟩⟩
  have hcell : ∀ p,p < 2 → w.cell? ⟨g,0 + k * 2 + p,none⟩ = (rv xs[k])[p]? := by
   intro p hp
   rw [Nat.zero_add,cell_of_row w g _ _ _ _ hg,← flat_at xs k p hk hp,← htake,List.getElem?_take_of_lt (by omega)]
   simp
  exact ⟨hcell 0 (by omega),hcell 1 (by omega)⟩
def zero : T := ⟨.empty,0⟩
def zeroV : Value := .agg #[.string .empty,.int .i64 0]
theorem info : (Tryz.prog.info? 70).map (fun i => (i.zero,i.size,i.bytes)) = some (some zeroV,2,24) := by kernel_rfl
theorem wp_append {o : Oper} {a : Act} {K : Act → World → Prop} {Q : Exit → Act → World → Prop} (w : World) (s x : Operand)
  (ho : o.op = .call { callee := .builtin .append,args := #[s,x],argTypes := #[27,27] })
  (B : Nat) (v : Value) (xs : List T) (hs : a.eval s = v) (hown : Own w B v xs)
  (ao : Option Addr) (n cap : Nat) (zs : List T) (hx : a.eval x = .slice ao n cap) (hn : n = zs.length) (hnil : ao = none → cap = 0) (hsrc : Seg w ao zs) (hl : (xs.length + n) * 24 ≤ 140737488355328) (hb : B ≤ w.heap.size)
  (h : ∀ v' w1,Own w1 B v' (xs ++ zs) → w.grownBy w1 v.ownBlock → (v'.ownBlock = v.ownBlock ∨ v'.ownBlock = some w.heap.size) → K (a.put o.dst v') w1) : o.wp Tryz.prog a w K Q := by
 have hzs : zeroV.cells.size = 2 := rfl
 obtain ⟨i0,hi,hz0,hz1,hz2⟩ := info_parts info
 have hmx : maxLen = 9223372036854775807 := rfl
 have empty : zs = [] → n = 0 → Own w B v (xs ++ zs) := by
  intro e _
  rw [e,List.append_nil]
  exact hown
 cases ao with
 | none =>
  obtain rfl : cap = 0 := hnil rfl
  rcases hsrc with e | ⟨b,off,e,_⟩
  ·
   obtain rfl : n = 0 := by rw [hn,e]; rfl
   have hrun := run_append_owned_none (P := Tryz.prog) (w := w) B 27 o.type 70 i0 2 Tryz.underlying27 hi v _ _ hown
   unfold Oper.wp
   simp [execOp,ho,resolve,invoke,builtin,hs,hx,hrun,Result.andThen]
   exact h v w (empty e rfl) ⟨rfl,rfl,rfl,Nat.le_refl _,fun _ _ _ => rfl⟩ (.inl rfl)
  · cases e
 | some ad =>
  obtain ⟨v',w',hr,h2,h3,_,h5⟩ := run_append_own_at (P := Tryz.prog) w B 27 o.type 70 i0 zeroV 2 24 Tryz.underlying27 hi hz0 hz1 hz2 hzs (by omega) v xs.length (xs.flatMap rv) hown ad n cap (zs.flatMap rv) (by rw [flat_len,hn]) (by
   rcases hsrc with e | ⟨b,off,e,hc⟩
   ·
    rw [e]
    intro j u hu
    simp at hu
   ·
    cases e
    exact fun j u hu => news_of hc j u hu) (one_cell zs) (by omega) hl hb
  unfold Oper.wp execOp
  simp only [ho,resolve,invoke,builtin,Sem.run_bind,Sem.run_pure,Result.andThen_ok,List.map_toArray,List.map_cons,List.map_nil,hs,hx,hr]
  refine h v' w' ?_ h3 h5
  unfold Own
  rw [List.flatMap_append,List.length_append,← hn]
  exact h2
theorem wpList_append {ops : Array Oper} {rest : List Oper} {o : Oper} {a : Act} {Q : Exit → Act → World → Prop} (w : World) (hgd : o.guard = none) (s x : Operand)
  (ho : o.op = .call { callee := .builtin .append,args := #[s,x],argTypes := #[27,27] })
  (B : Nat) (v : Value) (xs : List T) (hs : a.eval s = v) (hown : Own w B v xs)
  (ao : Option Addr) (n cap : Nat) (zs : List T) (hx : a.eval x = .slice ao n cap) (hn : n = zs.length) (hnil : ao = none → cap = 0) (hsrc : Seg w ao zs) (hl : (xs.length + n) * 24 ≤ 140737488355328) (hb : B ≤ w.heap.size)
  (h : ∀ v' w1,Own w1 B v' (xs ++ zs) → w.grownBy w1 v.ownBlock → (v'.ownBlock = v.ownBlock ∨ v'.ownBlock = some w.heap.size) → wpList Tryz.prog ops Q rest (a.put o.dst v') w1) : wpList Tryz.prog ops Q (o :: rest) a w :=
 wpList_plain hgd fun _ hK => wp_append w s x ho B v xs hs hown ao n cap zs hx hn hnil hsrc hl hb fun v' w1 h1 h2 h3 => hK _ _ (h v' w1 h1 h2 h3)
theorem own_ge {w : World} {B : Nat} {v : Value} {xs : List T} (h : Own w B v xs) : ∀ k,v.ownBlock = some k → B ≤ k := by
 intro k hk
 rcases h.2 with ⟨h',_⟩ | ⟨g,cap,cur,h',hb,_⟩
 ·
  rw [h'] at hk
  cases hk
 ·
  rw [h'] at hk
  simp only [Value.ownBlock,Option.some.injEq] at hk
  omega
theorem own_mono {w : World} {B C : Nat} {v : Value} {xs : List T} (h : Own w B v xs) (hc : C ≤ B) : Own w C v xs := by
 obtain ⟨h1,h2⟩ := h
 refine ⟨h1,?_⟩
 rcases h2 with h2 | ⟨g,cap,cur,h',hb,h3⟩
 · exact .inl h2
 · exact .inr ⟨g,cap,cur,h',by omega,h3⟩
theorem own_alloc {w : World} {B : Nat} {v : Value} {xs : List T} (h : Own w B v xs) (o : Obj) : Own (w.alloc o) B v xs := World.ownsRow.alloc h o
theorem own_below {w u : World} {B : Nat} {v : Value} {xs : List T} (h : Own w B v xs) (k : Below w.heap.size w u) : Own u B v xs := by
 obtain ⟨h1,h2⟩ := h
 refine ⟨h1,?_⟩
 rcases h2 with h2 | ⟨g,cap,cur,h',hb,hg,h3⟩
 · exact .inl h2
 ·
  refine .inr ⟨g,cap,cur,h',hb,?_,h3⟩
  have hl : g < w.heap.size := by
   obtain ⟨hl,_⟩ := Array.getElem?_eq_some_iff.1 hg
   exact hl
  rw [k.block g hl]
  exact hg
def block (r : T) : Obj := .cells #[.string r.acct,.int .i64 r.amt] 70 (0,0)
theorem seg_block {X : World} {g : Nat} {r : T} (h : X.heap[g]? = some (block r)) : Seg X (some ⟨g,0,none⟩) [r] := by
 refine .inr ⟨g,0,rfl,fun k hk => ?_⟩
 obtain rfl : k = 0 := by simpa using hk
 unfold block at h
 refine ⟨?_,?_⟩
 all_goals rw [cell_of_row X g _ _ _ _ h]
 all_goals rfl
end Go.Proofs.YtillcleccjgocaaGreat.Ba
namespace Go.Proofs.YtillcleccjgocaaGreat
open Go.RowKit
open Vt (Rt)
def rv (r : Rt) : List Value := [.string r.cat,.int .i64 r.y,.int .i64 r.m,.int .i64 r.d,.int .i64 r.bp]
theorem rv_len (r : Rt) : (rv r).length = 5 := rfl
theorem flat_len : ∀ rs : List Rt,(rs.flatMap rv).length = rs.length * 5
 | [] => rfl
 | r :: l => by
  rw [List.flatMap_cons,List.length_append,rv_len,flat_len l,List.length_cons]
  omega
theorem flat_at : ∀ (rs : List Rt) (k p : Nat) (hk : k < rs.length),p < 5 → (rs.flatMap rv)[k * 5 + p]? = (rv rs[k])[p]?
 | r :: l,0,p,_,hp => by
  rw [List.flatMap_cons,List.getElem?_append_left (by rw [rv_len]; omega),Nat.zero_mul,Nat.zero_add]
  rfl
 | r :: l,k + 1,p,hk,hp => by
  rw [List.flatMap_cons,List.getElem?_append_right (by rw [rv_len]; omega),rv_len,show (k + 1) * 5 + p - 5 = k * 5 + p by omega]
  exact flat_at l k p (by simpa using hk) hp
theorem oneR (rs : List Rt) : ∀ v ∈ rs.flatMap rv,v.oneCell' = true := by
 intro v hv
 obtain ⟨r,_,h⟩ := List.mem_flatMap.1 hv
 unfold rv at h
 simp only [List.mem_cons,List.not_mem_nil,or_false] at h
 rcases h with rfl | rfl | rfl | rfl | rfl <;> rfl
theorem news_of {w : World} {b off : Nat} {rs : List Rt} (h : ∀ (k : Nat) (hk : k < rs.length),RowAt w b (off + k * 5) rs[k]) (j : Nat) (u : Value) (hu : (rs.flatMap rv)[j]? = some u) : w.cell? ((⟨b,off,none⟩ : Addr).add j) = some u := by
 have hj : j < (rs.flatMap rv).length := by
  obtain ⟨hj,_⟩ := List.getElem?_eq_some_iff.1 hu
  exact hj
 rw [flat_len] at hj
 obtain ⟨k,p,rfl,hp⟩ : ∃ k p,j = k * 5 + p ∧ p < 5 := ⟨j / 5,j % 5,by omega,by omega⟩
 have hk : k < rs.length := by omega
 rw [flat_at rs k p hk hp] at hu
 have ha : (⟨b,off,none⟩ : Addr).add (k * 5 + p) = ⟨b,off + k * 5 + p,none⟩ := by
  unfold Addr.add
  split
  ·
   rename_i e
   simp only [Addr.mk.injEq,true_and,and_true]
   omega
  ·
   simp only [Addr.mk.injEq,true_and,and_true]
   omega
 rw [ha]
 obtain ⟨c0,c1,c2,c3,c4⟩ := h k hk
 have hp' : p = 0 ∨ p = 1 ∨ p = 2 ∨ p = 3 ∨ p = 4 := by omega
 unfold rv at hu
 rcases hp' with rfl | rfl | rfl | rfl | rfl
 all_goals simp at hu
 all_goals subst hu
 · exact c0
 · exact c1
 · exact c2
 · exact c3
 · exact c4
def OwnR (w : World) (B : Nat) (v : Value) (xs : List Rt) : Prop := w.ownsRow B 63 5 v xs.length (xs.flatMap rv)
theorem own_rts {w : World} {B : Nat} {v : Value} {xs : List Rt} (h : OwnR w B v xs) (hs : ∀ r ∈ xs,Short r) : ∃ ao cap,v = .slice ao xs.length cap ∧ Rts w ao xs.length cap xs ∧ (∀ ad,ao = some ad → ∃ g,ad = ⟨g,0,none⟩ ∧ B ≤ g) := by
 rcases h.2 with ⟨h',h2⟩ | ⟨g,cap,cur,h',hb,hg,hnc,hcm,hcs,htake⟩
 ·
  have e : xs = [] := List.length_eq_zero_iff.1 h2
  subst e
  exact ⟨none,0,h',⟨rfl,Nat.le_refl _,by omega,fun _ => rfl,.inl rfl,hs⟩,fun ad k => by cases k⟩
 ·
  refine ⟨some ⟨g,0,none⟩,cap,h',⟨rfl,hnc,hcm,fun k => (by cases k),.inr ⟨g,0,rfl,fun k hk => ?_⟩,hs⟩,fun ad k => by cases k; exact ⟨g,rfl,hb⟩⟩
  have hcell : ∀ p,p < 5 → w.cell? ⟨g,0 + k * 5 + p,none⟩ = (rv xs[k])[p]? := by
   intro p hp
   rw [Nat.zero_add,cell_of_row w g _ _ _ _ hg,← flat_at xs k p hk hp,← htake,List.getElem?_take_of_lt (by omega)]
   simp
  exact ⟨hcell 0 (by omega),hcell 1 (by omega),hcell 2 (by omega),hcell 3 (by omega),hcell 4 (by omega)⟩
theorem infoR : ∃ z,(Tryz.prog.info? 63).map (fun i => (i.zero,i.size,i.bytes)) = some (some z,5,48) ∧ z.cells.size = 5 := ⟨.agg #[.string .empty,.int .i64 0,.int .i64 0,.int .i64 0,.int .i64 0],by kernel_rfl,rfl⟩
theorem wp_append_rows {o : Oper} {a : Act} {K : Act → World → Prop} {Q : Exit → Act → World → Prop} (w : World) (s x : Operand)
  (ho : o.op = .call { callee := .builtin .append,args := #[s,x],argTypes := #[24,24] })
  (B : Nat) (v : Value) (xs : List Rt) (hs : a.eval s = v) (hown : OwnR w B v xs)
  (ao : Option Addr) (n cap : Nat) (zs : List Rt) (hx : a.eval x = .slice ao n cap) (hn : n = zs.length) (hnil : ao = none → cap = 0) (hsrc : SegR w ao zs) (hl : (xs.length + n) * 48 ≤ 140737488355328) (hb : B ≤ w.heap.size)
  (h : ∀ v' w1,OwnR w1 B v' (xs ++ zs) → w.grownBy w1 v.ownBlock → (v'.ownBlock = v.ownBlock ∨ v'.ownBlock = some w.heap.size) → K (a.put o.dst v') w1) : o.wp Tryz.prog a w K Q := by
 obtain ⟨z,hinf,hzs⟩ := infoR
 obtain ⟨i0,hi,hz0,hz1,hz2⟩ := info_parts hinf
 have hmx : maxLen = 9223372036854775807 := rfl
 have empty : zs = [] → n = 0 → OwnR w B v (xs ++ zs) := by
  intro e _
  rw [e,List.append_nil]
  exact hown
 cases ao with
 | none =>
  obtain rfl : cap = 0 := hnil rfl
  rcases hsrc with e | ⟨b,off,e,_⟩
  ·
   obtain rfl : n = 0 := by rw [hn,e]; rfl
   have hrun := run_append_owned_none (P := Tryz.prog) (w := w) B 24 o.type 63 i0 5 Tryz.underlying24 hi v _ _ hown
   unfold Oper.wp
   simp [execOp,ho,resolve,invoke,builtin,hs,hx,hrun,Result.andThen]
   exact h v w (empty e rfl) ⟨rfl,rfl,rfl,Nat.le_refl _,fun _ _ _ => rfl⟩ (.inl rfl)
  · cases e
 | some ad =>
  obtain ⟨v',w',hr,h2,h3,_,h5⟩ := run_append_own_at (P := Tryz.prog) w B 24 o.type 63 i0 z 5 48 Tryz.underlying24 hi hz0 hz1 hz2 hzs (by omega) v xs.length (xs.flatMap rv) hown ad n cap (zs.flatMap rv) (by rw [flat_len,hn]) (by
   rcases hsrc with e | ⟨b,off,e,hc⟩
   ·
    rw [e]
    intro j u hu
    simp at hu
   ·
    cases e
    exact fun j u hu => news_of hc j u hu) (oneR zs) (by omega) hl hb
  unfold Oper.wp execOp
  simp only [ho,resolve,invoke,builtin,Sem.run_bind,Sem.run_pure,Result.andThen_ok,List.map_toArray,List.map_cons,List.map_nil,hs,hx,hr]
  refine h v' w' ?_ h3 h5
  unfold OwnR
  rw [List.flatMap_append,List.length_append,← hn]
  exact h2
theorem wpList_append_rows {ops : Array Oper} {rest : List Oper} {o : Oper} {a : Act} {Q : Exit → Act → World → Prop} (w : World) (hgd : o.guard = none) (s x : Operand)
  (ho : o.op = .call { callee := .builtin .append,args := #[s,x],argTypes := #[24,24] })
  (B : Nat) (v : Value) (xs : List Rt) (hs : a.eval s = v) (hown : OwnR w B v xs)
  (ao : Option Addr) (n cap : Nat) (zs : List Rt) (hx : a.eval x = .slice ao n cap) (hn : n = zs.length) (hnil : ao = none → cap = 0) (hsrc : SegR w ao zs) (hl : (xs.length + n) * 48 ≤ 140737488355328) (hb : B ≤ w.heap.size)
  (h : ∀ v' w1,OwnR w1 B v' (xs ++ zs) → w.grownBy w1 v.ownBlock → (v'.ownBlock = v.ownBlock ∨ v'.ownBlock = some w.heap.size) → wpList Tryz.prog ops Q rest (a.put o.dst v') w1) : wpList Tryz.prog ops Q (o :: rest) a w :=
 wpList_plain hgd fun _ hK => wp_append_rows w s x ho B v xs hs hown ao n cap zs hx hn hnil hsrc hl hb fun v' w1 h1 h2 h3 => hK _ _ (h v' w1 h1 h2 h3)
theorem own_alloc {w : World} {B : Nat} {v : Value} {xs : List Rt} (h : OwnR w B v xs) (o : Obj) : OwnR (w.alloc o) B v xs := World.ownsRow.alloc h o
def rowBlock (r : Rt) : Obj := .cells #[.string r.cat,.int .i64 r.y,.int .i64 r.m,.int .i64 r.d,.int .i64 r.bp] 63 (0,0)
theorem seg_block {X : World} {g : Nat} {r : Rt} (h : X.heap[g]? = some (rowBlock r)) : SegR X (some ⟨g,0,none⟩) [r] := by
 refine .inr ⟨g,0,rfl,fun k hk => ?_⟩
 obtain rfl : k = 0 := by simpa using hk
 unfold rowBlock at h
 refine ⟨?_,?_,?_,?_,?_⟩
 all_goals rw [cell_of_row X g _ _ _ _ h]
 all_goals rfl
end Go.Proofs.YtillcleccjgocaaGreat
namespace Go.Proofs.YtillcleccjgocaaGreat.Ca
open Go.RowKit
open Mem
theorem evT {a : Act} {t : Tmp} {v : Value} (h : a.tmps.toList[t]? = some v) : a.eval (.tmp t) = v := by
 show a.tmps.getD t undef = v
 rw [Array.getElem?_toList] at h
 simp [Array.getD_eq_getD_getElem?,h]
theorem set_rowW (w : World) (old cs : Array Value) (t : TypeId) : (w.alloc (.cells old t)).setRow w.heap.size cs = w.alloc (.cells cs t) := by
 unfold World.setRow World.alloc
 simp only [World.mk.injEq,and_true]
 apply Array.ext_getElem?
 intro i
 rw [Array.getElem?_modify]
 by_cases hi : w.heap.size = i
 ·
  subst hi
  simp
 · rw [if_neg hi,Array.getElem?_push,Array.getElem?_push,if_neg (Ne.symm hi),if_neg (Ne.symm hi)]
end Go.Proofs.YtillcleccjgocaaGreat.Ca
namespace Go.Proofs.YtillcleccjgocaaGreat.Rp
open Go.RowKit
open Mem
structure At (u : World) (b o : Nat) (r : T) : Prop where
 c0 : u.cell? ⟨b,o,none⟩ = some (.int .i64 r.why)
 c1 : u.cell? ⟨b,o + 1,none⟩ = some (.int .i64 r.num)
 c2 : u.cell? ⟨b,o + 2,none⟩ = some (.int .i64 r.gross)
def Seg (w : World) (ao : Option Addr) (rs : List T) : Prop := rs = [] ∨ ∃ b off,ao = some ⟨b,off,none⟩ ∧ ∀ (k : Nat) (hk : k < rs.length),At w b (off + k * 3) rs[k]
structure Ls (w : World) (ao : Option Addr) (n cap : Nat) (rs : List T) : Prop where
 len : n = rs.length
 fits : n ≤ cap
 reach : cap ≤ 9223372036854775807
 nil : ao = none → cap = 0
 seg : Seg w ao rs
 short : ∀ r ∈ rs,Short r
end Go.Proofs.YtillcleccjgocaaGreat.Rp
namespace Go.Proofs.YtillcleccjgocaaGreat
open Go.RowKit
open Mem
structure Kp (A : Nat) (w v : World) : Prop where
 cell : ∀ b o,A ≤ b → b < w.heap.size → v.cell? ⟨b,o,none⟩ = w.cell? ⟨b,o,none⟩
 size : w.heap.size ≤ v.heap.size
theorem Kp.set {A g : Nat} (w : World) (hg : g < A) (o : Nat) (x : Value) : Kp A w (w.setCell ⟨g,o,none⟩ x) :=
 ⟨fun b o' ha _ => World.cell?_setCell_other _ _ _ _ (by intro k; simp only [Addr.mk.injEq] at k; omega),by simp⟩
def InA (A : Nat) (ao : Option Addr) (n : Nat) : Prop := 0 < n → ∀ b off,ao = some ⟨b,off,none⟩ → A ≤ b
theorem inA_nil (A : Nat) (ao : Option Addr) : InA A ao 0 := fun h => absurd h (Nat.lt_irrefl _)
theorem Pt.Ls.kp {A : Nat} {w v : World} {ao : Option Addr} {n cap : Nat} {rs : List Pt.T} (h : Pt.Ls w ao n cap rs) (hi : InA A ao n) (k : Kp A w v) : Pt.Ls v ao n cap rs := by
 refine ⟨h.len,h.fits,h.reach,h.nil,?_,h.short⟩
 rcases h.seg with e | ⟨b,off,e,hc⟩
 · exact .inl e
 ·
  refine .inr ⟨b,off,e,fun i hr => ?_⟩
  have hA := hi (by rw [h.len]; omega) b off e
  have hl := cell_lt (hc i hr).c0
  exact ⟨(k.cell b _ hA hl).trans (hc i hr).c0,(k.cell b _ hA hl).trans (hc i hr).c1,(k.cell b _ hA hl).trans (hc i hr).c2,(k.cell b _ hA hl).trans (hc i hr).c3⟩
namespace Bl
structure LiesA (A : Nat) (w : World) (h : Sv) (s : St) : Prop where
 tab : Rts w h.tab.ao h.tab.n h.tab.cap s.tab
 ser : Sr.Ls w h.ser.ao h.ser.n h.ser.cap s.ser
 post : ∃ rs,Pd.Ls w h.post.ao h.post.n h.post.cap rs ∧ Each w rs s.post ∧ ∀ r ∈ rs,InA A r.parts.ao r.parts.n
 book : Ba.Ls w h.book.ao h.book.n h.book.cap s.book
 sess : Sn.Ls w h.sess.ao h.sess.n h.sess.cap s.sess
 next : h.next = s.next
 fit : Fit s.next
 atab : InA A h.tab.ao h.tab.n
 aser : InA A h.ser.ao h.ser.n
 apost : InA A h.post.ao h.post.n
 abook : InA A h.book.ao h.book.n
 asess : InA A h.sess.ao h.sess.n
theorem LiesA.lies {A : Nat} {w : World} {h : Sv} {s : St} (l : LiesA A w h s) : Lies w h s := by
 obtain ⟨rs,h1,h2,_⟩ := l.post
 exact ⟨l.tab,l.ser,⟨rs,h1,h2⟩,l.book,l.sess,l.next,l.fit⟩
end Bl
end Go.Proofs.YtillcleccjgocaaGreat
namespace Go.Proofs.YtillcleccjgocaaGreat
open Go.RowKit
open Mem
namespace Bl
def NewE (w0 w : World) (e : Ending) (w' : World) : Prop := ∃ h : Sv,e = .returned h.val ∧ LiesA w.heap.size w' h new ∧ Below w0.heap.size w0 w'
theorem set_heap {u : World} {g : Nat} {cs : Array Value} {t : TypeId} (h : u.heap[g]? = some (.cells cs t (0,0))) (i : Nat) (x : Value) : (u.setCell ⟨g,i,none⟩ x).heap[g]? = some (.cells (cs.setIfInBounds i x) t (0,0)) := heap_setCell_same u g i _ _ x h
def rv (h : Sv) : List Value := [sl h.tab,sl h.ser,sl h.post,sl h.book,sl h.sess,.int .i64 h.next]
theorem info : (Tryz.prog.info? 30).map (·.size) = some 6 := by kernel_rfl
theorem wpl_load {ops : Array Oper} {rest : List Oper} {op : Oper} {a : Act} {w : World} {Q : Exit → Act → World → Prop} {t : Tmp} {g : Nat} {h : Sv} (hA : At w g h) (ho : op.op = .load 30 (.tmp t)) (hgd : op.guard = none)
  (hx : a.tmps.toList[t]? = some (.pointer (some ⟨g,0,none⟩))) (k : wpList Tryz.prog ops Q rest (a.put op.dst h.val) w) : wpList Tryz.prog ops Q (op :: rest) a w :=
 wpList_load_row hgd 30 (.tmp t) ho g (Ca.evT hx) 30 (rv h).toArray (0,0) _ hA Tryz.underlying30 rfl (by rw [info]; rfl) k
theorem one_cellS (h : Sv) : ∀ v ∈ rv h,v.oneCell' = true := by
 intro v hv
 unfold rv at hv
 simp only [List.mem_cons,List.not_mem_nil,or_false] at hv
 rcases hv with rfl | rfl | rfl | rfl | rfl | rfl <;> rfl
theorem wpl_store {ops : Array Oper} {rest : List Oper} {op : Oper} {a : Act} {w : World} {Q : Exit → Act → World → Prop} {t s : Tmp} {old : Array Value} {g : Nat} {h : Sv} (ho : op.op = .store 30 (.tmp t) (.tmp s)) (hgd : op.guard = none)
  (hx : a.tmps.toList[t]? = some (.pointer (some ⟨g,0,none⟩))) (hg : g = w.heap.size) (hy : a.tmps.toList[s]? = some h.val) (hold : old.size = 6)
  (k : wpList Tryz.prog ops Q rest (a.put op.dst undef) (box w h)) : wpList Tryz.prog ops Q (op :: rest) a (w.alloc (.cells old 30)) := by
 subst hg
 refine wpList_store_row hgd 30 (.tmp t) (.tmp s) ho w.heap.size (rv h).toArray (Ca.evT hx) (Ca.evT hy) 30 old (heap_alloc_new w _) (by rw [info]; rfl) (by rw [hold]; rfl) (all_oneCell_toArray (one_cellS h)) ?_
 rw [Ca.set_rowW]
 exact k
def lay (w : World) (g : Nat) (h : Sv) : World := w.setRow g (rv h).toArray
theorem wpl_put {ops : Array Oper} {rest : List Oper} {op : Oper} {a : Act} {w : World} {Q : Exit → Act → World → Prop} {t s : Tmp} {g : Nat} {h0 h : Sv} (hA : At w g h0) (ho : op.op = .store 30 (.tmp t) (.tmp s)) (hgd : op.guard = none)
  (hx : a.tmps.toList[t]? = some (.pointer (some ⟨g,0,none⟩))) (hy : a.tmps.toList[s]? = some h.val)
  (k : wpList Tryz.prog ops Q rest (a.put op.dst undef) (lay w g h)) : wpList Tryz.prog ops Q (op :: rest) a w :=
 wpList_store_row hgd 30 (.tmp t) (.tmp s) ho g (rv h).toArray (Ca.evT hx) (Ca.evT hy) 30 (rv h0).toArray hA (by rw [info]; rfl) rfl (all_oneCell_toArray (one_cellS h)) k
theorem At.lay {w : World} {g : Nat} {h0 : Sv} (hA : At w g h0) (h : Sv) : At (lay w g h) g h := setRow_heap w g _ _ 30 _ hA
theorem below_lay {B g : Nat} {w0 w : World} (hb : Below B w0 w) (hg : B ≤ g) (h : Sv) : Below B w0 (lay w g h) := below_setRow hb hg _
end Bl
end Go.Proofs.YtillcleccjgocaaGreat
