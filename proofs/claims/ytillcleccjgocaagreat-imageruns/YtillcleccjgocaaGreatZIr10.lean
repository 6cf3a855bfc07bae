import Derived.Deep.RegionHeld3
import Derived.Maps.AppendAt
import Derived.Laws.AppendOwnNone
import Derived.Laws.Rows
import Derived.Laws.CopyOwn
import Derived.Laws.MakeOwn
import Derived.RegionTactic
import Derived.Test.YtillcleccjgocaaGreatZIr1
import Derived.Test.YtillcleccjgocaaGreatZIr2
import Derived.Test.YtillcleccjgocaaGreatZIr3
import Derived.Test.YtillcleccjgocaaGreatZIr4
import Derived.Test.YtillcleccjgocaaGreatZIr5
import Derived.Test.YtillcleccjgocaaGreatZIr6
import Derived.Test.YtillcleccjgocaaGreatZIr7
import Derived.Test.YtillcleccjgocaaGreatZIr8
import Derived.Test.YtillcleccjgocaaGreatZIr9
set_option maxRecDepth 100000
set_option linter.unusedVariables false
namespace Go.Proofs.YtillcleccjgocaaGreat
open Go.RowKit
open Mem Pk Cm
open Go.Sort (grow)
structure Iw (w0 w : World) (bs : List UInt8) (ao : Option Addr) (n cap : Nat) : Prop where
 bel : Below w0.heap.size w0 w
 box : w.heap[w0.heap.size]? = some (.cells #[.slice ao n cap] 51 (0,0))
 own : By.Own w (w0.heap.size + 1) (.slice ao n cap) bs
def IwE (w0 w : World) (bs : List UInt8) : Prop := ∃ ao n cap,Iw w0 w bs ao n cap
section
variable {w0 w v : World} {bs : List UInt8} {ao : Option Addr} {n cap : Nat}
theorem Iw.lt (h : Iw w0 w bs ao n cap) : w0.heap.size < w.heap.size := (Array.getElem?_eq_some_iff.1 h.box).1
theorem Iw.below (h : Iw w0 w bs ao n cap) (k : Below w.heap.size w v) : Iw w0 v bs ao n cap := ⟨bchain h.bel k,(k.block _ h.lt).trans h.box,By.own_below h.own k⟩
theorem Iw.cell (h : Iw w0 w bs ao n cap) : w.cell? ⟨w0.heap.size,0,none⟩ = some (.slice ao n cap) := by
 rw [cell_of_row w _ 0 _ _ _ h.box]
 rfl
theorem Iw.frozen (h : Iw w0 w bs ao n cap) (o : Nat) : w.frozen? ⟨w0.heap.size,o,none⟩ = false := frozen_of_row w _ o _ _ h.box
theorem Iw.put (h : Iw w0 w bs ao n cap) {bs' : List UInt8} {u : World} {ao' : Option Addr} {n' cap' : Nat} (o : By.Own u (w0.heap.size + 1) (.slice ao' n' cap') bs') (gr : w.grownBy u (Value.slice ao n cap).ownBlock) : Iw w0 (u.setCell ⟨w0.heap.size,0,none⟩ (.slice ao' n' cap')) bs' ao' n' cap' := by
 have hge := By.own_ge h.own
 have hb : Below w0.heap.size w0 u := h.bel.grown gr h.bel.size (fun k e => by have := hge k e; omega)
 have hx : u.heap[w0.heap.size]? = some (.cells #[.slice ao n cap] 51 (0,0)) := (gr.block _ h.lt (fun e => by have := hge _ e.symm; omega)).trans h.box
 refine ⟨bset hb (Nat.le_refl _) _ _,(heap_setCell_same u _ 0 _ _ _ hx).trans rfl,?_⟩
 obtain ⟨h1,h2⟩ := o
 refine ⟨h1,?_⟩
 rcases h2 with h2 | ⟨g,c,cur,h',hg,hq,h3⟩
 · exact .inl h2
 · exact .inr ⟨g,c,cur,h',hg,by rw [heap_setCell_other u ⟨w0.heap.size,0,none⟩ g _ (by show g ≠ w0.heap.size; omega)]; exact hq,h3⟩
end
def Ap (w0 w : World) (b : Nat) : Prop := b < w.heap.size ∧ b ≠ w0.heap.size ∧ ∀ ao n cap,w.heap[w0.heap.size]? = some (.cells #[.slice ao n cap] 51 (0,0)) → (Value.slice ao n cap).ownBlock ≠ some b
def IwF (w0 w w' : World) : Prop := ∀ b,Ap w0 w b → Ap w0 w' b ∧ w'.heap[b]? = w.heap[b]?
theorem IwF.trans {w0 u v w : World} (h : IwF w0 u v) (k : IwF w0 v w) : IwF w0 u w := fun b hb => ⟨(k b (h b hb).1).1,(k b (h b hb).1).2.trans (h b hb).2⟩
theorem IwF.of {w0 w v : World} {bs : List UInt8} {ao : Option Addr} {n cap : Nat} (k : Below w.heap.size w v) (h : Iw w0 w bs ao n cap) : IwF w0 w v := fun b hb => by
 have e := k.block b hb.1
 refine ⟨⟨Nat.lt_of_lt_of_le hb.1 k.size,hb.2.1,fun ao n cap q => hb.2.2 ao n cap ?_⟩,e⟩
 rw [← q]
 exact (k.block _ h.lt).symm
theorem Iw.frame {w0 w u : World} {bs bs' : List UInt8} {ao : Option Addr} {n cap : Nat} {ao' : Option Addr} {n' cap' : Nat} (h : Iw w0 w bs ao n cap) (gr : w.grownBy u (Value.slice ao n cap).ownBlock) (hat : (Value.slice ao' n' cap').ownBlock = (Value.slice ao n cap).ownBlock ∨ (Value.slice ao' n' cap').ownBlock = some w.heap.size) (hN : Iw w0 (u.setCell ⟨w0.heap.size,0,none⟩ (.slice ao' n' cap')) bs' ao' n' cap') : IwF w0 w (u.setCell ⟨w0.heap.size,0,none⟩ (.slice ao' n' cap')) := fun b hb => by
 have hne := hb.2.2 ao n cap h.box
 have e1 : u.heap[b]? = w.heap[b]? := gr.block b hb.1 (fun e => hne e.symm)
 have e2 : (u.setCell ⟨w0.heap.size,0,none⟩ (.slice ao' n' cap')).heap[b]? = u.heap[b]? := heap_setCell_other u ⟨w0.heap.size,0,none⟩ b _ hb.2.1
 refine ⟨⟨by rw [show (u.setCell ⟨w0.heap.size,0,none⟩ (.slice ao' n' cap')).heap.size = u.heap.size by simp]; exact Nat.lt_of_lt_of_le hb.1 gr.size,hb.2.1,fun a m c q => ?_⟩,e2.trans e1⟩
 rw [hN.box] at q
 cases q
 rcases hat with z | z
 ·
  rw [z]
  exact hne
 ·
  rw [z]
  intro e
  cases e
  exact Nat.lt_irrefl _ hb.1
theorem Iw.fresh {w0 w : World} {bs : List UInt8} {ao : Option Addr} {n cap : Nat} (h : Iw w0 w bs ao n cap) (o : Obj) : Ap w0 (w.alloc o) w.heap.size := by
 refine ⟨by simp,by have := h.lt; omega,fun a m c q e => ?_⟩
 have e1 : (w.alloc o).heap[w0.heap.size]? = w.heap[w0.heap.size]? := ((Below.refl _ _).alloc (Nat.le_refl _) o).block _ h.lt
 rw [e1,h.box] at q
 cases q
 exact Nat.lt_irrefl _ (World.ownsRow.lt h.own _ e).2
theorem By.own_slice {w : World} {B : Nat} {v : Value} {M : List UInt8} (h : By.Own w B v M) : ∃ ao n cap,v = .slice ao n cap := by
 rcases h.2 with ⟨h',_⟩ | ⟨g',cap',cur,h',_⟩
 · exact ⟨_,_,_,h'⟩
 · exact ⟨_,_,_,h'⟩
theorem By.wp_append {o : Oper} {a : Act} {K : Act → World → Prop} {Q : Exit → Act → World → Prop} (w : World) (s x : Operand)
  (ho : o.op = .call { callee := .builtin .append,args := #[s,x],argTypes := #[22,22] })
  (B : Nat) (v : Value) (xs : List UInt8) (hs : a.eval s = v) (hown : By.Own w B v xs)
  (ad : Addr) (n cap : Nat) (zs : List UInt8) (hx : a.eval x = .slice (some ad) n cap) (hn : n = zs.length) (hsrc : By.Seg w (some ad) zs) (hl : xs.length + n ≤ 140737488355328) (hb : B ≤ w.heap.size)
  (h : ∀ v' w1,By.Own w1 B v' (xs ++ zs) → w.grownBy w1 v.ownBlock → (v'.ownBlock = v.ownBlock ∨ v'.ownBlock = some w.heap.size) → K (a.put o.dst v') w1) : o.wp Tryz.prog a w K Q := by
 obtain ⟨i0,hi,hz0,hz1,hz2⟩ := info_parts By.info
 have hmx : maxLen = 9223372036854775807 := rfl
 obtain ⟨v',w',hr,h2,h3,_,h5⟩ := run_append_own_at (P := Tryz.prog) w B 22 o.type 5 i0 (.int .u8 0) 1 1 Tryz.underlying22 hi hz0 hz1 hz2 rfl (by omega) v xs.length (xs.map By.bv) hown ad n cap (zs.map By.bv) (by rw [List.length_map,hn,Nat.mul_one]) (by
  rcases hsrc with e | ⟨b,off,e,hc⟩
  ·
   rw [e]
   intro j u hu
   simp at hu
  ·
   cases e
   exact fun j u hu => By.news_of hc j u hu) (By.one_cell zs) (by omega) (by omega) hb
 unfold Oper.wp execOp
 simp only [ho,resolve,invoke,builtin,Sem.run_bind,Sem.run_pure,Result.andThen_ok,List.map_toArray,List.map_cons,List.map_nil,hs,hx,hr]
 refine h v' w' ?_ h3 h5
 unfold By.Own
 rw [List.map_append,List.length_append,← hn]
 exact h2
theorem step_bytes {ops : Array Oper} {o : Oper} {a : Act} {w : World} {K : Act → World → Prop} {Q : Exit → Act → World → Prop} {E : Prop} {x y : Tmp} {p : Nat} {v0 : Value} {ao : Option Addr} {n cap : Nat} (hgd : o.guard = none) (ho : o.op = .store 22 (.tmp x) (.tmp y)) (hd : o.dst = none) (hx : a.tmps.toList[x]? = some (.pointer (some ⟨p,0,none⟩))) (hy : a.tmps.toList[y]? = some (.slice ao n cap)) (hc : w.cell? ⟨p,0,none⟩ = some v0) (hf : w.frozen? ⟨p,0,none⟩ = false)
  (k : K a (w.setCell ⟨p,0,none⟩ (.slice ao n cap))) : if Region.wanted o (yielded ops a.tmps) = true then Oper.wp Tryz.prog o a w K Q else E := by
 have hw : Region.wanted o (yielded ops a.tmps) = true := by simp [Region.wanted,hgd]
 rw [if_pos hw]
 unfold Oper.wp
 simp only [execOp,ho,Ca.evT hx,Ca.evT hy]
 simp [go_sem,hc,hf,hd]
 exact k
set_option maxHeartbeats 1000000 in
theorem Iw.wp_put {id : Nat} {o0 o1 o2 o3 o4 o5 o6 o7 o8 o9 o10 : Oper} {a : Act} {w : World} {Q : Exit → Act → World → Prop} (p : Nat) (x : Value) (w0 : World) (bs zs : List UInt8) (ao : Option Addr) (n cap : Nat) {f : FuncId} {args : Array Value} {s7 x7 x10 y10 : Tmp}
  (hp : p = w0.heap.size) (hW : Iw w0 w bs ao n cap) (c : Region.noSelect #[o0,o1,o2,o3,o4,o5,o6,o7,o8,o9,o10] = true) (c0 : Bl.tk #[o0,o1,o2,o3,o4,o5,o6,o7,o8,o9,o10] [false,false,false,false,false,false,false,false,false,false,false] 0 = true) (d0 : (waitsG .any #[o0,o1,o2,o3,o4,o5,o6,o7,o8,o9,o10] 10 0 [10] && openG [false,false,false,false,false,false,false,false,false,false,false].toArray [10]) = true) (c1 : Bl.tk #[o0,o1,o2,o3,o4,o5,o6,o7,o8,o9,o10] [true,false,false,false,false,false,false,false,false,false,false] 1 = true) (d1 : (waitsG .any #[o0,o1,o2,o3,o4,o5,o6,o7,o8,o9,o10] 10 1 [10] && openG [true,false,false,false,false,false,false,false,false,false,false].toArray [10]) = true) (c2 : Bl.tk #[o0,o1,o2,o3,o4,o5,o6,o7,o8,o9,o10] [true,true,false,false,false,false,false,false,false,false,false] 2 = true) (d2 : (waitsG .any #[o0,o1,o2,o3,o4,o5,o6,o7,o8,o9,o10] 10 2 [10] && openG [true,true,false,false,false,false,false,false,false,false,false].toArray [10]) = true) (c3 : Bl.tk #[o0,o1,o2,o3,o4,o5,o6,o7,o8,o9,o10] [true,true,true,false,false,false,false,false,false,false,false] 3 = true) (d3 : (waitsG .any #[o0,o1,o2,o3,o4,o5,o6,o7,o8,o9,o10] 10 3 [10] && openG [true,true,true,false,false,false,false,false,false,false,false].toArray [10]) = true) (c4 : Bl.tk #[o0,o1,o2,o3,o4,o5,o6,o7,o8,o9,o10] [true,true,true,true,false,false,false,false,false,false,false] 4 = true) (d4 : (waitsG .any #[o0,o1,o2,o3,o4,o5,o6,o7,o8,o9,o10] 10 4 [10] && openG [true,true,true,true,false,false,false,false,false,false,false].toArray [10]) = true) (c5 : Bl.tk #[o0,o1,o2,o3,o4,o5,o6,o7,o8,o9,o10] [true,true,true,true,true,false,false,false,false,false,false] 5 = true) (d5 : (waitsG .any #[o0,o1,o2,o3,o4,o5,o6,o7,o8,o9,o10] 10 5 [10] && openG [true,true,true,true,true,false,false,false,false,false,false].toArray [10]) = true) (r6 : Region.ready .any #[o0,o1,o2,o3,o4,o5,o6,o7,o8,o9,o10] [true,true,true,true,true,true,false,false,false,false,false].toArray = [6]) (r7 : Region.ready .any #[o0,o1,o2,o3,o4,o5,o6,o7,o8,o9,o10] [true,true,true,true,true,true,true,false,false,false,false].toArray = [7]) (c8 : Bl.tk #[o0,o1,o2,o3,o4,o5,o6,o7,o8,o9,o10] [true,true,true,true,true,true,true,true,false,false,false] 8 = true) (d8 : (waitsG .any #[o0,o1,o2,o3,o4,o5,o6,o7,o8,o9,o10] 10 8 [10,9] && openG [true,true,true,true,true,true,true,true,false,false,false].toArray [10,9]) = true) (c9 : Bl.tk #[o0,o1,o2,o3,o4,o5,o6,o7,o8,o9,o10] [true,true,true,true,true,true,true,true,true,false,false] 9 = true) (d9 : (waitsG .any #[o0,o1,o2,o3,o4,o5,o6,o7,o8,o9,o10] 10 9 [10] && openG [true,true,true,true,true,true,true,true,true,false,false].toArray [10]) = true) (r10 : Region.ready .any #[o0,o1,o2,o3,o4,o5,o6,o7,o8,o9,o10] [true,true,true,true,true,true,true,true,true,true,false].toArray = [10]) (rE : Region.ready .any #[o0,o1,o2,o3,o4,o5,o6,o7,o8,o9,o10] [true,true,true,true,true,true,true,true,true,true,true].toArray = [])
  (y0 : YieldsIf Tryz.prog #[o0,o1,o2,o3,o4,o5,o6,o7,o8,o9,o10] (fun u => u.cell? ⟨p,0,none⟩ = some (.slice ao n cap)) o0 (.pointer (some ⟨p,0,none⟩)) a) (y1 : YieldsIf Tryz.prog #[o0,o1,o2,o3,o4,o5,o6,o7,o8,o9,o10] (fun u => u.cell? ⟨p,0,none⟩ = some (.slice ao n cap)) o1 (.pointer (some ⟨p,0,none⟩)) (a.put o0.dst (.pointer (some ⟨p,0,none⟩)))) (y2 : YieldsIf Tryz.prog #[o0,o1,o2,o3,o4,o5,o6,o7,o8,o9,o10] (fun u => u.cell? ⟨p,0,none⟩ = some (.slice ao n cap)) o2 (.pointer (some ⟨p,0,none⟩)) ((a.put o0.dst (.pointer (some ⟨p,0,none⟩))).put o1.dst (.pointer (some ⟨p,0,none⟩)))) (y3 : YieldsIf Tryz.prog #[o0,o1,o2,o3,o4,o5,o6,o7,o8,o9,o10] (fun u => u.cell? ⟨p,0,none⟩ = some (.slice ao n cap)) o3 (.pointer (some ⟨p,0,none⟩)) (((a.put o0.dst (.pointer (some ⟨p,0,none⟩))).put o1.dst (.pointer (some ⟨p,0,none⟩))).put o2.dst (.pointer (some ⟨p,0,none⟩)))) (y4 : YieldsIf Tryz.prog #[o0,o1,o2,o3,o4,o5,o6,o7,o8,o9,o10] (fun u => u.cell? ⟨p,0,none⟩ = some (.slice ao n cap)) o4 (.slice ao n cap) ((((a.put o0.dst (.pointer (some ⟨p,0,none⟩))).put o1.dst (.pointer (some ⟨p,0,none⟩))).put o2.dst (.pointer (some ⟨p,0,none⟩))).put o3.dst (.pointer (some ⟨p,0,none⟩)))) (y5 : YieldsIf Tryz.prog #[o0,o1,o2,o3,o4,o5,o6,o7,o8,o9,o10] (fun u => u.cell? ⟨p,0,none⟩ = some (.slice ao n cap)) o5 x (((((a.put o0.dst (.pointer (some ⟨p,0,none⟩))).put o1.dst (.pointer (some ⟨p,0,none⟩))).put o2.dst (.pointer (some ⟨p,0,none⟩))).put o3.dst (.pointer (some ⟨p,0,none⟩))).put o4.dst (.slice ao n cap))) (y8 : ∀ v v',YieldsIf Tryz.prog #[o0,o1,o2,o3,o4,o5,o6,o7,o8,o9,o10] (fun u => u.cell? ⟨p,0,none⟩ = some (.slice ao n cap)) o8 (.pointer (some ⟨p,0,none⟩)) ((((((((a.put o0.dst (.pointer (some ⟨p,0,none⟩))).put o1.dst (.pointer (some ⟨p,0,none⟩))).put o2.dst (.pointer (some ⟨p,0,none⟩))).put o3.dst (.pointer (some ⟨p,0,none⟩))).put o4.dst (.slice ao n cap)).put o5.dst x).put o6.dst v).put o7.dst v')) (y9 : ∀ v v',YieldsIf Tryz.prog #[o0,o1,o2,o3,o4,o5,o6,o7,o8,o9,o10] (fun u => u.cell? ⟨p,0,none⟩ = some (.slice ao n cap)) o9 (.pointer (some ⟨p,0,none⟩)) (((((((((a.put o0.dst (.pointer (some ⟨p,0,none⟩))).put o1.dst (.pointer (some ⟨p,0,none⟩))).put o2.dst (.pointer (some ⟨p,0,none⟩))).put o3.dst (.pointer (some ⟨p,0,none⟩))).put o4.dst (.slice ao n cap)).put o5.dst x).put o6.dst v).put o7.dst v').put o8.dst (.pointer (some ⟨p,0,none⟩))))
  (q0 : ∀ c a w,Q (.panic c) (Act.put a o0.dst (.pointer (some ⟨p,0,none⟩))) w → Q (.panic c) a w) (q1 : ∀ c a w,Q (.panic c) (Act.put a o1.dst (.pointer (some ⟨p,0,none⟩))) w → Q (.panic c) a w) (q2 : ∀ c a w,Q (.panic c) (Act.put a o2.dst (.pointer (some ⟨p,0,none⟩))) w → Q (.panic c) a w) (q3 : ∀ c a w,Q (.panic c) (Act.put a o3.dst (.pointer (some ⟨p,0,none⟩))) w → Q (.panic c) a w) (q4 : ∀ c a w,Q (.panic c) (Act.put a o4.dst (.slice ao n cap)) w → Q (.panic c) a w) (q5 : ∀ c a w,Q (.panic c) (Act.put a o5.dst x) w → Q (.panic c) a w) (q8 : ∀ c a w,Q (.panic c) (Act.put a o8.dst (.pointer (some ⟨p,0,none⟩))) w → Q (.panic c) a w) (q9 : ∀ c a w,Q (.panic c) (Act.put a o9.dst (.pointer (some ⟨p,0,none⟩))) w → Q (.panic c) a w) (hg6 : o6.guard = none) (hg7 : o7.guard = none) (hg10 : o10.guard = none) (hd10 : o10.dst = none)
  (h6 : ∀ u,(execOp ((((((a.put o0.dst (.pointer (some ⟨p,0,none⟩))).put o1.dst (.pointer (some ⟨p,0,none⟩))).put o2.dst (.pointer (some ⟨p,0,none⟩))).put o3.dst (.pointer (some ⟨p,0,none⟩))).put o4.dst (.slice ao n cap)).put o5.dst x).eval o6).run Tryz.prog u = .ok (.enter f args) u)
  (k6 : ∀ u,Below w.heap.size w u → Calls Tryz.prog f args u fun e u' => (∃ g,e = .returned (.slice (some ⟨g,0,none⟩) zs.length zs.length) ∧ u.heap.size ≤ g ∧ By.Block u' g zs) ∧ Below u.heap.size u u')
  (ho7 : o7.op = .call { callee := .builtin .append,args := #[.tmp s7,.tmp x7],argTypes := #[22,22] }) (ho10 : o10.op = .store 22 (.tmp x10) (.tmp y10))
  (e7 : ∀ v,(((((((a.put o0.dst (.pointer (some ⟨p,0,none⟩))).put o1.dst (.pointer (some ⟨p,0,none⟩))).put o2.dst (.pointer (some ⟨p,0,none⟩))).put o3.dst (.pointer (some ⟨p,0,none⟩))).put o4.dst (.slice ao n cap)).put o5.dst x).put o6.dst v).tmps.toList[s7]? = some (.slice ao n cap) ∧ (((((((a.put o0.dst (.pointer (some ⟨p,0,none⟩))).put o1.dst (.pointer (some ⟨p,0,none⟩))).put o2.dst (.pointer (some ⟨p,0,none⟩))).put o3.dst (.pointer (some ⟨p,0,none⟩))).put o4.dst (.slice ao n cap)).put o5.dst x).put o6.dst v).tmps.toList[x7]? = some v)
  (e10 : ∀ v v',((((((((((a.put o0.dst (.pointer (some ⟨p,0,none⟩))).put o1.dst (.pointer (some ⟨p,0,none⟩))).put o2.dst (.pointer (some ⟨p,0,none⟩))).put o3.dst (.pointer (some ⟨p,0,none⟩))).put o4.dst (.slice ao n cap)).put o5.dst x).put o6.dst v).put o7.dst v').put o8.dst (.pointer (some ⟨p,0,none⟩))).put o9.dst (.pointer (some ⟨p,0,none⟩))).tmps.toList[x10]? = some (.pointer (some ⟨p,0,none⟩)) ∧ ((((((((((a.put o0.dst (.pointer (some ⟨p,0,none⟩))).put o1.dst (.pointer (some ⟨p,0,none⟩))).put o2.dst (.pointer (some ⟨p,0,none⟩))).put o3.dst (.pointer (some ⟨p,0,none⟩))).put o4.dst (.slice ao n cap)).put o5.dst x).put o6.dst v).put o7.dst v').put o8.dst (.pointer (some ⟨p,0,none⟩))).put o9.dst (.pointer (some ⟨p,0,none⟩))).tmps.toList[y10]? = some v')
  (hm : bs.length + zs.length ≤ 100000000)
  (k : ∀ v v' w',IwE w0 w' (bs ++ zs) → IwF w0 w w' → Q .normal ((((((((((a.put o0.dst (.pointer (some ⟨p,0,none⟩))).put o1.dst (.pointer (some ⟨p,0,none⟩))).put o2.dst (.pointer (some ⟨p,0,none⟩))).put o3.dst (.pointer (some ⟨p,0,none⟩))).put o4.dst (.slice ao n cap)).put o5.dst x).put o6.dst v).put o7.dst v').put o8.dst (.pointer (some ⟨p,0,none⟩))).put o9.dst (.pointer (some ⟨p,0,none⟩))) w') :
  (Code.region id #[o0,o1,o2,o3,o4,o5,o6,o7,o8,o9,o10] true).wp Tryz.prog Q a w := by
 have hw0 : Below w.heap.size w w.drew := (Below.refl _ _).drew
 have hSB : ∀ u,Below w.heap.size w u → u.cell? ⟨p,0,none⟩ = some (.slice ao n cap) := fun u hu => by rw [hp]; exact (hW.below hu).cell
 have hH := hSB _ hw0
 refine Bl.startG (S := fun u => u.cell? ⟨p,0,none⟩ = some (.slice ao n cap)) (x := 10) ?_
 show anyG Tryz.prog .any #[o0,o1,o2,o3,o4,o5,o6,o7,o8,o9,o10] Q _ 10 11 [false,false,false,false,false,false,false,false,false,false,false].toArray a w.drew
 refine Bl.tkG (i := 0) (oi := o0) rfl c c0 d0 q0 y0 hH ?_
 show anyG Tryz.prog .any #[o0,o1,o2,o3,o4,o5,o6,o7,o8,o9,o10] Q _ 10 10 [true,false,false,false,false,false,false,false,false,false,false].toArray _ _
 refine Bl.tkG (i := 1) (oi := o1) rfl c c1 d1 q1 y1 hH ?_
 show anyG Tryz.prog .any #[o0,o1,o2,o3,o4,o5,o6,o7,o8,o9,o10] Q _ 10 9 [true,true,false,false,false,false,false,false,false,false,false].toArray _ _
 refine Bl.tkG (i := 2) (oi := o2) rfl c c2 d2 q2 y2 hH ?_
 show anyG Tryz.prog .any #[o0,o1,o2,o3,o4,o5,o6,o7,o8,o9,o10] Q _ 10 8 [true,true,true,false,false,false,false,false,false,false,false].toArray _ _
 refine Bl.tkG (i := 3) (oi := o3) rfl c c3 d3 q3 y3 hH ?_
 show anyG Tryz.prog .any #[o0,o1,o2,o3,o4,o5,o6,o7,o8,o9,o10] Q _ 10 7 [true,true,true,true,false,false,false,false,false,false,false].toArray _ _
 refine Bl.tkG (i := 4) (oi := o4) rfl c c4 d4 q4 y4 hH ?_
 show anyG Tryz.prog .any #[o0,o1,o2,o3,o4,o5,o6,o7,o8,o9,o10] Q _ 10 6 [true,true,true,true,true,false,false,false,false,false,false].toArray _ _
 refine Bl.tkG (i := 5) (oi := o5) rfl c c5 d5 q5 y5 hH ?_
 show anyG Tryz.prog .any #[o0,o1,o2,o3,o4,o5,o6,o7,o8,o9,o10] Q _ 10 5 [true,true,true,true,true,true,false,false,false,false,false].toArray _ _
 refine Bl.oneG (i := 6) (oi := o6) rfl r6 (fun K hK => ?_)
 refine Bl.step_call hg6 (h6 _) ((k6 _ hw0).mono ?_)
 rintro e u1 ⟨⟨g,rfl,hg,hblk⟩,b1⟩
 have b2 : Below w.heap.size w u1 := bchain hw0 b1
 refine ⟨_,rfl,hK.out _ _ (.inr (hSB _ b2)) ?_⟩
 clear hK K
 show anyG Tryz.prog .any #[o0,o1,o2,o3,o4,o5,o6,o7,o8,o9,o10] Q _ 10 4 [true,true,true,true,true,true,true,false,false,false,false].toArray _ _
 refine Bl.oneG (i := 7) (oi := o7) rfl r7 (fun K hK => ?_)
 have hw7 : Region.wanted o7 (yielded #[o0,o1,o2,o3,o4,o5,o6,o7,o8,o9,o10] (((((((a.put o0.dst (.pointer (some ⟨p,0,none⟩))).put o1.dst (.pointer (some ⟨p,0,none⟩))).put o2.dst (.pointer (some ⟨p,0,none⟩))).put o3.dst (.pointer (some ⟨p,0,none⟩))).put o4.dst (.slice ao n cap)).put o5.dst x).put o6.dst (.slice (some ⟨g,0,none⟩) zs.length zs.length)).tmps) = true := by simp [Region.wanted,hg7]
 rw [if_pos hw7]
 have hW1 := hW.below b2
 refine By.wp_append u1 (.tmp s7) (.tmp x7) ho7 (w0.heap.size + 1) (.slice ao n cap) bs (Ca.evT (e7 _).1) hW1.own ⟨g,0,none⟩ zs.length zs.length zs (Ca.evT (e7 _).2) rfl (hblk.ls (by omega)).seg (by omega) hW1.lt ?_
 intro v7 w7 o7' gr7 at7
 obtain ⟨ao',n',cap',rfl⟩ := By.own_slice o7'
 have hN := hW1.put o7' gr7
 have hge := By.own_ge hW1.own
 have hb7 : w7.heap[p]? = u1.heap[p]? := by rw [hp]; exact gr7.block _ hW1.lt (fun e => by have := hge _ e.symm; omega)
 have hS7 : w7.cell? ⟨p,0,none⟩ = some (.slice ao n cap) := (World.cell?_of_block hb7).trans (hSB _ b2)
 have hf7 : w7.frozen? ⟨p,0,none⟩ = false := (World.frozen?_of_block hb7).trans (by rw [hp]; exact hW1.frozen 0)
 refine hK.out _ _ (.inr hS7) ?_
 clear hK K
 show anyG Tryz.prog .any #[o0,o1,o2,o3,o4,o5,o6,o7,o8,o9,o10] Q _ 10 3 [true,true,true,true,true,true,true,true,false,false,false].toArray _ _
 refine Bl.tkG (i := 8) (oi := o8) rfl c c8 d8 q8 (y8 _ _) hS7 ?_
 show anyG Tryz.prog .any #[o0,o1,o2,o3,o4,o5,o6,o7,o8,o9,o10] Q _ 10 2 [true,true,true,true,true,true,true,true,true,false,false].toArray _ _
 refine Bl.tkG (i := 9) (oi := o9) rfl c c9 d9 q9 (y9 _ _) hS7 ?_
 show anyG Tryz.prog .any #[o0,o1,o2,o3,o4,o5,o6,o7,o8,o9,o10] Q _ 10 1 [true,true,true,true,true,true,true,true,true,true,false].toArray _ _
 refine Bl.oneG (i := 10) (oi := o10) rfl r10 (fun K hK => ?_)
 refine step_bytes hg10 ho10 hd10 (e10 _ _).1 (e10 _ _).2 hS7 hf7 (hK.out _ _ (.inl (Nat.le_refl _)) ?_)
 clear hK K
 have hN2 : IwE w0 (w7.setCell ⟨p,0,none⟩ (.slice ao' n' cap')) (bs ++ zs) := ⟨ao',n',cap',by rw [hp]; exact hN⟩
 have hF : IwF w0 w (w7.setCell ⟨p,0,none⟩ (.slice ao' n' cap')) := by rw [hp]; exact (IwF.of b2 hW).trans (hW1.frame gr7 at7 hN)
 exact anyG_done rE (k _ _ _ hN2 hF) _
section
variable {ops : Array Oper} {o : Oper} {a : Act} {S : World → Prop} {t : Tmp} {p : Nat}
theorem y_move {v : Value} (hgd : o.guard = none) (ho : o.op = .move (.tmp t)) (hp : a.tmps.toList[t]? = some v) : YieldsIf Tryz.prog ops S o v a := by
 refine .inl ⟨by simp [Region.wanted,hgd],fun u _ => ?_⟩
 simp only [execOp,ho,Ca.evT hp]
 simp [go_sem]
theorem y_nil (hgd : o.guard = none) (ho : o.op = .nilCheck (.tmp t)) (hp : a.tmps.toList[t]? = some (.pointer (some ⟨p,0,none⟩))) : YieldsIf Tryz.prog ops S o (.pointer (some ⟨p,0,none⟩)) a := by
 refine .inl ⟨by simp [Region.wanted,hgd],fun u _ => ?_⟩
 simp only [execOp,ho,Ca.evT hp]
 simp [go_sem]
theorem Iw.y_b (hgd : o.guard = none) (ho : o.op = .fieldAddr 51 (.tmp t) 0) (hp : a.tmps.toList[t]? = some (.pointer (some ⟨p,0,none⟩))) : YieldsIf Tryz.prog ops S o (.pointer (some ⟨p,0,none⟩)) a := by
 refine .inl ⟨by simp [Region.wanted,hgd],fun u _ => ?_⟩
 simp only [execOp,ho,Ca.evT hp]
 simp [go_sem]
theorem Iw.y_load {ao : Option Addr} {n c : Nat} (hgd : o.guard = none) (ho : o.op = .load 22 (.tmp t)) (hp : a.tmps.toList[t]? = some (.pointer (some ⟨p,0,none⟩))) (hS : ∀ u,S u → u.cell? ⟨p,0,none⟩ = some (.slice ao n c)) : YieldsIf Tryz.prog ops S o (.slice ao n c) a := by
 refine .inl ⟨by simp [Region.wanted,hgd],fun u hu => ?_⟩
 have h := hS u hu
 simp only [execOp,ho,Ca.evT hp]
 simp [go_sem,h]
end
theorem nm_10 (n : Int) : (nm n).length ≤ 10 := vbF_len 10 _
theorem tx_74 (s : ByteArray) (hs : s.size ≤ 1000) : (tx s).length ≤ 1010 := by
 unfold tx
 rw [List.length_append]
 have := nm_10 (s.size : Int)
 have e : (txt s).length = s.size := by unfold txt; rw [Array.length_toList]; rfl
 omega
theorem pack_flag (x : Bool) (w : World) : Calls Tryz.prog 128 #[.slice none 0 0,.bool x] w fun e w' => (∃ g,e = .returned (.slice (some ⟨g,0,none⟩) (Im.flB x).length (Im.flB x).length) ∧ w.heap.size ≤ g ∧ By.Block w' g (Im.flB x)) ∧ Below w.heap.size w w' := by
 have f0 : Fit 0 := ⟨by omega,by omega⟩
 have f1 : Fit 1 := ⟨by omega,by omega⟩
 cases x
 ·
  go_enter Tryz.func128,Tryz.ntmps128
  go_wp2_with fail
  refine (pack_num [] 0 f0 none 0 0 w (By.ls_nil w) (by omega)).mono ?_
  rintro e u' ⟨⟨g,rfl,hg,hb⟩,b⟩
  rw [Nat.zero_add]
  go_wp2_with fail
  go_ret
  exact ⟨⟨g,rfl,hg,hb⟩,b⟩
 ·
  go_enter Tryz.func128,Tryz.ntmps128
  go_wp2_with fail
  refine (pack_num [] 1 f1 none 0 0 w (By.ls_nil w) (by omega)).mono ?_
  rintro e u' ⟨⟨g,rfl,hg,hb⟩,b⟩
  rw [Nat.zero_add]
  go_wp2_with fail
  go_ret
  exact ⟨⟨g,rfl,hg,hb⟩,b⟩
set_option maxHeartbeats 2000000 in
theorem iw_num (x : Int) (hx : Fit x) (bs : List UInt8) (w0 w : World) (hW : IwE w0 w bs) (hm : bs.length ≤ 1000000) :
  Calls Tryz.prog 43 #[.pointer (some ⟨w0.heap.size,0,none⟩),.int .i64 x] w fun e w' => e = .returned (.tuple #[]) ∧ IwE w0 w' (bs ++ nm x) ∧ IwF w0 w w' := by
 obtain ⟨ao,n,cap,h⟩ := hW
 have HW := Lib.hid h
 have HM := Lib.hid hm
 have HX := Lib.hid hx
 obtain ⟨p,hp⟩ : ∃ p,w0.heap.size = p := ⟨_,rfl⟩
 have HP := Lib.hid hp
 rw [hp]
 clear h hm hp
 go_enter Tryz.func43,Tryz.ntmps43
 go_wp2_with fail
 refine Iw.wp_put (f := 88) (args := #[.slice none 0 0,.int .i64 x]) (s7 := 8) (x7 := 10) (x10 := 13) (y10 := 11) p (.int .i64 x) w0 bs (nm x) ao n cap HP.out.symm HW.out ?_ ?_ ?_ ?_ ?_ ?_ ?_ ?_ ?_ ?_ ?_ ?_ ?_ ?_ ?_ ?_ ?_ ?_ ?_ ?_ ?_ ?_ ?_ ?_ ?_ ?_ ?_ ?_ ?_ ?_ ?_ ?_ ?_ ?_ ?_ ?_ ?_ rfl rfl rfl rfl ?_ ?_ rfl rfl ?_ ?_ ?_ ?_
 · kernel_rfl
 · kernel_rfl
 · kernel_rfl
 · kernel_rfl
 · kernel_rfl
 · kernel_rfl
 · kernel_rfl
 · kernel_rfl
 · kernel_rfl
 · kernel_rfl
 · kernel_rfl
 · kernel_rfl
 · kernel_rfl
 · kernel_rfl
 · kernel_rfl
 · kernel_rfl
 · kernel_rfl
 · kernel_rfl
 · kernel_rfl
 · kernel_rfl
 · kernel_rfl
 · exact y_move (t := 0) rfl rfl (by kernel_rfl)
 · exact y_move (t := 0) rfl rfl (by kernel_rfl)
 · exact y_nil (t := 5) rfl rfl (by kernel_rfl)
 · exact Iw.y_b (t := 6) rfl rfl (by kernel_rfl)
 · exact Iw.y_load (t := 7) rfl rfl (by kernel_rfl) fun u hu => hu
 · exact y_move (t := 1) rfl rfl (by kernel_rfl)
 · exact fun v v' => y_nil (t := 4) rfl rfl (by kernel_rfl)
 · exact fun v v' => Iw.y_b (t := 12) rfl rfl (by kernel_rfl)
 · exact fun _ _ _ h => h
 · exact fun _ _ _ h => h
 · exact fun _ _ _ h => h
 · exact fun _ _ _ h => h
 · exact fun _ _ _ h => h
 · exact fun _ _ _ h => h
 · exact fun _ _ _ h => h
 · exact fun _ _ _ h => h
 ·
  intro u
  refine Bl.enters rfl ?_ Tryz.func88 ?_ rfl _
  · kernel_rfl
  · kernel_rfl
 ·
  intro u hu
  refine (pack_num [] x HX.out none 0 0 u (By.ls_nil u) (by omega)).mono ?_
  rintro e u' ⟨⟨g,rfl,hg,hb⟩,b⟩
  rw [Nat.zero_add]
  exact ⟨⟨g,rfl,hg,hb⟩,b⟩
 ·
  intro v
  refine ⟨?_,?_⟩
  · kernel_rfl
  · kernel_rfl
 ·
  intro v v'
  refine ⟨?_,?_⟩
  · kernel_rfl
  · kernel_rfl
 ·
  have := HM.out
  have := nm_10 x
  omega
 ·
  intro v v' w' hw' hf'
  go_wp2_with fail
  go_end0
  exact ⟨rfl,hw',hf'⟩
set_option maxHeartbeats 2000000 in
theorem iw_text (x : ByteArray) (hx : x.size ≤ 1000) (bs : List UInt8) (w0 w : World) (hW : IwE w0 w bs) (hm : bs.length ≤ 1000000) :
  Calls Tryz.prog 83 #[.pointer (some ⟨w0.heap.size,0,none⟩),.string x] w fun e w' => e = .returned (.tuple #[]) ∧ IwE w0 w' (bs ++ tx x) ∧ IwF w0 w w' := by
 obtain ⟨ao,n,cap,h⟩ := hW
 have HW := Lib.hid h
 have HM := Lib.hid hm
 have HX := Lib.hid hx
 obtain ⟨p,hp⟩ : ∃ p,w0.heap.size = p := ⟨_,rfl⟩
 have HP := Lib.hid hp
 rw [hp]
 clear h hm hp
 go_enter Tryz.func83,Tryz.ntmps83
 go_wp2_with fail
 refine Iw.wp_put (f := 127) (args := #[.slice none 0 0,.string x]) (s7 := 8) (x7 := 10) (x10 := 13) (y10 := 11) p (.string x) w0 bs (tx x) ao n cap HP.out.symm HW.out ?_ ?_ ?_ ?_ ?_ ?_ ?_ ?_ ?_ ?_ ?_ ?_ ?_ ?_ ?_ ?_ ?_ ?_ ?_ ?_ ?_ ?_ ?_ ?_ ?_ ?_ ?_ ?_ ?_ ?_ ?_ ?_ ?_ ?_ ?_ ?_ ?_ rfl rfl rfl rfl ?_ ?_ rfl rfl ?_ ?_ ?_ ?_
 · kernel_rfl
 · kernel_rfl
 · kernel_rfl
 · kernel_rfl
 · kernel_rfl
 · kernel_rfl
 · kernel_rfl
 · kernel_rfl
 · kernel_rfl
 · kernel_rfl
 · kernel_rfl
 · kernel_rfl
 · kernel_rfl
 · kernel_rfl
 · kernel_rfl
 · kernel_rfl
 · kernel_rfl
 · kernel_rfl
 · kernel_rfl
 · kernel_rfl
 · kernel_rfl
 · exact y_move (t := 0) rfl rfl (by kernel_rfl)
 · exact y_move (t := 0) rfl rfl (by kernel_rfl)
 · exact y_nil (t := 5) rfl rfl (by kernel_rfl)
 · exact Iw.y_b (t := 6) rfl rfl (by kernel_rfl)
 · exact Iw.y_load (t := 7) rfl rfl (by kernel_rfl) fun u hu => hu
 · exact y_move (t := 1) rfl rfl (by kernel_rfl)
 · exact fun v v' => y_nil (t := 4) rfl rfl (by kernel_rfl)
 · exact fun v v' => Iw.y_b (t := 12) rfl rfl (by kernel_rfl)
 · exact fun _ _ _ h => h
 · exact fun _ _ _ h => h
 · exact fun _ _ _ h => h
 · exact fun _ _ _ h => h
 · exact fun _ _ _ h => h
 · exact fun _ _ _ h => h
 · exact fun _ _ _ h => h
 · exact fun _ _ _ h => h
 ·
  intro u
  refine Bl.enters rfl ?_ Tryz.func127 ?_ rfl _
  · kernel_rfl
  · kernel_rfl
 ·
  intro u hu
  refine (pack_text [] x (by have := HX.out; omega) none 0 0 u (By.ls_nil u) (by omega)).mono ?_
  rintro e u' ⟨⟨g,N,rfl,hN,hg,hb⟩,b⟩
  subst hN
  exact ⟨⟨g,rfl,hg,hb⟩,b⟩
 ·
  intro v
  refine ⟨?_,?_⟩
  · kernel_rfl
  · kernel_rfl
 ·
  intro v v'
  refine ⟨?_,?_⟩
  · kernel_rfl
  · kernel_rfl
 ·
  have := HM.out
  have := tx_74 x HX.out
  omega
 ·
  intro v v' w' hw' hf'
  go_wp2_with fail
  go_end0
  exact ⟨rfl,hw',hf'⟩
set_option maxHeartbeats 2000000 in
theorem iw_flag (x : Bool) (bs : List UInt8) (w0 w : World) (hW : IwE w0 w bs) (hm : bs.length ≤ 1000000) :
  Calls Tryz.prog 85 #[.pointer (some ⟨w0.heap.size,0,none⟩),.bool x] w fun e w' => e = .returned (.tuple #[]) ∧ IwE w0 w' (bs ++ Im.flB x) ∧ IwF w0 w w' := by
 obtain ⟨ao,n,cap,h⟩ := hW
 have HW := Lib.hid h
 have HM := Lib.hid hm
 skip
 obtain ⟨p,hp⟩ : ∃ p,w0.heap.size = p := ⟨_,rfl⟩
 have HP := Lib.hid hp
 rw [hp]
 clear h hm hp
 go_enter Tryz.func85,Tryz.ntmps85
 go_wp2_with fail
 refine Iw.wp_put (f := 128) (args := #[.slice none 0 0,.bool x]) (s7 := 8) (x7 := 10) (x10 := 13) (y10 := 11) p (.bool x) w0 bs (Im.flB x) ao n cap HP.out.symm HW.out ?_ ?_ ?_ ?_ ?_ ?_ ?_ ?_ ?_ ?_ ?_ ?_ ?_ ?_ ?_ ?_ ?_ ?_ ?_ ?_ ?_ ?_ ?_ ?_ ?_ ?_ ?_ ?_ ?_ ?_ ?_ ?_ ?_ ?_ ?_ ?_ ?_ rfl rfl rfl rfl ?_ ?_ rfl rfl ?_ ?_ ?_ ?_
 · kernel_rfl
 · kernel_rfl
 · kernel_rfl
 · kernel_rfl
 · kernel_rfl
 · kernel_rfl
 · kernel_rfl
 · kernel_rfl
 · kernel_rfl
 · kernel_rfl
 · kernel_rfl
 · kernel_rfl
 · kernel_rfl
 · kernel_rfl
 · kernel_rfl
 · kernel_rfl
 · kernel_rfl
 · kernel_rfl
 · kernel_rfl
 · kernel_rfl
 · kernel_rfl
 · exact y_move (t := 0) rfl rfl (by kernel_rfl)
 · exact y_move (t := 0) rfl rfl (by kernel_rfl)
 · exact y_nil (t := 5) rfl rfl (by kernel_rfl)
 · exact Iw.y_b (t := 6) rfl rfl (by kernel_rfl)
 · exact Iw.y_load (t := 7) rfl rfl (by kernel_rfl) fun u hu => hu
 · exact y_move (t := 1) rfl rfl (by kernel_rfl)
 · exact fun v v' => y_nil (t := 4) rfl rfl (by kernel_rfl)
 · exact fun v v' => Iw.y_b (t := 12) rfl rfl (by kernel_rfl)
 · exact fun _ _ _ h => h
 · exact fun _ _ _ h => h
 · exact fun _ _ _ h => h
 · exact fun _ _ _ h => h
 · exact fun _ _ _ h => h
 · exact fun _ _ _ h => h
 · exact fun _ _ _ h => h
 · exact fun _ _ _ h => h
 ·
  intro u
  refine Bl.enters rfl ?_ Tryz.func128 ?_ rfl _
  · kernel_rfl
  · kernel_rfl
 ·
  intro u hu
  exact pack_flag x u
 ·
  intro v
  refine ⟨?_,?_⟩
  · kernel_rfl
  · kernel_rfl
 ·
  intro v v'
  refine ⟨?_,?_⟩
  · kernel_rfl
  · kernel_rfl
 ·
  have := HM.out
  have := nm_10 (if x = true then 1 else 0)
  unfold Im.flB
  omega
 ·
  intro v v' w' hw' hf'
  go_wp2_with fail
  go_end0
  exact ⟨rfl,hw',hf'⟩
end Go.Proofs.YtillcleccjgocaaGreat
namespace Go.Proofs.YtillcleccjgocaaGreat
open Go.RowKit
open Mem Pk Cm
structure Ib (w0 w : World) (bs : List UInt8) (g : Nat) (o : Obj) : Prop where
 wr : IwE w0 w bs
 ap : Ap w0 w g
 box : w.heap[g]? = some o
theorem Ib.next {w0 w w' : World} {bs bs' : List UInt8} {g : Nat} {o : Obj} (h : Ib w0 w bs g o) (k : IwE w0 w' bs') (f : IwF w0 w w') : Ib w0 w' bs' g o := ⟨k,(f g h.ap).1,(f g h.ap).2.trans h.box⟩
theorem IwE.boxed {w0 w : World} {bs : List UInt8} (h : IwE w0 w bs) (o : Obj) : Ib w0 (w.alloc o) bs w.heap.size o ∧ IwF w0 w (w.alloc o) := by
 obtain ⟨ao,n,cap,h⟩ := h
 have hb : Below w.heap.size w (w.alloc o) := (Below.refl _ _).alloc (Nat.le_refl _) o
 exact ⟨⟨⟨ao,n,cap,h.below hb⟩,h.fresh o,heap_alloc_new w o⟩,IwF.of hb h⟩
theorem Ib.cell {w0 w : World} {bs : List UInt8} {g : Nat} {cs : Array Value} {t : TypeId} (h : Ib w0 w bs g (.cells cs t (0,0))) (i : Nat) : w.cell? ⟨g,i,none⟩ = cs[i]? := cell_of_row w g i _ _ _ h.box
theorem day_30 (y m d : Int) : (Cm.dayB y m d).length ≤ 1100 := by
 unfold Cm.dayB
 rw [List.length_append,List.length_append]
 have := nm_10 y
 have := nm_10 m
 have := nm_10 d
 omega
set_option maxHeartbeats 1000000 in
theorem iw_day (y m d : Int) (hh : Fit y ∧ Fit m ∧ Fit d) (bs : List UInt8) (w0 w : World) (hW : IwE w0 w bs) (hm : bs.length ≤ 990000) :
  Calls Tryz.prog 84 #[.pointer (some ⟨w0.heap.size,0,none⟩),.agg #[.int .i64 y,.int .i64 m,.int .i64 d]] w fun e w' => e = .returned (.tuple #[]) ∧ IwE w0 w' (bs ++ Cm.dayB y m d) ∧ IwF w0 w w' := by
 have HM := Lib.hid hm
 have HH := Lib.hid hh
 obtain ⟨hI,hF⟩ := hW.boxed (.cells #[.int .i64 y,.int .i64 m,.int .i64 d] 61)
 obtain ⟨U,hU⟩ : ∃ U,w.alloc (.cells #[.int .i64 y,.int .i64 m,.int .i64 d] 61) = U := ⟨_,rfl⟩
 rw [hU] at hI hF
 have HI0 := Lib.hid hI
 have HF0 := Lib.hid hF
 obtain ⟨g,hg⟩ : ∃ g,w.heap.size = g := ⟨_,rfl⟩
 rw [hg] at HI0 hI
 have HG := Lib.hid hg
 have c0 := hI.cell 0
 have c1 := hI.cell 1
 have c2 := hI.cell 2
 simp only [List.getElem?_toArray,List.getElem?_cons_zero,List.getElem?_cons_succ] at c0 c1 c2
 clear hI hF hW hm hh
 skip
 go_enter Tryz.func84,Tryz.ntmps84
 go_wp2_with fail
 try rw [hU]
 try rw [hg]
 clear hU hg
 refine (iw_num (y) (HH.out.1) bs w0 U (HI0.out.wr) (by have := HM.out; first | omega | (simp only [List.length_append]; omega))).mono ?_
 rintro e w1 ⟨rfl,i1,f1⟩
 have HI1 := Lib.hid (HI0.out.next i1 f1)
 have HF1 := Lib.hid (HF0.out.trans f1)
 have HL1 : Hid ((nm (y)).length ≤ 1100) := Lib.hid (by exact Nat.le_trans (nm_10 _) (by omega))
 clear c0 c1 c2 i1 f1
 have c0 := HI1.out.cell 0
 have c1 := HI1.out.cell 1
 have c2 := HI1.out.cell 2
 simp only [List.getElem?_toArray,List.getElem?_cons_zero,List.getElem?_cons_succ] at c0 c1 c2
 go_wp2_with fail
 refine (iw_num (m) (HH.out.2.1) (bs ++ nm (y)) w0 w1 (HI1.out.wr) (by have := HM.out; have := HL1.out; first | omega | (simp only [List.length_append]; omega))).mono ?_
 rintro e w2 ⟨rfl,i2,f2⟩
 have HI2 := Lib.hid (HI1.out.next i2 f2)
 have HF2 := Lib.hid (HF1.out.trans f2)
 have HL2 : Hid ((nm (m)).length ≤ 1100) := Lib.hid (by exact Nat.le_trans (nm_10 _) (by omega))
 clear c0 c1 c2 i2 f2
 have c0 := HI2.out.cell 0
 have c1 := HI2.out.cell 1
 have c2 := HI2.out.cell 2
 simp only [List.getElem?_toArray,List.getElem?_cons_zero,List.getElem?_cons_succ] at c0 c1 c2
 go_wp2_with fail
 refine (iw_num (d) (HH.out.2.2) ((bs ++ nm (y)) ++ nm (m)) w0 w2 (HI2.out.wr) (by have := HM.out; have := HL1.out; have := HL2.out; first | omega | (simp only [List.length_append]; omega))).mono ?_
 rintro e w3 ⟨rfl,i3,f3⟩
 have HI3 := Lib.hid (HI2.out.next i3 f3)
 have HF3 := Lib.hid (HF2.out.trans f3)
 have HL3 : Hid ((nm (d)).length ≤ 1100) := Lib.hid (by exact Nat.le_trans (nm_10 _) (by omega))
 clear c0 c1 c2 i3 f3
 go_wp2_with fail
 go_end0
 refine ⟨rfl,?_,HF3.out⟩
 have h := HI3.out.wr
 unfold Cm.dayB
 simpa only [List.append_assoc] using h
set_option maxHeartbeats 1000000 in
theorem iw_rate (r : Vt.Rt) (hh : r.cat.size ≤ 1000 ∧ Fit r.y ∧ Fit r.m ∧ Fit r.d ∧ Fit r.bp) (bs : List UInt8) (w0 w : World) (hW : IwE w0 w bs) (hm : bs.length ≤ 900000) :
  Calls Tryz.prog 36 #[.pointer (some ⟨w0.heap.size,0,none⟩),.agg #[.string r.cat,.int .i64 r.y,.int .i64 r.m,.int .i64 r.d,.int .i64 r.bp]] w fun e w' => e = .returned (.tuple #[]) ∧ IwE w0 w' (bs ++ Im.rateB r) ∧ IwF w0 w w' := by
 have HM := Lib.hid hm
 have HH := Lib.hid hh
 obtain ⟨hI,hF⟩ := hW.boxed (.cells #[.string r.cat,.int .i64 r.y,.int .i64 r.m,.int .i64 r.d,.int .i64 r.bp] 63)
 obtain ⟨U,hU⟩ : ∃ U,w.alloc (.cells #[.string r.cat,.int .i64 r.y,.int .i64 r.m,.int .i64 r.d,.int .i64 r.bp] 63) = U := ⟨_,rfl⟩
 rw [hU] at hI hF
 have HI0 := Lib.hid hI
 have HF0 := Lib.hid hF
 obtain ⟨g,hg⟩ : ∃ g,w.heap.size = g := ⟨_,rfl⟩
 rw [hg] at HI0 hI
 have HG := Lib.hid hg
 have c0 := hI.cell 0
 have c1 := hI.cell 1
 have c2 := hI.cell 2
 have c3 := hI.cell 3
 have c4 := hI.cell 4
 simp only [List.getElem?_toArray,List.getElem?_cons_zero,List.getElem?_cons_succ] at c0 c1 c2 c3 c4
 clear hI hF hW hm hh
 skip
 go_enter Tryz.func36,Tryz.ntmps36
 go_wp2_with fail
 try rw [hU]
 try rw [hg]
 clear hU hg
 refine (iw_text (r.cat) (HH.out.1) bs w0 U (HI0.out.wr) (by have := HM.out; first | omega | (simp only [List.length_append]; omega))).mono ?_
 rintro e w1 ⟨rfl,i1,f1⟩
 have HI1 := Lib.hid (HI0.out.next i1 f1)
 have HF1 := Lib.hid (HF0.out.trans f1)
 have HL1 : Hid ((tx (r.cat)).length ≤ 1100) := Lib.hid (by exact Nat.le_trans (tx_74 _ HH.out.1) (by omega))
 clear c0 c1 c2 c3 c4 i1 f1
 have c0 := HI1.out.cell 0
 have c1 := HI1.out.cell 1
 have c2 := HI1.out.cell 2
 have c3 := HI1.out.cell 3
 have c4 := HI1.out.cell 4
 simp only [List.getElem?_toArray,List.getElem?_cons_zero,List.getElem?_cons_succ] at c0 c1 c2 c3 c4
 go_wp2_with fail
 refine (iw_day r.y r.m r.d ⟨HH.out.2.1,HH.out.2.2.1,HH.out.2.2.2.1⟩ (bs ++ tx (r.cat)) w0 w1 (HI1.out.wr) (by have := HM.out; have := HL1.out; first | omega | (simp only [List.length_append]; omega))).mono ?_
 rintro e w2 ⟨rfl,i2,f2⟩
 have HI2 := Lib.hid (HI1.out.next i2 f2)
 have HF2 := Lib.hid (HF1.out.trans f2)
 have HL2 : Hid ((Cm.dayB r.y r.m r.d).length ≤ 1100) := Lib.hid (by exact day_30 _ _ _)
 clear c0 c1 c2 c3 c4 i2 f2
 have c0 := HI2.out.cell 0
 have c1 := HI2.out.cell 1
 have c2 := HI2.out.cell 2
 have c3 := HI2.out.cell 3
 have c4 := HI2.out.cell 4
 simp only [List.getElem?_toArray,List.getElem?_cons_zero,List.getElem?_cons_succ] at c0 c1 c2 c3 c4
 go_wp2_with fail
 refine (iw_num (r.bp) (HH.out.2.2.2.2) ((bs ++ tx (r.cat)) ++ Cm.dayB r.y r.m r.d) w0 w2 (HI2.out.wr) (by have := HM.out; have := HL1.out; have := HL2.out; first | omega | (simp only [List.length_append]; omega))).mono ?_
 rintro e w3 ⟨rfl,i3,f3⟩
 have HI3 := Lib.hid (HI2.out.next i3 f3)
 have HF3 := Lib.hid (HF2.out.trans f3)
 have HL3 : Hid ((nm (r.bp)).length ≤ 1100) := Lib.hid (by exact Nat.le_trans (nm_10 _) (by omega))
 clear c0 c1 c2 c3 c4 i3 f3
 go_wp2_with fail
 go_end0
 refine ⟨rfl,?_,HF3.out⟩
 have h := HI3.out.wr
 unfold Im.rateB
 simpa only [List.append_assoc] using h
set_option maxHeartbeats 1000000 in
theorem iw_series (r : Sr.T) (hh : r.name.size ≤ 1000 ∧ Fit r.limit) (bs : List UInt8) (w0 w : World) (hW : IwE w0 w bs) (hm : bs.length ≤ 900000) :
  Calls Tryz.prog 38 #[.pointer (some ⟨w0.heap.size,0,none⟩),.agg #[.string r.name,.int .i64 r.next,.int .i64 r.limit,.bool r.shut]] w fun e w' => e = .returned (.tuple #[]) ∧ IwE w0 w' (bs ++ Im.serB r) ∧ IwF w0 w w' := by
 have HM := Lib.hid hm
 have HH := Lib.hid hh
 obtain ⟨hI,hF⟩ := hW.boxed (.cells #[.string r.name,.int .i64 r.next,.int .i64 r.limit,.bool r.shut] 66)
 obtain ⟨U,hU⟩ : ∃ U,w.alloc (.cells #[.string r.name,.int .i64 r.next,.int .i64 r.limit,.bool r.shut] 66) = U := ⟨_,rfl⟩
 rw [hU] at hI hF
 have HI0 := Lib.hid hI
 have HF0 := Lib.hid hF
 obtain ⟨g,hg⟩ : ∃ g,w.heap.size = g := ⟨_,rfl⟩
 rw [hg] at HI0 hI
 have HG := Lib.hid hg
 have c0 := hI.cell 0
 have c1 := hI.cell 1
 have c2 := hI.cell 2
 have c3 := hI.cell 3
 simp only [List.getElem?_toArray,List.getElem?_cons_zero,List.getElem?_cons_succ] at c0 c1 c2 c3
 clear hI hF hW hm hh
 skip
 go_enter Tryz.func38,Tryz.ntmps38
 go_wp2_with fail
 try rw [hU]
 try rw [hg]
 clear hU hg
 refine (iw_text (r.name) (HH.out.1) bs w0 U (HI0.out.wr) (by have := HM.out; first | omega | (simp only [List.length_append]; omega))).mono ?_
 rintro e w1 ⟨rfl,i1,f1⟩
 have HI1 := Lib.hid (HI0.out.next i1 f1)
 have HF1 := Lib.hid (HF0.out.trans f1)
 have HL1 : Hid ((tx (r.name)).length ≤ 1100) := Lib.hid (by exact Nat.le_trans (tx_74 _ HH.out.1) (by omega))
 clear c0 c1 c2 c3 i1 f1
 have c0 := HI1.out.cell 0
 have c1 := HI1.out.cell 1
 have c2 := HI1.out.cell 2
 have c3 := HI1.out.cell 3
 simp only [List.getElem?_toArray,List.getElem?_cons_zero,List.getElem?_cons_succ] at c0 c1 c2 c3
 go_wp2_with fail
 refine (iw_num (r.limit) (HH.out.2) (bs ++ tx (r.name)) w0 w1 (HI1.out.wr) (by have := HM.out; have := HL1.out; first | omega | (simp only [List.length_append]; omega))).mono ?_
 rintro e w2 ⟨rfl,i2,f2⟩
 have HI2 := Lib.hid (HI1.out.next i2 f2)
 have HF2 := Lib.hid (HF1.out.trans f2)
 have HL2 : Hid ((nm (r.limit)).length ≤ 1100) := Lib.hid (by exact Nat.le_trans (nm_10 _) (by omega))
 clear c0 c1 c2 c3 i2 f2
 have c0 := HI2.out.cell 0
 have c1 := HI2.out.cell 1
 have c2 := HI2.out.cell 2
 have c3 := HI2.out.cell 3
 simp only [List.getElem?_toArray,List.getElem?_cons_zero,List.getElem?_cons_succ] at c0 c1 c2 c3
 go_wp2_with fail
 refine (iw_flag r.shut ((bs ++ tx (r.name)) ++ nm (r.limit)) w0 w2 (HI2.out.wr) (by have := HM.out; have := HL1.out; have := HL2.out; first | omega | (simp only [List.length_append]; omega))).mono ?_
 rintro e w3 ⟨rfl,i3,f3⟩
 have HI3 := Lib.hid (HI2.out.next i3 f3)
 have HF3 := Lib.hid (HF2.out.trans f3)
 have HL3 : Hid ((Im.flB r.shut).length ≤ 1100) := Lib.hid (by exact Nat.le_trans (nm_10 _) (by omega))
 clear c0 c1 c2 c3 i3 f3
 go_wp2_with fail
 go_end0
 refine ⟨rfl,?_,HF3.out⟩
 have h := HI3.out.wr
 unfold Im.serB
 simpa only [List.append_assoc] using h
set_option maxHeartbeats 1000000 in
theorem iw_part (r : Pt.T) (hh : r.cat.size ≤ 1000 ∧ Fit r.bp ∧ Fit r.net) (bs : List UInt8) (w0 w : World) (hW : IwE w0 w bs) (hm : bs.length ≤ 900000) :
  Calls Tryz.prog 87 #[.pointer (some ⟨w0.heap.size,0,none⟩),.agg #[.string r.cat,.int .i64 r.bp,.int .i64 r.net,.int .i64 r.tax]] w fun e w' => e = .returned (.tuple #[]) ∧ IwE w0 w' (bs ++ Im.partB r) ∧ IwF w0 w w' := by
 have HM := Lib.hid hm
 have HH := Lib.hid hh
 obtain ⟨hI,hF⟩ := hW.boxed (.cells #[.string r.cat,.int .i64 r.bp,.int .i64 r.net,.int .i64 r.tax] 134)
 obtain ⟨U,hU⟩ : ∃ U,w.alloc (.cells #[.string r.cat,.int .i64 r.bp,.int .i64 r.net,.int .i64 r.tax] 134) = U := ⟨_,rfl⟩
 rw [hU] at hI hF
 have HI0 := Lib.hid hI
 have HF0 := Lib.hid hF
 obtain ⟨g,hg⟩ : ∃ g,w.heap.size = g := ⟨_,rfl⟩
 rw [hg] at HI0 hI
 have HG := Lib.hid hg
 have c0 := hI.cell 0
 have c1 := hI.cell 1
 have c2 := hI.cell 2
 have c3 := hI.cell 3
 simp only [List.getElem?_toArray,List.getElem?_cons_zero,List.getElem?_cons_succ] at c0 c1 c2 c3
 clear hI hF hW hm hh
 skip
 go_enter Tryz.func87,Tryz.ntmps87
 go_wp2_with fail
 try rw [hU]
 try rw [hg]
 clear hU hg
 refine (iw_text (r.cat) (HH.out.1) bs w0 U (HI0.out.wr) (by have := HM.out; first | omega | (simp only [List.length_append]; omega))).mono ?_
 rintro e w1 ⟨rfl,i1,f1⟩
 have HI1 := Lib.hid (HI0.out.next i1 f1)
 have HF1 := Lib.hid (HF0.out.trans f1)
 have HL1 : Hid ((tx (r.cat)).length ≤ 1100) := Lib.hid (by exact Nat.le_trans (tx_74 _ HH.out.1) (by omega))
 clear c0 c1 c2 c3 i1 f1
 have c0 := HI1.out.cell 0
 have c1 := HI1.out.cell 1
 have c2 := HI1.out.cell 2
 have c3 := HI1.out.cell 3
 simp only [List.getElem?_toArray,List.getElem?_cons_zero,List.getElem?_cons_succ] at c0 c1 c2 c3
 go_wp2_with fail
 refine (iw_num (r.bp) (HH.out.2.1) (bs ++ tx (r.cat)) w0 w1 (HI1.out.wr) (by have := HM.out; have := HL1.out; first | omega | (simp only [List.length_append]; omega))).mono ?_
 rintro e w2 ⟨rfl,i2,f2⟩
 have HI2 := Lib.hid (HI1.out.next i2 f2)
 have HF2 := Lib.hid (HF1.out.trans f2)
 have HL2 : Hid ((nm (r.bp)).length ≤ 1100) := Lib.hid (by exact Nat.le_trans (nm_10 _) (by omega))
 clear c0 c1 c2 c3 i2 f2
 have c0 := HI2.out.cell 0
 have c1 := HI2.out.cell 1
 have c2 := HI2.out.cell 2
 have c3 := HI2.out.cell 3
 simp only [List.getElem?_toArray,List.getElem?_cons_zero,List.getElem?_cons_succ] at c0 c1 c2 c3
 go_wp2_with fail
 refine (iw_num (r.net) (HH.out.2.2) ((bs ++ tx (r.cat)) ++ nm (r.bp)) w0 w2 (HI2.out.wr) (by have := HM.out; have := HL1.out; have := HL2.out; first | omega | (simp only [List.length_append]; omega))).mono ?_
 rintro e w3 ⟨rfl,i3,f3⟩
 have HI3 := Lib.hid (HI2.out.next i3 f3)
 have HF3 := Lib.hid (HF2.out.trans f3)
 have HL3 : Hid ((nm (r.net)).length ≤ 1100) := Lib.hid (by exact Nat.le_trans (nm_10 _) (by omega))
 clear c0 c1 c2 c3 i3 f3
 go_wp2_with fail
 go_end0
 refine ⟨rfl,?_,HF3.out⟩
 have h := HI3.out.wr
 unfold Im.partB
 simpa only [List.append_assoc] using h
set_option maxHeartbeats 1000000 in
theorem iw_session (r : Sn.T) (hh : Fit r.id ∧ Fit r.last ∧ Fit r.why ∧ Fit r.num ∧ Fit r.gross) (bs : List UInt8) (w0 w : World) (hW : IwE w0 w bs) (hm : bs.length ≤ 900000) :
  Calls Tryz.prog 42 #[.pointer (some ⟨w0.heap.size,0,none⟩),.agg #[.int .i64 r.id,.int .i64 r.last,.int .i64 r.why,.int .i64 r.num,.int .i64 r.gross]] w fun e w' => e = .returned (.tuple #[]) ∧ IwE w0 w' (bs ++ Im.sessB r) ∧ IwF w0 w w' := by
 have HM := Lib.hid hm
 have HH := Lib.hid hh
 obtain ⟨hI,hF⟩ := hW.boxed (.cells #[.int .i64 r.id,.int .i64 r.last,.int .i64 r.why,.int .i64 r.num,.int .i64 r.gross] 73)
 obtain ⟨U,hU⟩ : ∃ U,w.alloc (.cells #[.int .i64 r.id,.int .i64 r.last,.int .i64 r.why,.int .i64 r.num,.int .i64 r.gross] 73) = U := ⟨_,rfl⟩
 rw [hU] at hI hF
 have HI0 := Lib.hid hI
 have HF0 := Lib.hid hF
 obtain ⟨g,hg⟩ : ∃ g,w.heap.size = g := ⟨_,rfl⟩
 rw [hg] at HI0 hI
 have HG := Lib.hid hg
 have c0 := hI.cell 0
 have c1 := hI.cell 1
 have c2 := hI.cell 2
 have c3 := hI.cell 3
 have c4 := hI.cell 4
 simp only [List.getElem?_toArray,List.getElem?_cons_zero,List.getElem?_cons_succ] at c0 c1 c2 c3 c4
 clear hI hF hW hm hh
 skip
 go_enter Tryz.func42,Tryz.ntmps42
 go_wp2_with fail
 try rw [hU]
 try rw [hg]
 clear hU hg
 refine (iw_num (r.id) (HH.out.1) bs w0 U (HI0.out.wr) (by have := HM.out; first | omega | (simp only [List.length_append]; omega))).mono ?_
 rintro e w1 ⟨rfl,i1,f1⟩
 have HI1 := Lib.hid (HI0.out.next i1 f1)
 have HF1 := Lib.hid (HF0.out.trans f1)
 have HL1 : Hid ((nm (r.id)).length ≤ 1100) := Lib.hid (by exact Nat.le_trans (nm_10 _) (by omega))
 clear c0 c1 c2 c3 c4 i1 f1
 have c0 := HI1.out.cell 0
 have c1 := HI1.out.cell 1
 have c2 := HI1.out.cell 2
 have c3 := HI1.out.cell 3
 have c4 := HI1.out.cell 4
 simp only [List.getElem?_toArray,List.getElem?_cons_zero,List.getElem?_cons_succ] at c0 c1 c2 c3 c4
 go_wp2_with fail
 refine (iw_num (r.last) (HH.out.2.1) (bs ++ nm (r.id)) w0 w1 (HI1.out.wr) (by have := HM.out; have := HL1.out; first | omega | (simp only [List.length_append]; omega))).mono ?_
 rintro e w2 ⟨rfl,i2,f2⟩
 have HI2 := Lib.hid (HI1.out.next i2 f2)
 have HF2 := Lib.hid (HF1.out.trans f2)
 have HL2 : Hid ((nm (r.last)).length ≤ 1100) := Lib.hid (by exact Nat.le_trans (nm_10 _) (by omega))
 clear c0 c1 c2 c3 c4 i2 f2
 have c0 := HI2.out.cell 0
 have c1 := HI2.out.cell 1
 have c2 := HI2.out.cell 2
 have c3 := HI2.out.cell 3
 have c4 := HI2.out.cell 4
 simp only [List.getElem?_toArray,List.getElem?_cons_zero,List.getElem?_cons_succ] at c0 c1 c2 c3 c4
 go_wp2_with fail
 refine (iw_num (r.why) (HH.out.2.2.1) ((bs ++ nm (r.id)) ++ nm (r.last)) w0 w2 (HI2.out.wr) (by have := HM.out; have := HL1.out; have := HL2.out; first | omega | (simp only [List.length_append]; omega))).mono ?_
 rintro e w3 ⟨rfl,i3,f3⟩
 have HI3 := Lib.hid (HI2.out.next i3 f3)
 have HF3 := Lib.hid (HF2.out.trans f3)
 have HL3 : Hid ((nm (r.why)).length ≤ 1100) := Lib.hid (by exact Nat.le_trans (nm_10 _) (by omega))
 clear c0 c1 c2 c3 c4 i3 f3
 have c0 := HI3.out.cell 0
 have c1 := HI3.out.cell 1
 have c2 := HI3.out.cell 2
 have c3 := HI3.out.cell 3
 have c4 := HI3.out.cell 4
 simp only [List.getElem?_toArray,List.getElem?_cons_zero,List.getElem?_cons_succ] at c0 c1 c2 c3 c4
 go_wp2_with fail
 refine (iw_num (r.num) (HH.out.2.2.2.1) (((bs ++ nm (r.id)) ++ nm (r.last)) ++ nm (r.why)) w0 w3 (HI3.out.wr) (by have := HM.out; have := HL1.out; have := HL2.out; have := HL3.out; first | omega | (simp only [List.length_append]; omega))).mono ?_
 rintro e w4 ⟨rfl,i4,f4⟩
 have HI4 := Lib.hid (HI3.out.next i4 f4)
 have HF4 := Lib.hid (HF3.out.trans f4)
 have HL4 : Hid ((nm (r.num)).length ≤ 1100) := Lib.hid (by exact Nat.le_trans (nm_10 _) (by omega))
 clear c0 c1 c2 c3 c4 i4 f4
 have c0 := HI4.out.cell 0
 have c1 := HI4.out.cell 1
 have c2 := HI4.out.cell 2
 have c3 := HI4.out.cell 3
 have c4 := HI4.out.cell 4
 simp only [List.getElem?_toArray,List.getElem?_cons_zero,List.getElem?_cons_succ] at c0 c1 c2 c3 c4
 go_wp2_with fail
 refine (iw_num (r.gross) (HH.out.2.2.2.2) ((((bs ++ nm (r.id)) ++ nm (r.last)) ++ nm (r.why)) ++ nm (r.num)) w0 w4 (HI4.out.wr) (by have := HM.out; have := HL1.out; have := HL2.out; have := HL3.out; have := HL4.out; first | omega | (simp only [List.length_append]; omega))).mono ?_
 rintro e w5 ⟨rfl,i5,f5⟩
 have HI5 := Lib.hid (HI4.out.next i5 f5)
 have HF5 := Lib.hid (HF4.out.trans f5)
 have HL5 : Hid ((nm (r.gross)).length ≤ 1100) := Lib.hid (by exact Nat.le_trans (nm_10 _) (by omega))
 clear c0 c1 c2 c3 c4 i5 f5
 go_wp2_with fail
 go_end0
 refine ⟨rfl,?_,HF5.out⟩
 have h := HI5.out.wr
 unfold Im.sessB
 simpa only [List.append_assoc] using h
end Go.Proofs.YtillcleccjgocaaGreat
namespace Go.Proofs.YtillcleccjgocaaGreat
open Go.RowKit
open Mem Pk Cm
theorem IwE.bel {w0 w : World} {bs : List UInt8} (h : IwE w0 w bs) : Below w0.heap.size w0 w := by
 obtain ⟨ao,n,cap,h⟩ := h
 exact h.bel
theorem Im.items_take {α : Type} (B : α → List UInt8) {l : List α} {k : Nat} (h : k < l.length) : Im.itemsB B (l.take (k + 1)) = Im.itemsB B (l.take k) ++ B l[k] := by
 rw [List.take_succ_eq_append_getElem h,Im.itemsB_app]
 show _ ++ (B l[k] ++ []) = _
 rw [List.append_nil]
theorem Im.items_max {α : Type} {B : α → List UInt8} {M : Nat} : ∀ {l : List α},(∀ a ∈ l,(B a).length ≤ M) → (Im.itemsB B l).length ≤ l.length * M
 | [],_ => Nat.zero_le _
 | a :: l,h => by
  have h1 := Im.items_max (B := B) (l := l) fun x hx => h x (by simp [hx])
  have h2 := h a (by simp)
  rw [Im.itemsB,List.length_append,List.length_cons,Nat.succ_mul]
  omega
theorem Im.Rt_max (r : Vt.Rt) (hh : (r.cat.size ≤ 1000 ∧ Fit r.y ∧ Fit r.m ∧ Fit r.d ∧ Fit r.bp)) : (Im.rateB r).length ≤ 2200 := by
 unfold Im.rateB
 simp only [List.length_append]
 have := tx_74 r.cat hh.1
 have := day_30 r.y r.m r.d
 have := nm_10 r.bp
 omega
set_option maxHeartbeats 1000000 in
theorem iw_listRt (rs : List Vt.Rt) (ao : Option Addr) (n cap : Nat) (bs : List UInt8) (w0 w : World) (hW : IwE w0 w bs) (hL : Rts w0 ao n cap rs) (hk : ∀ r ∈ rs,(r.cat.size ≤ 1000 ∧ Fit r.y ∧ Fit r.m ∧ Fit r.d ∧ Fit r.bp)) (hn : n ≤ 30) (hm : bs.length ≤ 800000) :
  Calls Tryz.prog 35 #[.pointer (some ⟨w0.heap.size,0,none⟩),.slice ao n cap,.func (.func 36) #[.pointer (some ⟨w0.heap.size,0,none⟩)] #[]] w fun e w' => e = .returned (.tuple #[]) ∧ IwE w0 w' (bs ++ Im.listB Im.rateB rs) ∧ IwF w0 w w' := by
 have HL := Lib.hid hL
 have HN := Lib.hid hL.len
 have HK := Lib.hid hk
 have HM := Lib.hid hm
 have HW := Lib.hid hW
 have hcap := hL.reach
 have hfit := hL.fits
 obtain ⟨p,hp⟩ : ∃ p,w0.heap.size = p := ⟨_,rfl⟩
 have HP := Lib.hid hp
 have HNu : Hid (∀ u bs',IwE w0 u bs' → bs'.length ≤ 1000000 → Calls Tryz.prog 43 #[.pointer (some ⟨p,0,none⟩),.int .i64 (n : Int)] u fun e w' => e = .returned (.tuple #[]) ∧ IwE w0 w' (bs' ++ nm (n : Int)) ∧ IwF w0 u w') := Lib.hid fun u bs' h1 h2 => by
  rw [← HP.out]
  exact iw_num (n : Int) ⟨by omega,by omega⟩ bs' w0 u h1 h2
 have HCo : Hid (∀ (r : Vt.Rt),r ∈ rs → ∀ u bs',IwE w0 u bs' → bs'.length ≤ 900000 → Calls Tryz.prog 36 #[.pointer (some ⟨p,0,none⟩),.agg #[.string r.cat,.int .i64 r.y,.int .i64 r.m,.int .i64 r.d,.int .i64 r.bp]] u fun e w' => e = .returned (.tuple #[]) ∧ IwE w0 w' (bs' ++ Im.rateB r) ∧ IwF w0 u w') := Lib.hid fun r hr u bs' h1 h2 => by
  rw [← HP.out]
  exact iw_rate r (HK.out r hr) bs' w0 u h1 h2
 rw [hp]
 clear hL hk hm hW hp
 go_enter Tryz.func35,Tryz.ntmps35
 go_wp2_with fail
 refine (HNu.out w bs HW.out (by have := HM.out; omega)).mono ?_
 rintro e w1 ⟨rfl,i1,f1⟩
 have HI1 := Lib.hid i1
 have HF1 := Lib.hid f1
 clear i1 f1
 go_wp2_with fail
 go_loopw [7,14] (fun _ j wr => ∃ k : Nat,k ≤ n ∧ j = .int .i64 k ∧ Hid (IwE w0 wr (bs ++ nm (n : Int) ++ Im.itemsB Im.rateB (rs.take k))) ∧ Hid (IwF w0 w wr)) (fun _ j _ => n - (intOf j).toNat)
 case atStart => exact ⟨0,by omega,rfl,Lib.hid (by rw [List.take_zero,Im.itemsB,List.append_nil]; exact HI1.out),HF1⟩
 case round =>
  clear HI1 HF1
  rename World => wz
  obtain ⟨k,hk,rfl,HI,HF⟩ := hrel
  by_cases hlt : k < n
  ·
   obtain ⟨b,off,rfl⟩ := HL.out.at (by omega)
   have hkl : k < rs.length := HN.out ▸ hlt
   have hrow := (HL.out.row k hkl).below HI.out.bel
   have HT := Lib.hid (Im.items_take Im.rateB hkl)
   have HMe := Lib.hid (List.getElem_mem hkl)
   have HLe : Hid ((bs ++ nm (n : Int) ++ Im.itemsB Im.rateB (rs.take k)).length ≤ 900000) := Lib.hid (by
    have h1 := Im.items_max (B := Im.rateB) (M := 2200) (l := rs.take k) fun a ha => Im.Rt_max a (HK.out a (List.mem_of_mem_take ha))
    have h2 := nm_10 (n : Int)
    have h3 := HM.out
    rw [List.length_take] at h1
    rw [List.length_append,List.length_append]
    have h4 : min k rs.length * 2200 ≤ 30 * 2200 := Nat.mul_le_mul_right _ (by omega)
    omega)
   obtain ⟨r,hr⟩ : ∃ r,rs[k] = r := ⟨_,rfl⟩
   rw [hr] at hrow HT HMe
   clear hr
   obtain ⟨r0,r1,r2,r3,r4⟩ := hrow
   obtain ⟨hI,hF⟩ := HI.out.boxed (.cells #[.string r.cat,.int .i64 r.y,.int .i64 r.m,.int .i64 r.d,.int .i64 r.bp] 63)
   obtain ⟨U,hU⟩ : ∃ U,wz.alloc (.cells #[.string r.cat,.int .i64 r.y,.int .i64 r.m,.int .i64 r.d,.int .i64 r.bp] 63) = U := ⟨_,rfl⟩
   rw [hU] at hI hF
   have HIb := Lib.hid hI
   have HFb := Lib.hid hF
   have c0 := hI.cell 0
   have c1 := hI.cell 1
   have c2 := hI.cell 2
   have c3 := hI.cell 3
   have c4 := hI.cell 4
   simp only [List.getElem?_toArray,List.getElem?_cons_zero,List.getElem?_cons_succ] at c0 c1 c2 c3 c4
   clear hI hF
   go_wp2_with fail
   refine (HCo.out r HMe.out U _ HIb.out.wr HLe.out).mono ?_
   rintro e w3 ⟨rfl,i3,f3⟩
   have HI3 := Lib.hid i3
   have HF3 := Lib.hid ((HF.out.trans HFb.out).trans f3)
   clear i3 f3 hU r0 r1 r2 r3 r4 c0 c1 c2 c3 c4
   go_wp2_with fail
   go_roundw
   case rel =>
    refine ⟨k + 1,by omega,by go_num,Lib.hid ?_,HF3⟩
    rw [HT.out,← List.append_assoc]
    exact HI3.out
   case measure => simp [intOf]; omega
  ·
   obtain rfl : k = n := by omega
   have HE : Hid (IwE w0 wz (bs ++ Im.listB Im.rateB rs)) := Lib.hid (by
    have h := HI.out
    rw [List.take_of_length_le (Nat.le_of_eq HN.out.symm),List.append_assoc,HN.out] at h
    exact h)
   go_wp2_with fail
   go_end0
   exact ⟨rfl,HE.out,HF.out⟩
theorem Im.Sr_max (r : Sr.T) (hh : (r.name.size ≤ 1000 ∧ Fit r.limit)) : (Im.serB r).length ≤ 1100 := by
 unfold Im.serB Im.flB
 simp only [List.length_append]
 have := tx_74 r.name hh.1
 have := nm_10 r.limit
 have := nm_10 (if r.shut = true then 1 else 0)
 omega
set_option maxHeartbeats 1000000 in
theorem iw_listSr (rs : List Sr.T) (ao : Option Addr) (n cap : Nat) (bs : List UInt8) (w0 w : World) (hW : IwE w0 w bs) (hL : Sr.Ls w0 ao n cap rs) (hk : ∀ r ∈ rs,(r.name.size ≤ 1000 ∧ Fit r.limit)) (hn : n ≤ 30) (hm : bs.length ≤ 800000) :
  Calls Tryz.prog 37 #[.pointer (some ⟨w0.heap.size,0,none⟩),.slice ao n cap,.func (.func 38) #[.pointer (some ⟨w0.heap.size,0,none⟩)] #[]] w fun e w' => e = .returned (.tuple #[]) ∧ IwE w0 w' (bs ++ Im.listB Im.serB rs) ∧ IwF w0 w w' := by
 have HL := Lib.hid hL
 have HN := Lib.hid hL.len
 have HK := Lib.hid hk
 have HM := Lib.hid hm
 have HW := Lib.hid hW
 have hcap := hL.reach
 have hfit := hL.fits
 obtain ⟨p,hp⟩ : ∃ p,w0.heap.size = p := ⟨_,rfl⟩
 have HP := Lib.hid hp
 have HNu : Hid (∀ u bs',IwE w0 u bs' → bs'.length ≤ 1000000 → Calls Tryz.prog 43 #[.pointer (some ⟨p,0,none⟩),.int .i64 (n : Int)] u fun e w' => e = .returned (.tuple #[]) ∧ IwE w0 w' (bs' ++ nm (n : Int)) ∧ IwF w0 u w') := Lib.hid fun u bs' h1 h2 => by
  rw [← HP.out]
  exact iw_num (n : Int) ⟨by omega,by omega⟩ bs' w0 u h1 h2
 have HCo : Hid (∀ (r : Sr.T),r ∈ rs → ∀ u bs',IwE w0 u bs' → bs'.length ≤ 900000 → Calls Tryz.prog 38 #[.pointer (some ⟨p,0,none⟩),.agg #[.string r.name,.int .i64 r.next,.int .i64 r.limit,.bool r.shut]] u fun e w' => e = .returned (.tuple #[]) ∧ IwE w0 w' (bs' ++ Im.serB r) ∧ IwF w0 u w') := Lib.hid fun r hr u bs' h1 h2 => by
  rw [← HP.out]
  exact iw_series r (HK.out r hr) bs' w0 u h1 h2
 rw [hp]
 clear hL hk hm hW hp
 go_enter Tryz.func37,Tryz.ntmps37
 go_wp2_with fail
 refine (HNu.out w bs HW.out (by have := HM.out; omega)).mono ?_
 rintro e w1 ⟨rfl,i1,f1⟩
 have HI1 := Lib.hid i1
 have HF1 := Lib.hid f1
 clear i1 f1
 go_wp2_with fail
 go_loopw [7,14] (fun _ j wr => ∃ k : Nat,k ≤ n ∧ j = .int .i64 k ∧ Hid (IwE w0 wr (bs ++ nm (n : Int) ++ Im.itemsB Im.serB (rs.take k))) ∧ Hid (IwF w0 w wr)) (fun _ j _ => n - (intOf j).toNat)
 case atStart => exact ⟨0,by omega,rfl,Lib.hid (by rw [List.take_zero,Im.itemsB,List.append_nil]; exact HI1.out),HF1⟩
 case round =>
  clear HI1 HF1
  rename World => wz
  obtain ⟨k,hk,rfl,HI,HF⟩ := hrel
  by_cases hlt : k < n
  ·
   obtain ⟨b,off,rfl⟩ := HL.out.at (by omega)
   have hkl : k < rs.length := HN.out ▸ hlt
   have hrow := (HL.out.row k hkl).below HI.out.bel
   have HT := Lib.hid (Im.items_take Im.serB hkl)
   have HMe := Lib.hid (List.getElem_mem hkl)
   have HLe : Hid ((bs ++ nm (n : Int) ++ Im.itemsB Im.serB (rs.take k)).length ≤ 900000) := Lib.hid (by
    have h1 := Im.items_max (B := Im.serB) (M := 1100) (l := rs.take k) fun a ha => Im.Sr_max a (HK.out a (List.mem_of_mem_take ha))
    have h2 := nm_10 (n : Int)
    have h3 := HM.out
    rw [List.length_take] at h1
    rw [List.length_append,List.length_append]
    have h4 : min k rs.length * 1100 ≤ 30 * 1100 := Nat.mul_le_mul_right _ (by omega)
    omega)
   obtain ⟨r,hr⟩ : ∃ r,rs[k] = r := ⟨_,rfl⟩
   rw [hr] at hrow HT HMe
   clear hr
   obtain ⟨r0,r1,r2,r3⟩ := hrow
   obtain ⟨hI,hF⟩ := HI.out.boxed (.cells #[.string r.name,.int .i64 r.next,.int .i64 r.limit,.bool r.shut] 66)
   obtain ⟨U,hU⟩ : ∃ U,wz.alloc (.cells #[.string r.name,.int .i64 r.next,.int .i64 r.limit,.bool r.shut] 66) = U := ⟨_,rfl⟩
   rw [hU] at hI hF
   have HIb := Lib.hid hI
   have HFb := Lib.hid hF
   have c0 := hI.cell 0
   have c1 := hI.cell 1
   have c2 := hI.cell 2
   have c3 := hI.cell 3
   simp only [List.getElem?_toArray,List.getElem?_cons_zero,List.getElem?_cons_succ] at c0 c1 c2 c3
   clear hI hF
   go_wp2_with fail
   refine (HCo.out r HMe.out U _ HIb.out.wr HLe.out).mono ?_
   rintro e w3 ⟨rfl,i3,f3⟩
   have HI3 := Lib.hid i3
   have HF3 := Lib.hid ((HF.out.trans HFb.out).trans f3)
   clear i3 f3 hU r0 r1 r2 r3 c0 c1 c2 c3
   go_wp2_with fail
   go_roundw
   case rel =>
    refine ⟨k + 1,by omega,by go_num,Lib.hid ?_,HF3⟩
    rw [HT.out,← List.append_assoc]
    exact HI3.out
   case measure => simp [intOf]; omega
  ·
   obtain rfl : k = n := by omega
   have HE : Hid (IwE w0 wz (bs ++ Im.listB Im.serB rs)) := Lib.hid (by
    have h := HI.out
    rw [List.take_of_length_le (Nat.le_of_eq HN.out.symm),List.append_assoc,HN.out] at h
    exact h)
   go_wp2_with fail
   go_end0
   exact ⟨rfl,HE.out,HF.out⟩
theorem Im.Pt_max (r : Pt.T) (hh : (r.cat.size ≤ 1000 ∧ Fit r.bp ∧ Fit r.net)) : (Im.partB r).length ≤ 1100 := by
 unfold Im.partB
 simp only [List.length_append]
 have := tx_74 r.cat hh.1
 have := nm_10 r.bp
 have := nm_10 r.net
 omega
set_option maxHeartbeats 1000000 in
theorem iw_listPt (rs : List Pt.T) (ao : Option Addr) (n cap : Nat) (bs : List UInt8) (w0 w : World) (hW : IwE w0 w bs) (hL : Pt.Ls w0 ao n cap rs) (hk : ∀ r ∈ rs,(r.cat.size ≤ 1000 ∧ Fit r.bp ∧ Fit r.net)) (hn : n ≤ 30) (hm : bs.length ≤ 800000) :
  Calls Tryz.prog 86 #[.pointer (some ⟨w0.heap.size,0,none⟩),.slice ao n cap,.func (.func 87) #[.pointer (some ⟨w0.heap.size,0,none⟩)] #[]] w fun e w' => e = .returned (.tuple #[]) ∧ IwE w0 w' (bs ++ Im.listB Im.partB rs) ∧ IwF w0 w w' := by
 have HL := Lib.hid hL
 have HN := Lib.hid hL.len
 have HK := Lib.hid hk
 have HM := Lib.hid hm
 have HW := Lib.hid hW
 have hcap := hL.reach
 have hfit := hL.fits
 obtain ⟨p,hp⟩ : ∃ p,w0.heap.size = p := ⟨_,rfl⟩
 have HP := Lib.hid hp
 have HNu : Hid (∀ u bs',IwE w0 u bs' → bs'.length ≤ 1000000 → Calls Tryz.prog 43 #[.pointer (some ⟨p,0,none⟩),.int .i64 (n : Int)] u fun e w' => e = .returned (.tuple #[]) ∧ IwE w0 w' (bs' ++ nm (n : Int)) ∧ IwF w0 u w') := Lib.hid fun u bs' h1 h2 => by
  rw [← HP.out]
  exact iw_num (n : Int) ⟨by omega,by omega⟩ bs' w0 u h1 h2
 have HCo : Hid (∀ (r : Pt.T),r ∈ rs → ∀ u bs',IwE w0 u bs' → bs'.length ≤ 900000 → Calls Tryz.prog 87 #[.pointer (some ⟨p,0,none⟩),.agg #[.string r.cat,.int .i64 r.bp,.int .i64 r.net,.int .i64 r.tax]] u fun e w' => e = .returned (.tuple #[]) ∧ IwE w0 w' (bs' ++ Im.partB r) ∧ IwF w0 u w') := Lib.hid fun r hr u bs' h1 h2 => by
  rw [← HP.out]
  exact iw_part r (HK.out r hr) bs' w0 u h1 h2
 rw [hp]
 clear hL hk hm hW hp
 go_enter Tryz.func86,Tryz.ntmps86
 go_wp2_with fail
 refine (HNu.out w bs HW.out (by have := HM.out; omega)).mono ?_
 rintro e w1 ⟨rfl,i1,f1⟩
 have HI1 := Lib.hid i1
 have HF1 := Lib.hid f1
 clear i1 f1
 go_wp2_with fail
 go_loopw [7,14] (fun _ j wr => ∃ k : Nat,k ≤ n ∧ j = .int .i64 k ∧ Hid (IwE w0 wr (bs ++ nm (n : Int) ++ Im.itemsB Im.partB (rs.take k))) ∧ Hid (IwF w0 w wr)) (fun _ j _ => n - (intOf j).toNat)
 case atStart => exact ⟨0,by omega,rfl,Lib.hid (by rw [List.take_zero,Im.itemsB,List.append_nil]; exact HI1.out),HF1⟩
 case round =>
  clear HI1 HF1
  rename World => wz
  obtain ⟨k,hk,rfl,HI,HF⟩ := hrel
  by_cases hlt : k < n
  ·
   obtain ⟨b,off,rfl⟩ := HL.out.at (by omega)
   have hkl : k < rs.length := HN.out ▸ hlt
   have hrow := (HL.out.row k hkl).below HI.out.bel
   have HT := Lib.hid (Im.items_take Im.partB hkl)
   have HMe := Lib.hid (List.getElem_mem hkl)
   have HLe : Hid ((bs ++ nm (n : Int) ++ Im.itemsB Im.partB (rs.take k)).length ≤ 900000) := Lib.hid (by
    have h1 := Im.items_max (B := Im.partB) (M := 1100) (l := rs.take k) fun a ha => Im.Pt_max a (HK.out a (List.mem_of_mem_take ha))
    have h2 := nm_10 (n : Int)
    have h3 := HM.out
    rw [List.length_take] at h1
    rw [List.length_append,List.length_append]
    have h4 : min k rs.length * 1100 ≤ 30 * 1100 := Nat.mul_le_mul_right _ (by omega)
    omega)
   obtain ⟨r,hr⟩ : ∃ r,rs[k] = r := ⟨_,rfl⟩
   rw [hr] at hrow HT HMe
   clear hr
   obtain ⟨r0,r1,r2,r3⟩ := hrow
   obtain ⟨hI,hF⟩ := HI.out.boxed (.cells #[.string r.cat,.int .i64 r.bp,.int .i64 r.net,.int .i64 r.tax] 134)
   obtain ⟨U,hU⟩ : ∃ U,wz.alloc (.cells #[.string r.cat,.int .i64 r.bp,.int .i64 r.net,.int .i64 r.tax] 134) = U := ⟨_,rfl⟩
   rw [hU] at hI hF
   have HIb := Lib.hid hI
   have HFb := Lib.hid hF
   have c0 := hI.cell 0
   have c1 := hI.cell 1
   have c2 := hI.cell 2
   have c3 := hI.cell 3
   simp only [List.getElem?_toArray,List.getElem?_cons_zero,List.getElem?_cons_succ] at c0 c1 c2 c3
   clear hI hF
   go_wp2_with fail
   refine (HCo.out r HMe.out U _ HIb.out.wr HLe.out).mono ?_
   rintro e w3 ⟨rfl,i3,f3⟩
   have HI3 := Lib.hid i3
   have HF3 := Lib.hid ((HF.out.trans HFb.out).trans f3)
   clear i3 f3 hU r0 r1 r2 r3 c0 c1 c2 c3
   go_wp2_with fail
   go_roundw
   case rel =>
    refine ⟨k + 1,by omega,by go_num,Lib.hid ?_,HF3⟩
    rw [HT.out,← List.append_assoc]
    exact HI3.out
   case measure => simp [intOf]; omega
  ·
   obtain rfl : k = n := by omega
   have HE : Hid (IwE w0 wz (bs ++ Im.listB Im.partB rs)) := Lib.hid (by
    have h := HI.out
    rw [List.take_of_length_le (Nat.le_of_eq HN.out.symm),List.append_assoc,HN.out] at h
    exact h)
   go_wp2_with fail
   go_end0
   exact ⟨rfl,HE.out,HF.out⟩
theorem Im.Sn_max (r : Sn.T) (hh : (Fit r.id ∧ Fit r.last ∧ Fit r.why ∧ Fit r.num ∧ Fit r.gross)) : (Im.sessB r).length ≤ 60 := by
 unfold Im.sessB
 simp only [List.length_append]
 have := nm_10 r.id
 have := nm_10 r.last
 have := nm_10 r.why
 have := nm_10 r.num
 have := nm_10 r.gross
 omega
set_option maxHeartbeats 1000000 in
theorem iw_listSn (rs : List Sn.T) (ao : Option Addr) (n cap : Nat) (bs : List UInt8) (w0 w : World) (hW : IwE w0 w bs) (hL : Sn.Ls w0 ao n cap rs) (hk : ∀ r ∈ rs,(Fit r.id ∧ Fit r.last ∧ Fit r.why ∧ Fit r.num ∧ Fit r.gross)) (hn : n ≤ 30) (hm : bs.length ≤ 800000) :
  Calls Tryz.prog 41 #[.pointer (some ⟨w0.heap.size,0,none⟩),.slice ao n cap,.func (.func 42) #[.pointer (some ⟨w0.heap.size,0,none⟩)] #[]] w fun e w' => e = .returned (.tuple #[]) ∧ IwE w0 w' (bs ++ Im.listB Im.sessB rs) ∧ IwF w0 w w' := by
 have HL := Lib.hid hL
 have HN := Lib.hid hL.len
 have HK := Lib.hid hk
 have HM := Lib.hid hm
 have HW := Lib.hid hW
 have hcap := hL.reach
 have hfit := hL.fits
 obtain ⟨p,hp⟩ : ∃ p,w0.heap.size = p := ⟨_,rfl⟩
 have HP := Lib.hid hp
 have HNu : Hid (∀ u bs',IwE w0 u bs' → bs'.length ≤ 1000000 → Calls Tryz.prog 43 #[.pointer (some ⟨p,0,none⟩),.int .i64 (n : Int)] u fun e w' => e = .returned (.tuple #[]) ∧ IwE w0 w' (bs' ++ nm (n : Int)) ∧ IwF w0 u w') := Lib.hid fun u bs' h1 h2 => by
  rw [← HP.out]
  exact iw_num (n : Int) ⟨by omega,by omega⟩ bs' w0 u h1 h2
 have HCo : Hid (∀ (r : Sn.T),r ∈ rs → ∀ u bs',IwE w0 u bs' → bs'.length ≤ 900000 → Calls Tryz.prog 42 #[.pointer (some ⟨p,0,none⟩),.agg #[.int .i64 r.id,.int .i64 r.last,.int .i64 r.why,.int .i64 r.num,.int .i64 r.gross]] u fun e w' => e = .returned (.tuple #[]) ∧ IwE w0 w' (bs' ++ Im.sessB r) ∧ IwF w0 u w') := Lib.hid fun r hr u bs' h1 h2 => by
  rw [← HP.out]
  exact iw_session r (HK.out r hr) bs' w0 u h1 h2
 rw [hp]
 clear hL hk hm hW hp
 go_enter Tryz.func41,Tryz.ntmps41
 go_wp2_with fail
 refine (HNu.out w bs HW.out (by have := HM.out; omega)).mono ?_
 rintro e w1 ⟨rfl,i1,f1⟩
 have HI1 := Lib.hid i1
 have HF1 := Lib.hid f1
 clear i1 f1
 go_wp2_with fail
 go_loopw [7,14] (fun _ j wr => ∃ k : Nat,k ≤ n ∧ j = .int .i64 k ∧ Hid (IwE w0 wr (bs ++ nm (n : Int) ++ Im.itemsB Im.sessB (rs.take k))) ∧ Hid (IwF w0 w wr)) (fun _ j _ => n - (intOf j).toNat)
 case atStart => exact ⟨0,by omega,rfl,Lib.hid (by rw [List.take_zero,Im.itemsB,List.append_nil]; exact HI1.out),HF1⟩
 case round =>
  clear HI1 HF1
  rename World => wz
  obtain ⟨k,hk,rfl,HI,HF⟩ := hrel
  by_cases hlt : k < n
  ·
   obtain ⟨b,off,rfl⟩ := HL.out.at (by omega)
   have hkl : k < rs.length := HN.out ▸ hlt
   have hrow := (HL.out.row k hkl).below HI.out.bel
   have HT := Lib.hid (Im.items_take Im.sessB hkl)
   have HMe := Lib.hid (List.getElem_mem hkl)
   have HLe : Hid ((bs ++ nm (n : Int) ++ Im.itemsB Im.sessB (rs.take k)).length ≤ 900000) := Lib.hid (by
    have h1 := Im.items_max (B := Im.sessB) (M := 60) (l := rs.take k) fun a ha => Im.Sn_max a (HK.out a (List.mem_of_mem_take ha))
    have h2 := nm_10 (n : Int)
    have h3 := HM.out
    rw [List.length_take] at h1
    rw [List.length_append,List.length_append]
    have h4 : min k rs.length * 60 ≤ 30 * 60 := Nat.mul_le_mul_right _ (by omega)
    omega)
   obtain ⟨r,hr⟩ : ∃ r,rs[k] = r := ⟨_,rfl⟩
   rw [hr] at hrow HT HMe
   clear hr
   obtain ⟨r0,r1,r2,r3,r4⟩ := hrow
   obtain ⟨hI,hF⟩ := HI.out.boxed (.cells #[.int .i64 r.id,.int .i64 r.last,.int .i64 r.why,.int .i64 r.num,.int .i64 r.gross] 73)
   obtain ⟨U,hU⟩ : ∃ U,wz.alloc (.cells #[.int .i64 r.id,.int .i64 r.last,.int .i64 r.why,.int .i64 r.num,.int .i64 r.gross] 73) = U := ⟨_,rfl⟩
   rw [hU] at hI hF
   have HIb := Lib.hid hI
   have HFb := Lib.hid hF
   have c0 := hI.cell 0
   have c1 := hI.cell 1
   have c2 := hI.cell 2
   have c3 := hI.cell 3
   have c4 := hI.cell 4
   simp only [List.getElem?_toArray,List.getElem?_cons_zero,List.getElem?_cons_succ] at c0 c1 c2 c3 c4
   clear hI hF
   go_wp2_with fail
   refine (HCo.out r HMe.out U _ HIb.out.wr HLe.out).mono ?_
   rintro e w3 ⟨rfl,i3,f3⟩
   have HI3 := Lib.hid i3
   have HF3 := Lib.hid ((HF.out.trans HFb.out).trans f3)
   clear i3 f3 hU r0 r1 r2 r3 r4 c0 c1 c2 c3 c4
   go_wp2_with fail
   go_roundw
   case rel =>
    refine ⟨k + 1,by omega,by go_num,Lib.hid ?_,HF3⟩
    rw [HT.out,← List.append_assoc]
    exact HI3.out
   case measure => simp [intOf]; omega
  ·
   obtain rfl : k = n := by omega
   have HE : Hid (IwE w0 wz (bs ++ Im.listB Im.sessB rs)) := Lib.hid (by
    have h := HI.out
    rw [List.take_of_length_le (Nat.le_of_eq HN.out.symm),List.append_assoc,HN.out] at h
    exact h)
   go_wp2_with fail
   go_end0
   exact ⟨rfl,HE.out,HF.out⟩
end Go.Proofs.YtillcleccjgocaaGreat
namespace Go.Proofs.YtillcleccjgocaaGreat
open Go.RowKit
open Mem Pk Cm
theorem tx_64 (s : ByteArray) (hs : s.size ≤ 64) : (tx s).length ≤ 74 := by
 unfold tx
 rw [List.length_append]
 have := nm_10 (s.size : Int)
 have e : (txt s).length = s.size := by unfold txt; rw [Array.length_toList]; rfl
 omega
theorem day_3 (y m d : Int) : (Cm.dayB y m d).length ≤ 30 := by
 unfold Cm.dayB
 rw [List.length_append,List.length_append]
 have := nm_10 y
 have := nm_10 m
 have := nm_10 d
 omega
def Im.PtO (x : Pt.T) : Prop := x.cat.size ≤ 64 ∧ Fit x.bp ∧ Fit x.net
structure Im.PsO (p : Bl.Ps) : Prop where
 ser : p.ser.size ≤ 64
 day : Fit p.y ∧ Fit p.m ∧ Fit p.d
 ofS : p.ofS.size ≤ 64
 ofN : Fit p.ofN
 few : p.tot.parts.length ≤ 12
 parts : ∀ x ∈ p.tot.parts,Im.PtO x
theorem Im.part_94 (x : Pt.T) (h : Im.PtO x) : (Im.partB x).length ≤ 94 := by
 unfold Im.partB
 simp only [List.length_append]
 have := tx_64 x.cat h.1
 have := nm_10 x.bp
 have := nm_10 x.net
 omega
theorem Im.parts_max (l : List Pt.T) (hl : l.length ≤ 12) (h : ∀ x ∈ l,Im.PtO x) : (Im.listB Im.partB l).length ≤ 1138 := by
 unfold Im.listB
 rw [List.length_append]
 have h1 := nm_10 (l.length : Int)
 have h2 := Im.items_max (B := Im.partB) (M := 94) (l := l) fun a ha => Im.part_94 a (h a ha)
 have h3 : l.length * 94 ≤ 12 * 94 := Nat.mul_le_mul_right _ hl
 omega
theorem Im.post_max (p : Bl.Ps) (h : Im.PsO p) : (Im.postB p).length ≤ 1400 := by
 unfold Im.postB
 simp only [List.length_append]
 have := tx_64 p.ser h.ser
 have := day_3 p.y p.m p.d
 have := tx_64 p.ofS h.ofS
 have := nm_10 p.ofN
 have := Im.parts_max p.tot.parts h.few h.parts
 omega
set_option maxHeartbeats 2000000 in
theorem iw_posted (r : Pd.T) (p : Bl.Ps) (BS : List UInt8) (w0 w : World) (hE : Bl.IsP w0 r p) (hO : Im.PsO p) (hW : IwE w0 w BS) (hm : BS.length ≤ 790000) :
  Calls Tryz.prog 40 #[.pointer (some ⟨w0.heap.size,0,none⟩),Pd.val r] w fun e w' => e = .returned (.tuple #[]) ∧ IwE w0 w' (BS ++ Im.postB p) ∧ IwF w0 w w' := by
 have HW := Lib.hid hW
 have HM := Lib.hid hm
 have HE := Lib.hid hE
 have HO := Lib.hid hO
 clear hW hm hE hO
 unfold Pd.val
 obtain ⟨hI,hF⟩ := HW.out.boxed (.cells #[.string r.ser,.int .i64 r.num,.int .i64 r.y,.int .i64 r.m,.int .i64 r.d,.int .i64 r.net,.int .i64 r.tax,.int .i64 r.gross,.slice r.parts.ao r.parts.n r.parts.cap,.string r.ofS,.int .i64 r.ofN,.bool r.back] 100)
 obtain ⟨U,hU⟩ : ∃ U,w.alloc (.cells #[.string r.ser,.int .i64 r.num,.int .i64 r.y,.int .i64 r.m,.int .i64 r.d,.int .i64 r.net,.int .i64 r.tax,.int .i64 r.gross,.slice r.parts.ao r.parts.n r.parts.cap,.string r.ofS,.int .i64 r.ofN,.bool r.back] 100) = U := ⟨_,rfl⟩
 rw [hU] at hI hF
 have HI0 := Lib.hid hI
 have HF0 := Lib.hid hF
 obtain ⟨g,hg⟩ : ∃ g,w.heap.size = g := ⟨_,rfl⟩
 rw [hg] at HI0
 have c0 := HI0.out.cell 0
 have c1 := HI0.out.cell 1
 have c2 := HI0.out.cell 2
 have c3 := HI0.out.cell 3
 have c4 := HI0.out.cell 4
 have c5 := HI0.out.cell 5
 have c6 := HI0.out.cell 6
 have c7 := HI0.out.cell 7
 have c8 := HI0.out.cell 8
 have c9 := HI0.out.cell 9
 have c10 := HI0.out.cell 10
 have c11 := HI0.out.cell 11
 simp only [List.getElem?_toArray,List.getElem?_cons_zero,List.getElem?_cons_succ] at c0 c1 c2 c3 c4 c5 c6 c7 c8 c9 c10 c11
 clear hI hF
 go_enter Tryz.func40,Tryz.ntmps40
 go_wp2_with fail
 try rw [hU]
 try rw [hg]
 clear hU hg
 refine (iw_text r.ser (by have := HO.out.ser; rw [HE.out.ser]; omega) BS w0 U (HI0.out.wr) (by have := HM.out; first | omega | (simp only [List.length_append]; omega))).mono ?_
 rintro e w1 ⟨rfl,i1,f1⟩
 have HI1 := Lib.hid (HI0.out.next i1 f1)
 have HF1 := Lib.hid (HF0.out.trans f1)
 have HL1 : Hid ((tx r.ser).length ≤ 74) := Lib.hid (tx_64 _ (by rw [HE.out.ser]; exact HO.out.ser))
 clear c0 c1 c2 c3 c4 c5 c6 c7 c8 c9 c10 c11 i1 f1
 have c0 := HI1.out.cell 0
 have c1 := HI1.out.cell 1
 have c2 := HI1.out.cell 2
 have c3 := HI1.out.cell 3
 have c4 := HI1.out.cell 4
 have c5 := HI1.out.cell 5
 have c6 := HI1.out.cell 6
 have c7 := HI1.out.cell 7
 have c8 := HI1.out.cell 8
 have c9 := HI1.out.cell 9
 have c10 := HI1.out.cell 10
 have c11 := HI1.out.cell 11
 simp only [List.getElem?_toArray,List.getElem?_cons_zero,List.getElem?_cons_succ] at c0 c1 c2 c3 c4 c5 c6 c7 c8 c9 c10 c11
 go_wp2_with fail
 refine (iw_day r.y r.m r.d (by rw [HE.out.y,HE.out.m,HE.out.d]; exact HO.out.day) (BS ++ tx r.ser) w0 w1 (HI1.out.wr) (by have := HM.out; have := HL1.out; first | omega | (simp only [List.length_append]; omega))).mono ?_
 rintro e w2 ⟨rfl,i2,f2⟩
 have HI2 := Lib.hid (HI1.out.next i2 f2)
 have HF2 := Lib.hid (HF1.out.trans f2)
 have HL2 : Hid ((Cm.dayB r.y r.m r.d).length ≤ 30) := Lib.hid (day_3 _ _ _)
 clear c0 c1 c2 c3 c4 c5 c6 c7 c8 c9 c10 c11 i2 f2
 have c0 := HI2.out.cell 0
 have c1 := HI2.out.cell 1
 have c2 := HI2.out.cell 2
 have c3 := HI2.out.cell 3
 have c4 := HI2.out.cell 4
 have c5 := HI2.out.cell 5
 have c6 := HI2.out.cell 6
 have c7 := HI2.out.cell 7
 have c8 := HI2.out.cell 8
 have c9 := HI2.out.cell 9
 have c10 := HI2.out.cell 10
 have c11 := HI2.out.cell 11
 simp only [List.getElem?_toArray,List.getElem?_cons_zero,List.getElem?_cons_succ] at c0 c1 c2 c3 c4 c5 c6 c7 c8 c9 c10 c11
 go_wp2_with fail
 refine (iw_text r.ofS (by have := HO.out.ofS; rw [HE.out.ofS]; omega) ((BS ++ tx r.ser) ++ Cm.dayB r.y r.m r.d) w0 w2 (HI2.out.wr) (by have := HM.out; have := HL1.out; have := HL2.out; first | omega | (simp only [List.length_append]; omega))).mono ?_
 rintro e w3 ⟨rfl,i3,f3⟩
 have HI3 := Lib.hid (HI2.out.next i3 f3)
 have HF3 := Lib.hid (HF2.out.trans f3)
 have HL3 : Hid ((tx r.ofS).length ≤ 74) := Lib.hid (tx_64 _ (by rw [HE.out.ofS]; exact HO.out.ofS))
 clear c0 c1 c2 c3 c4 c5 c6 c7 c8 c9 c10 c11 i3 f3
 have c0 := HI3.out.cell 0
 have c1 := HI3.out.cell 1
 have c2 := HI3.out.cell 2
 have c3 := HI3.out.cell 3
 have c4 := HI3.out.cell 4
 have c5 := HI3.out.cell 5
 have c6 := HI3.out.cell 6
 have c7 := HI3.out.cell 7
 have c8 := HI3.out.cell 8
 have c9 := HI3.out.cell 9
 have c10 := HI3.out.cell 10
 have c11 := HI3.out.cell 11
 simp only [List.getElem?_toArray,List.getElem?_cons_zero,List.getElem?_cons_succ] at c0 c1 c2 c3 c4 c5 c6 c7 c8 c9 c10 c11
 go_wp2_with fail
 refine (iw_num r.ofN (by rw [HE.out.ofN]; exact HO.out.ofN) (((BS ++ tx r.ser) ++ Cm.dayB r.y r.m r.d) ++ tx r.ofS) w0 w3 (HI3.out.wr) (by have := HM.out; have := HL1.out; have := HL2.out; have := HL3.out; first | omega | (simp only [List.length_append]; omega))).mono ?_
 rintro e w4 ⟨rfl,i4,f4⟩
 have HI4 := Lib.hid (HI3.out.next i4 f4)
 have HF4 := Lib.hid (HF3.out.trans f4)
 have HL4 : Hid ((nm r.ofN).length ≤ 10) := Lib.hid (nm_10 _)
 clear c0 c1 c2 c3 c4 c5 c6 c7 c8 c9 c10 c11 i4 f4
 have c0 := HI4.out.cell 0
 have c1 := HI4.out.cell 1
 have c2 := HI4.out.cell 2
 have c3 := HI4.out.cell 3
 have c4 := HI4.out.cell 4
 have c5 := HI4.out.cell 5
 have c6 := HI4.out.cell 6
 have c7 := HI4.out.cell 7
 have c8 := HI4.out.cell 8
 have c9 := HI4.out.cell 9
 have c10 := HI4.out.cell 10
 have c11 := HI4.out.cell 11
 simp only [List.getElem?_toArray,List.getElem?_cons_zero,List.getElem?_cons_succ] at c0 c1 c2 c3 c4 c5 c6 c7 c8 c9 c10 c11
 go_wp2_with fail
 refine (iw_listPt p.tot.parts r.parts.ao r.parts.n r.parts.cap ((((BS ++ tx r.ser) ++ Cm.dayB r.y r.m r.d) ++ tx r.ofS) ++ nm r.ofN) w0 w4 (HI4.out.wr) HE.out.parts (fun x hx => ⟨by have := (HO.out.parts x hx).1; omega,(HO.out.parts x hx).2⟩) (by have := HE.out.parts.len; have := HO.out.few; omega) (by have := HM.out; have := HL1.out; have := HL2.out; have := HL3.out; have := HL4.out; first | omega | (simp only [List.length_append]; omega))).mono ?_
 rintro e w5 ⟨rfl,i5,f5⟩
 have HI5 := Lib.hid (HI4.out.next i5 f5)
 have HF5 := Lib.hid (HF4.out.trans f5)
 have HL5 : Hid ((Im.listB Im.partB p.tot.parts).length ≤ 1138) := Lib.hid (Im.parts_max _ HO.out.few HO.out.parts)
 clear c0 c1 c2 c3 c4 c5 c6 c7 c8 c9 c10 c11 i5 f5
 go_wp2_with fail
 go_end0
 refine ⟨rfl,?_,HF5.out⟩
 have h := HI5.out.wr
 rw [HE.out.ser,HE.out.y,HE.out.m,HE.out.d,HE.out.ofS,HE.out.ofN] at h
 unfold Im.postB
 simpa only [List.append_assoc] using h
set_option maxHeartbeats 2000000 in
theorem iw_listPd (ps : List Bl.Ps) (rs : List Pd.T) (ao : Option Addr) (n cap : Nat) (bs : List UInt8) (w0 w : World) (hW : IwE w0 w bs) (hL : Pd.Ls w0 ao n cap rs) (hE : Bl.Each w0 rs ps) (hk : ∀ p ∈ ps,Im.PsO p) (hn : n ≤ 40) (hm : bs.length ≤ 700000) :
  Calls Tryz.prog 39 #[.pointer (some ⟨w0.heap.size,0,none⟩),.slice ao n cap,.func (.func 40) #[.pointer (some ⟨w0.heap.size,0,none⟩)] #[]] w fun e w' => e = .returned (.tuple #[]) ∧ IwE w0 w' (bs ++ Im.listB Im.postB ps) ∧ IwF w0 w w' := by
 have HL := Lib.hid hL
 have HN := Lib.hid hL.len
 have HE := Lib.hid hE
 have HK := Lib.hid hk
 have HM := Lib.hid hm
 have HW := Lib.hid hW
 have hcap := hL.reach
 have hfit := hL.fits
 obtain ⟨p0,hp⟩ : ∃ p0,w0.heap.size = p0 := ⟨_,rfl⟩
 have HP := Lib.hid hp
 have HNu : Hid (∀ u bs',IwE w0 u bs' → bs'.length ≤ 1000000 → Calls Tryz.prog 43 #[.pointer (some ⟨p0,0,none⟩),.int .i64 (n : Int)] u fun e w' => e = .returned (.tuple #[]) ∧ IwE w0 w' (bs' ++ nm (n : Int)) ∧ IwF w0 u w') := Lib.hid fun u bs' h1 h2 => by
  rw [← HP.out]
  exact iw_num (n : Int) ⟨by omega,by omega⟩ bs' w0 u h1 h2
 have HCo : Hid (∀ (r : Pd.T) (p : Bl.Ps),p ∈ ps → Bl.IsP w0 r p → ∀ u bs',IwE w0 u bs' → bs'.length ≤ 790000 → Calls Tryz.prog 40 #[.pointer (some ⟨p0,0,none⟩),Pd.val r] u fun e w' => e = .returned (.tuple #[]) ∧ IwE w0 w' (bs' ++ Im.postB p) ∧ IwF w0 u w') := Lib.hid fun r p hr hi u bs' h1 h2 => by
  rw [← HP.out]
  exact iw_posted r p bs' w0 u hi (HK.out p hr) h1 h2
 rw [hp]
 clear hL hk hm hW hp hE
 go_enter Tryz.func39,Tryz.ntmps39
 go_wp2_with fail
 refine (HNu.out w bs HW.out (by have := HM.out; omega)).mono ?_
 rintro e w1 ⟨rfl,i1,f1⟩
 have HI1 := Lib.hid i1
 have HF1 := Lib.hid f1
 clear i1 f1
 go_wp2_with fail
 go_loopw [7,14] (fun _ j wr => ∃ k : Nat,k ≤ n ∧ j = .int .i64 k ∧ Hid (IwE w0 wr (bs ++ nm (n : Int) ++ Im.itemsB Im.postB (ps.take k))) ∧ Hid (IwF w0 w wr)) (fun _ j _ => n - (intOf j).toNat)
 case atStart => exact ⟨0,by omega,rfl,Lib.hid (by rw [List.take_zero,Im.itemsB,List.append_nil]; exact HI1.out),HF1⟩
 case round =>
  clear HI1 HF1
  rename World => wz
  obtain ⟨k,hk,rfl,HI,HF⟩ := hrel
  by_cases hlt : k < n
  ·
   obtain ⟨b,off,rfl⟩ := HL.out.at (by omega)
   have hkl : k < rs.length := HN.out ▸ hlt
   have hkp : k < ps.length := HE.out.len ▸ hkl
   have hrow := (HL.out.row k hkl).below HI.out.bel
   have HT := Lib.hid (Im.items_take Im.postB hkp)
   have HMe := Lib.hid (List.getElem_mem hkp)
   have HIs := Lib.hid (HE.out.each k hkl)
   have HLe : Hid ((bs ++ nm (n : Int) ++ Im.itemsB Im.postB (ps.take k)).length ≤ 790000) := Lib.hid (by
    have h1 := Im.items_max (B := Im.postB) (M := 1400) (l := ps.take k) fun a ha => Im.post_max a (HK.out a (List.mem_of_mem_take ha))
    have h2 := nm_10 (n : Int)
    have h3 := HM.out
    rw [List.length_take] at h1
    rw [List.length_append,List.length_append]
    have h4 : min k ps.length * 1400 ≤ 40 * 1400 := Nat.mul_le_mul_right _ (by omega)
    omega)
   obtain ⟨r,hr⟩ : ∃ r,rs[k] = r := ⟨_,rfl⟩
   obtain ⟨q,hq⟩ : ∃ q,ps[k] = q := ⟨_,rfl⟩
   rw [hr] at hrow HIs
   rw [hq] at HT HMe HIs
   clear hr hq
   obtain ⟨hI,hF⟩ := HI.out.boxed (Pd.block r)
   have HIb : Hid (Ib w0 (Pd.box wz r) (bs ++ nm (n : Int) ++ Im.itemsB Im.postB (ps.take k)) wz.heap.size (Pd.block r)) := Lib.hid hI
   have HFb : Hid (IwF w0 wz (Pd.box wz r)) := Lib.hid hF
   have hC := Pd.c_box wz r
   clear hI hF
   go_wp2_with (first | ((with_reducible apply Pd.wpl_load hrow); rfl; rfl; rfl) | ((with_reducible apply Pd.wpl_store (r := r) (g := wz.heap.size)); rfl; rfl; rfl; rfl; rfl; rfl) | ((with_reducible apply Pd.wpl_loadC hC); rfl; rfl; rfl))
   refine (HCo.out r q HMe.out HIs.out _ _ HIb.out.wr HLe.out).mono ?_
   rintro e w3 ⟨rfl,i3,f3⟩
   have HI3 := Lib.hid i3
   have HF3 := Lib.hid ((HF.out.trans HFb.out).trans f3)
   clear i3 f3 hrow hC
   go_wp2_with fail
   go_roundw
   case rel =>
    refine ⟨k + 1,by omega,by go_num,Lib.hid ?_,HF3⟩
    rw [HT.out,← List.append_assoc]
    exact HI3.out
   case measure => simp [intOf]; omega
  ·
   obtain rfl : k = n := by omega
   have HR : Hid (IwE w0 wz (bs ++ Im.listB Im.postB ps)) := Lib.hid (by
    have h := HI.out
    have e : k = ps.length := by have := HN.out; have := HE.out.len; omega
    rw [List.take_of_length_le (Nat.le_of_eq e.symm),List.append_assoc,e] at h
    exact h)
   go_wp2_with fail
   go_end0
   exact ⟨rfl,HR.out,HF.out⟩
structure Im.StO (s : Bl.St) : Prop where
 tab : s.tab.length ≤ 24 ∧ ∀ r ∈ s.tab,r.cat.size ≤ 64 ∧ Fit r.y ∧ Fit r.m ∧ Fit r.d ∧ Fit r.bp
 ser : s.ser.length ≤ 8 ∧ ∀ r ∈ s.ser,r.name.size ≤ 64 ∧ Fit r.limit
 post : s.post.length ≤ 40 ∧ ∀ p ∈ s.post,Im.PsO p
 sess : s.sess.length ≤ 8 ∧ ∀ x ∈ s.sess,Fit x.id ∧ Fit x.last ∧ Fit x.why ∧ Fit x.num ∧ Fit x.gross
 next : Fit s.next
theorem Im.list_max {α : Type} {B : α → List UInt8} {M N : Nat} {l : List α} (hl : l.length ≤ N) (h : ∀ a ∈ l,(B a).length ≤ M) : (Im.listB B l).length ≤ 10 + N * M := by
 unfold Im.listB
 rw [List.length_append]
 have h1 := nm_10 (l.length : Int)
 have h2 := Im.items_max h
 have h3 : l.length * M ≤ N * M := Nat.mul_le_mul_right _ hl
 omega
set_option maxHeartbeats 2000000 in
theorem iw_state (h : Bl.Sv) (s : Bl.St) (BS : List UInt8) (w0 w : World) (hL : Bl.Lies w0 h s) (hO : Im.StO s) (hW : IwE w0 w BS) (hm : BS.length ≤ 100000) :
  Calls Tryz.prog 15 #[.pointer (some ⟨w0.heap.size,0,none⟩),h.val] w fun e w' => e = .returned (.tuple #[]) ∧ IwE w0 w' (BS ++ Im.stB s) ∧ IwF w0 w w' := by
 have HW := Lib.hid hW
 have HM := Lib.hid hm
 have HLs := Lib.hid hL
 have HO := Lib.hid hO
 have HRs := Lib.hid hL.post
 clear hW hm hL hO
 unfold Bl.Sv.val Bl.sl
 obtain ⟨hI,hF⟩ := HW.out.boxed (.cells #[.slice h.tab.ao h.tab.n h.tab.cap,.slice h.ser.ao h.ser.n h.ser.cap,.slice h.post.ao h.post.n h.post.cap,.slice h.book.ao h.book.n h.book.cap,.slice h.sess.ao h.sess.n h.sess.cap,.int .i64 h.next] 30)
 obtain ⟨U,hU⟩ : ∃ U,w.alloc (.cells #[.slice h.tab.ao h.tab.n h.tab.cap,.slice h.ser.ao h.ser.n h.ser.cap,.slice h.post.ao h.post.n h.post.cap,.slice h.book.ao h.book.n h.book.cap,.slice h.sess.ao h.sess.n h.sess.cap,.int .i64 h.next] 30) = U := ⟨_,rfl⟩
 rw [hU] at hI hF
 have HI0 := Lib.hid hI
 have HF0 := Lib.hid hF
 obtain ⟨g,hg⟩ : ∃ g,w.heap.size = g := ⟨_,rfl⟩
 rw [hg] at HI0
 have c0 := HI0.out.cell 0
 have c1 := HI0.out.cell 1
 have c2 := HI0.out.cell 2
 have c3 := HI0.out.cell 3
 have c4 := HI0.out.cell 4
 have c5 := HI0.out.cell 5
 simp only [List.getElem?_toArray,List.getElem?_cons_zero,List.getElem?_cons_succ] at c0 c1 c2 c3 c4 c5
 clear hI hF
 go_enter Tryz.func15,Tryz.ntmps15
 go_wp2_with fail
 try rw [hU]
 try rw [hg]
 clear hU hg
 refine (iw_listRt s.tab h.tab.ao h.tab.n h.tab.cap BS w0 U (HI0.out.wr) HLs.out.tab (fun r hr => ⟨by have := (HO.out.tab.2 r hr).1; omega,(HO.out.tab.2 r hr).2⟩) (by have := HLs.out.tab.len; have := HO.out.tab.1; omega) (by have := HM.out; first | omega | (simp only [List.length_append]; omega))).mono ?_
 rintro e w1 ⟨rfl,i1,f1⟩
 have HI1 := Lib.hid (HI0.out.next i1 f1)
 have HF1 := Lib.hid (HF0.out.trans f1)
 have HL1 : Hid ((Im.listB Im.rateB s.tab).length ≤ 60000) := Lib.hid (Nat.le_trans (Im.list_max (N := 24) (M := 2200) HO.out.tab.1 fun r hr => Im.Rt_max r ⟨by have := (HO.out.tab.2 r hr).1; omega,(HO.out.tab.2 r hr).2⟩) (by omega))
 clear c0 c1 c2 c3 c4 c5 i1 f1
 have c0 := HI1.out.cell 0
 have c1 := HI1.out.cell 1
 have c2 := HI1.out.cell 2
 have c3 := HI1.out.cell 3
 have c4 := HI1.out.cell 4
 have c5 := HI1.out.cell 5
 simp only [List.getElem?_toArray,List.getElem?_cons_zero,List.getElem?_cons_succ] at c0 c1 c2 c3 c4 c5
 go_wp2_with fail
 refine (iw_listSr s.ser h.ser.ao h.ser.n h.ser.cap (BS ++ Im.listB Im.rateB s.tab) w0 w1 (HI1.out.wr) HLs.out.ser (fun r hr => ⟨by have := (HO.out.ser.2 r hr).1; omega,(HO.out.ser.2 r hr).2⟩) (by have := HLs.out.ser.len; have := HO.out.ser.1; omega) (by have := HM.out; have := HL1.out; first | omega | (simp only [List.length_append]; omega))).mono ?_
 rintro e w2 ⟨rfl,i2,f2⟩
 have HI2 := Lib.hid (HI1.out.next i2 f2)
 have HF2 := Lib.hid (HF1.out.trans f2)
 have HL2 : Hid ((Im.listB Im.serB s.ser).length ≤ 10000) := Lib.hid (Nat.le_trans (Im.list_max (N := 8) (M := 1100) HO.out.ser.1 fun r hr => Im.Sr_max r ⟨by have := (HO.out.ser.2 r hr).1; omega,(HO.out.ser.2 r hr).2⟩) (by omega))
 clear c0 c1 c2 c3 c4 c5 i2 f2
 have c0 := HI2.out.cell 0
 have c1 := HI2.out.cell 1
 have c2 := HI2.out.cell 2
 have c3 := HI2.out.cell 3
 have c4 := HI2.out.cell 4
 have c5 := HI2.out.cell 5
 simp only [List.getElem?_toArray,List.getElem?_cons_zero,List.getElem?_cons_succ] at c0 c1 c2 c3 c4 c5
 go_wp2_with fail
 refine (iw_listPd s.post HRs.out.choose h.post.ao h.post.n h.post.cap ((BS ++ Im.listB Im.rateB s.tab) ++ Im.listB Im.serB s.ser) w0 w2 (HI2.out.wr) HRs.out.choose_spec.1 HRs.out.choose_spec.2 HO.out.post.2 (by have := HRs.out.choose_spec.1.len; have := HRs.out.choose_spec.2.len; have := HO.out.post.1; omega) (by have := HM.out; have := HL1.out; have := HL2.out; first | omega | (simp only [List.length_append]; omega))).mono ?_
 rintro e w3 ⟨rfl,i3,f3⟩
 have HI3 := Lib.hid (HI2.out.next i3 f3)
 have HF3 := Lib.hid (HF2.out.trans f3)
 have HL3 : Hid ((Im.listB Im.postB s.post).length ≤ 60000) := Lib.hid (Nat.le_trans (Im.list_max (N := 40) (M := 1400) HO.out.post.1 fun p hp => Im.post_max p (HO.out.post.2 p hp)) (by omega))
 clear c0 c1 c2 c3 c4 c5 i3 f3
 have c0 := HI3.out.cell 0
 have c1 := HI3.out.cell 1
 have c2 := HI3.out.cell 2
 have c3 := HI3.out.cell 3
 have c4 := HI3.out.cell 4
 have c5 := HI3.out.cell 5
 simp only [List.getElem?_toArray,List.getElem?_cons_zero,List.getElem?_cons_succ] at c0 c1 c2 c3 c4 c5
 go_wp2_with fail
 refine (iw_listSn s.sess h.sess.ao h.sess.n h.sess.cap (((BS ++ Im.listB Im.rateB s.tab) ++ Im.listB Im.serB s.ser) ++ Im.listB Im.postB s.post) w0 w3 (HI3.out.wr) HLs.out.sess HO.out.sess.2 (by have := HLs.out.sess.len; have := HO.out.sess.1; omega) (by have := HM.out; have := HL1.out; have := HL2.out; have := HL3.out; first | omega | (simp only [List.length_append]; omega))).mono ?_
 rintro e w4 ⟨rfl,i4,f4⟩
 have HI4 := Lib.hid (HI3.out.next i4 f4)
 have HF4 := Lib.hid (HF3.out.trans f4)
 have HL4 : Hid ((Im.listB Im.sessB s.sess).length ≤ 1000) := Lib.hid (Nat.le_trans (Im.list_max (N := 8) (M := 60) HO.out.sess.1 fun x hx => Im.Sn_max x (HO.out.sess.2 x hx)) (by omega))
 clear c0 c1 c2 c3 c4 c5 i4 f4
 have c0 := HI4.out.cell 0
 have c1 := HI4.out.cell 1
 have c2 := HI4.out.cell 2
 have c3 := HI4.out.cell 3
 have c4 := HI4.out.cell 4
 have c5 := HI4.out.cell 5
 simp only [List.getElem?_toArray,List.getElem?_cons_zero,List.getElem?_cons_succ] at c0 c1 c2 c3 c4 c5
 go_wp2_with fail
 refine (iw_num h.next (by rw [HLs.out.next]; exact HO.out.next) ((((BS ++ Im.listB Im.rateB s.tab) ++ Im.listB Im.serB s.ser) ++ Im.listB Im.postB s.post) ++ Im.listB Im.sessB s.sess) w0 w4 (HI4.out.wr) (by have := HM.out; have := HL1.out; have := HL2.out; have := HL3.out; have := HL4.out; first | omega | (simp only [List.length_append]; omega))).mono ?_
 rintro e w5 ⟨rfl,i5,f5⟩
 have HI5 := Lib.hid (HI4.out.next i5 f5)
 have HF5 := Lib.hid (HF4.out.trans f5)
 have HL5 : Hid ((nm h.next).length ≤ 10) := Lib.hid (nm_10 _)
 clear c0 c1 c2 c3 c4 c5 i5 f5
 go_wp2_with fail
 go_end0
 refine ⟨rfl,?_,HF5.out⟩
 have h := HI5.out.wr
 rw [HLs.out.next] at h
 unfold Im.stB
 simpa only [List.append_assoc] using h
end Go.Proofs.YtillcleccjgocaaGreat
namespace Go.Proofs.YtillcleccjgocaaGreat
open Go.RowKit
open Mem
open Go.Sort (grow)
set_option maxHeartbeats 8000000 in
theorem bil_right_any (s : Bl.St) (h : Bl.Sv) (w0 w : World) (hw : Below w0.heap.size w0 w) (hL : Bl.Lies w h s) :
  Calls Tryz.prog 14 #[h.val] w (Bl.YesE w0 (Bl.Right s)) := by
 have HW := Lib.hid hw
 have HL := Lib.hid hL
 have HX := Lib.hid hL.next
 obtain ⟨rs,hP,hE⟩ := hL.post
 have HP := Lib.hid hP
 have HE := Lib.hid hE
 have HN : Hid (h.post.n = s.post.length) := Lib.hid (by have := hP.len; have := hE.len; omega)
 have hcap := hP.reach
 have hfit := hP.fits
 obtain ⟨U,hU⟩ : ∃ U,w.alloc (.cells #[.slice h.tab.ao h.tab.n h.tab.cap,.slice h.ser.ao h.ser.n h.ser.cap,.slice h.post.ao h.post.n h.post.cap,.slice h.book.ao h.book.n h.book.cap,.slice h.sess.ao h.sess.n h.sess.cap,.int .i64 h.next] 30) = U := ⟨_,rfl⟩
 obtain ⟨hB,k0,hs⟩ := Bl.al1 w (.cells #[.slice h.tab.ao h.tab.n h.tab.cap,.slice h.ser.ao h.ser.n h.ser.cap,.slice h.post.ao h.post.n h.post.cap,.slice h.book.ao h.book.n h.book.cap,.slice h.sess.ao h.sess.n h.sess.cap,.int .i64 h.next] 30)
 rw [hU] at hB k0 hs
 have hA : Bl.At U w.heap.size h := k0
 have HA0 := Lib.hid hA
 have HB0 := Lib.hid hB
 obtain ⟨x0,x1,x2,x3,x4,x5⟩ := hA.cells
 clear k0 hL hP hE hw hB hs hA
 unfold Bl.Sv.val Bl.sl
 go_enter Tryz.func14,Tryz.ntmps14
 go_wp2_with fail
 clear hU
 refine (vat_right s.tab h.tab.ao h.tab.n h.tab.cap U U (Below.refl _ _) (HL.out.tab.below HB0.out)).mono ?_
 rintro e w1 ⟨rfl,b1⟩
 have HB1 := Lib.hid (bchain HB0.out b1)
 have HA1 := Lib.hid (HA0.out.below b1)
 clear b1 x0 x1 x2 x3 x4 x5
 cases hq : Vt.tableB s.tab
 ·
  have HNo : Hid (¬ Bl.Right s) := Lib.hid fun z => by have l := ((Bl.landed_iff s).2 z).tab; rw [hq] at l; cases l
  clear hq
  go_wp2_with fail
  go_ret
  exact ⟨.inr ⟨HNo.out,rfl⟩,bchain HW.out HB1.out⟩
 ·
  have HQ1 := Lib.hid hq
  clear hq
  obtain ⟨x0,x1,x2,x3,x4,x5⟩ := HA1.out.cells
  go_wp2_with fail
  refine (ser_right s.ser h.ser.ao h.ser.n h.ser.cap w1 w1 (Below.refl _ _) (HL.out.ser.below HB1.out)).mono ?_
  rintro e w2 ⟨rfl,b2⟩
  have HB2 := Lib.hid (bchain HB1.out b2)
  have HA2 := Lib.hid (HA1.out.below b2)
  clear b2 x0 x1 x2 x3 x4 x5
  cases hq : Se.rightB s.ser
  ·
   have HNo : Hid (¬ Bl.Right s) := Lib.hid fun z => by have l := ((Bl.landed_iff s).2 z).ser; rw [hq] at l; cases l
   clear hq
   go_wp2_with fail
   go_ret
   exact ⟨.inr ⟨HNo.out,rfl⟩,bchain HW.out HB2.out⟩
  ·
   have HQ2 := Lib.hid hq
   clear hq
   obtain ⟨x0,x1,x2,x3,x4,x5⟩ := HA2.out.cells
   go_wp2_with fail
   refine (bil_attended s.sess h.next h.sess.ao h.sess.n h.sess.cap w2 w2 (Below.refl _ _) (HL.out.sess.below HB2.out)).mono ?_
   rintro e w3 ⟨hcase,b3⟩
   have HB3 := Lib.hid (bchain HB2.out b3)
   have HA3 := Lib.hid (HA2.out.below b3)
   clear b3 x0 x1 x2 x3 x4 x5
   rcases hcase with ⟨hyes,rfl⟩ | ⟨hno,rfl⟩
   ·
    have HQ3 := Lib.hid hyes
    clear hyes
    obtain ⟨x0,x1,x2,x3,x4,x5⟩ := HA3.out.cells
    by_cases h40 : h.post.n ≤ 40
    ·
     have d4 : decide ((h.post.n : Int) ≤ 40) = true := decide_eq_true (by omega)
     have H40 := Lib.hid h40
     clear h40
     go_wp2_with fail
     clear d4
     refine (bil_numbered s.post rs s.ser h.post.ao h.ser.ao h.post.n h.post.cap h.ser.n h.ser.cap w3 w3 (Below.refl _ _) (HP.out.below HB3.out) (HE.out.below HB3.out) (HL.out.ser.below HB3.out) HQ2.out (by have := H40.out; omega)).mono ?_
     rintro e w4 ⟨hcase,b4⟩
     have HB4 := Lib.hid (bchain HB3.out b4)
     have HA4 := Lib.hid (HA3.out.below b4)
     clear b4 x0 x1 x2 x3 x4 x5
     rcases hcase with ⟨hyes,rfl⟩ | ⟨hno,rfl⟩
     ·
      have HQ4 := Lib.hid hyes
      clear hyes
      obtain ⟨x0,x1,x2,x3,x4,x5⟩ := HA4.out.cells
      go_wp2_with fail
      refine (bil_reckoned s.post rs h.post.ao h.post.n h.post.cap w4 w4 (Below.refl _ _) (HP.out.below HB4.out) (HE.out.below HB4.out)).mono ?_
      rintro e w5 ⟨hcase,b5⟩
      have HB5 := Lib.hid (bchain HB4.out b5)
      have HA5 := Lib.hid (HA4.out.below b5)
      clear b5 x0 x1 x2 x3 x4 x5
      rcases hcase with ⟨hyes,rfl⟩ | ⟨hno,rfl⟩
      ·
       have HQ5 := Lib.hid hyes
       clear hyes
       obtain ⟨x0,x1,x2,x3,x4,x5⟩ := HA5.out.cells
       go_wp2_with fail
       refine (bil_credited s.post rs h.post.ao h.post.n h.post.cap w5 w5 (Below.refl _ _) (HP.out.below HB5.out) (HE.out.below HB5.out) HQ5.out).mono ?_
       rintro e w6 ⟨hcase,b6⟩
       have HB6 := Lib.hid (bchain HB5.out b6)
       have HA6 := Lib.hid (HA5.out.below b6)
       clear b6 x0 x1 x2 x3 x4 x5
       rcases hcase with ⟨hyes,rfl⟩ | ⟨hno,rfl⟩
       ·
        have HQ6 := Lib.hid hyes
        clear hyes
        obtain ⟨x0,x1,x2,x3,x4,x5⟩ := HA6.out.cells
        go_wp2_with fail
        refine (bil_booked s.post s.book rs h.post.ao h.book.ao h.post.n h.post.cap h.book.n h.book.cap w6 w6 (Below.refl _ _) (HP.out.below HB6.out) (HE.out.below HB6.out) (HL.out.book.below HB6.out) HQ5.out H40.out).mono ?_
        rintro e w7 ⟨hcase,b7⟩
        have HB7 := Lib.hid (bchain HB6.out b7)
        have HA7 := Lib.hid (HA6.out.below b7)
        clear b7 x0 x1 x2 x3 x4 x5
        rcases hcase with ⟨hyes,rfl⟩ | ⟨hno,rfl⟩
        ·
         have HQ7 := Lib.hid hyes
         clear hyes
         have HYes : Hid (Bl.Right s) := Lib.hid ((Bl.landed_iff s).1 (by have a3 := HQ3.out; rw [HX.out] at a3; exact ⟨HQ1.out,HQ2.out,a3.1,a3.2.1,a3.2.2,by have := H40.out; have := HN.out; omega,HQ4.out,HQ5.out,HQ6.out,HQ7.out⟩))
         go_wp2_with fail
         go_ret
         exact ⟨.inl ⟨HYes.out,rfl⟩,bchain HW.out HB7.out⟩
        ·
         have HNo : Hid (¬ Bl.Right s) := Lib.hid fun z => hno ((Bl.landed_iff s).2 z).book
         clear hno
         go_wp2_with fail
         go_ret
         exact ⟨.inr ⟨HNo.out,rfl⟩,bchain HW.out HB7.out⟩
       ·
        have HNo : Hid (¬ Bl.Right s) := Lib.hid fun z => hno ((Bl.landed_iff s).2 z).cred
        clear hno
        go_wp2_with fail
        go_ret
        exact ⟨.inr ⟨HNo.out,rfl⟩,bchain HW.out HB6.out⟩
      ·
       have HNo : Hid (¬ Bl.Right s) := Lib.hid fun z => hno ((Bl.landed_iff s).2 z).each
       clear hno
       go_wp2_with fail
       go_ret
       exact ⟨.inr ⟨HNo.out,rfl⟩,bchain HW.out HB5.out⟩
     ·
      have HNo : Hid (¬ Bl.Right s) := Lib.hid fun z => hno ((Bl.landed_iff s).2 z).num
      clear hno
      go_wp2_with fail
      go_ret
      exact ⟨.inr ⟨HNo.out,rfl⟩,bchain HW.out HB4.out⟩
    ·
     have d4 : decide ((h.post.n : Int) ≤ 40) = false := decide_eq_false (by omega)
     have HNo : Hid (¬ Bl.Right s) := Lib.hid fun z => h40 (by have l := ((Bl.landed_iff s).2 z).few; have := HN.out; omega)
     clear h40
     go_wp2_with fail
     go_ret
     exact ⟨.inr ⟨HNo.out,rfl⟩,bchain HW.out HB3.out⟩
   ·
    have HNo : Hid (¬ Bl.Right s) := Lib.hid fun z => hno (by have l := (Bl.landed_iff s).2 z; rw [HX.out]; exact ⟨l.next,l.sess,l.ids⟩)
    clear hno
    go_wp2_with fail
    go_ret
    exact ⟨.inr ⟨HNo.out,rfl⟩,bchain HW.out HB3.out⟩
end Go.Proofs.YtillcleccjgocaaGreat
namespace Go.Proofs.YtillcleccjgocaaGreat
open Go.RowKit
open Mem Pk Cm
theorem Im.ok_of {w : World} {h : Bl.Sv} {s : Bl.St} (hR : Bl.Right s) (hL : Bl.Lies w h s) : Im.StO s := by
 have h1 : s.tab.length ≤ 24 ∧ ∀ r ∈ s.tab,Vt.rowE r = 0 := by
  have := hR.tab
  unfold Vt.tableB at this
  rw [Bool.and_eq_true] at this
  exact ⟨of_decide_eq_true this.1,((Vt.okAll_iff _ _).1 this.2).1⟩
 have h2 := (Se.right_iff _).1 hR.ser
 have h3 : s.sess.length ≤ 8 := by
  have := hR.sess
  unfold Sp.rightB at this
  rw [Bool.and_eq_true] at this
  exact of_decide_eq_true this.1
 obtain ⟨rs,hP,hE⟩ := hL.post
 have hser : ∀ p ∈ s.post,p.ser.size ≤ 24 := fun p hp => by
  obtain ⟨r,hr,e⟩ := Se.ix_mem.1 (hR.has p hp)
  rw [← e]
  exact Im.name_24 (Se.sound_iff.1 (h2.2.1 r hr)).1
 refine ⟨⟨h1.1,fun r hr => ?_⟩,⟨h2.1,fun r hr => ?_⟩,⟨hR.few,fun p hp => ?_⟩,⟨h3,fun x hx => hL.sess.short x hx⟩,hL.fit⟩
 ·
  have a := h1.2 r hr
  have b := hL.tab.short r hr
  have c : r.cat.size ≤ 24 := Im.name_24 (Vt.rowE_0.1 a).1
  exact ⟨by omega,b.2⟩
 ·
  have a := Se.sound_iff.1 (h2.2.1 r hr)
  have b := hL.ser.short r hr
  exact ⟨by have := Im.name_24 a.1; omega,b.2.2⟩
 ·
  obtain ⟨i,hi,e⟩ := List.getElem_of_mem hp
  have hir : i < rs.length := hE.len ▸ hi
  have hs := hP.short _ (List.getElem_mem hir)
  have he := hE.each i hir
  rw [e] at he
  have hT := hR.tot p hp
  refine ⟨by have := hser p hp; omega,⟨he.y ▸ hs.2.2.1,he.m ▸ hs.2.2.2.1,he.d ▸ hs.2.2.2.2.1⟩,?_,he.ofN ▸ hs.2.2.2.2.2.2.2.2.2,hT.few,fun x hx => ?_⟩
  ·
   by_cases o : Bl.Own p
   ·
    rw [o.1]
    decide
   ·
    have hl := (hR.link i hi).of (by rw [e]; exact o)
    obtain ⟨_,k,hk,ht,_⟩ := hl
    rw [e] at ht
    rw [ht.1]
    have := hser _ (List.getElem_mem (show k < s.post.length by omega))
    omega
  ·
   have b := he.parts.short x hx
   exact ⟨by have := Im.name_24 (hT.each x hx).1; omega,b.2.1,b.2.2.1⟩
def Im.PutE (w0 w : World) (s : Bl.St) (e : Ending) (w' : World) : Prop := (Bl.Right s ∧ (∃ ao n cap,e = .returned (.slice ao n cap) ∧ By.Ls w' ao n cap (Im.stB s) ∧ ∀ ad,ao = some ad → ∃ g,ad = ⟨g,0,none⟩ ∧ w.heap.size ≤ g) ∨ ¬ Bl.Right s ∧ e = .returned (.slice none 0 0)) ∧ Below w0.heap.size w0 w'
set_option maxHeartbeats 2000000 in
theorem img_put (h : Bl.Sv) (s : Bl.St) (w0 w : World) (hw : Below w0.heap.size w0 w) (hL : Bl.Lies w h s) : Calls Tryz.prog 6 #[h.val] w (Im.PutE w0 w s) := by
 have HW := Lib.hid hw
 have HL := Lib.hid hL
 obtain ⟨U,hU⟩ : ∃ U,w.alloc (.cells #[.slice h.tab.ao h.tab.n h.tab.cap,.slice h.ser.ao h.ser.n h.ser.cap,.slice h.post.ao h.post.n h.post.cap,.slice h.book.ao h.book.n h.book.cap,.slice h.sess.ao h.sess.n h.sess.cap,.int .i64 h.next] 30) = U := ⟨_,rfl⟩
 obtain ⟨hB,k0,hs⟩ := Bl.al1 w (.cells #[.slice h.tab.ao h.tab.n h.tab.cap,.slice h.ser.ao h.ser.n h.ser.cap,.slice h.post.ao h.post.n h.post.cap,.slice h.book.ao h.book.n h.book.cap,.slice h.sess.ao h.sess.n h.sess.cap,.int .i64 h.next] 30)
 rw [hU] at hB k0 hs
 have hA : Bl.At U w.heap.size h := k0
 have HA := Lib.hid hA
 have HB := Lib.hid hB
 clear k0 hs hB hw hL
 unfold Bl.Sv.val Bl.sl
 go_enter Tryz.func6,Tryz.ntmps6
 go_wp2_with (first | ((with_reducible apply Bl.wpl_load hA); rfl; rfl; rfl))
 clear hU hA
 refine (bil_right_any s h U U (Below.refl _ _) (HL.out.below HB.out)).mono ?_
 rintro e w1 ⟨hcase,b1⟩
 have HB1 := Lib.hid (bchain HB.out b1)
 have HA1 := Lib.hid (HA.out.below b1)
 clear b1
 rcases hcase with ⟨hR,rfl⟩ | ⟨hN,rfl⟩
 ·
  have HR := Lib.hid hR
  clear hR
  have hbw : Below w1.heap.size w1 (w1.alloc (.cells #[.slice none 0 0] 51)) := (Below.refl _ _).alloc (Nat.le_refl _) _
  have HI : Hid (IwE w1 (w1.alloc (.cells #[.slice none 0 0] 51)) []) := Lib.hid ⟨none,0,0,hbw,heap_alloc_new w1 _,By.own_nil _ _⟩
  obtain ⟨W,hW⟩ : ∃ W,w1.alloc (.cells #[.slice none 0 0] 51) = W := ⟨_,rfl⟩
  rw [hW] at HI hbw
  have hAW := HA1.out.below hbw
  have HBW := Lib.hid (bchain HB1.out hbw)
  clear hbw
  go_wp2_with (first | ((with_reducible apply Bl.wpl_load hAW); rfl; rfl; rfl))
  clear hW hAW
  refine (iw_state h s [] w1 W (HL.out.below HB1.out) (Im.ok_of HR.out HL.out) HI.out (by simp)).mono ?_
  rintro e w2 ⟨rfl,⟨ao,n,cap,i2⟩,_⟩
  rw [List.nil_append] at i2
  have HI2 := Lib.hid i2
  have c2 := i2.cell
  clear i2
  go_wp2_with fail
  go_ret
  obtain ⟨ao',cap',e1,l1,g1⟩ := By.own_ls HI2.out.own
  simp only [Value.slice.injEq] at e1
  obtain ⟨rfl,e2,rfl⟩ := e1
  rw [← e2] at l1
  refine ⟨.inl ⟨HR.out,ao,n,cap,rfl,l1,fun ad q => ?_⟩,bchain HW.out (bchain HB1.out HI2.out.bel)⟩
  obtain ⟨g,h1,h2⟩ := g1 ad q
  exact ⟨g,h1,by have := HB1.out.size; omega⟩
 ·
  have HNo := Lib.hid hN
  clear hN
  go_wp2_with fail
  go_ret
  exact ⟨.inr ⟨HNo.out,rfl⟩,bchain HW.out HB1.out⟩
end Go.Proofs.YtillcleccjgocaaGreat
namespace Go.Proofs.YtillcleccjgocaaGreat.Rp
open Go.RowKit
open Mem
def zero : T := ⟨0,0,0⟩
end Go.Proofs.YtillcleccjgocaaGreat.Rp
namespace Go.Proofs.YtillcleccjgocaaGreat.Rp
open Go.RowKit
open Mem
theorem own_at {w : World} {B g n cap : Nat} {M : List T} (h : Own w B (.slice (some ⟨g,0,none⟩) n cap) M) (k : Nat) (hk : k < M.length) : At w g (k * 3) M[k] ∧ (∀ o,w.frozen? ⟨g,o,none⟩ = false) ∧ B ≤ g := by
 rcases h.2 with ⟨h',_⟩ | ⟨g',cap',cur,h',hb,hg,hnc,hcm,hcs,htake⟩
 · cases h'
 ·
  simp only [Value.slice.injEq,Option.some.injEq,Addr.mk.injEq,and_true] at h'
  obtain ⟨e1,e2,e3⟩ := h'
  subst e1 e3
  have hcell : ∀ p,p < 3 → w.cell? ⟨g,k * 3 + p,none⟩ = (rv M[k])[p]? := by
   intro p hp
   rw [cell_of_row w g _ _ _ _ hg,← flat_at M k p hk hp,← htake,List.getElem?_take_of_lt (by omega)]
   simp
  exact ⟨⟨hcell 0 (by omega),hcell 1 (by omega),hcell 2 (by omega)⟩,fun o => frozen_of_row w g o _ _ hg,hb⟩
end Go.Proofs.YtillcleccjgocaaGreat.Rp
namespace Go.Proofs.YtillcleccjgocaaGreat
open Go.RowKit
open Mem
open Go.Sort (grow)
namespace Bl
theorem resultsP {fn : Func} {p q : Tmp} (hf : fn.results = #[.cell p 30,.tmp q]) {tmps : Array Value} {w : World} {g : Nat} {h : Sv} {v : Value} (hp : tmps.getD p undef = .pointer (some ⟨g,0,none⟩)) (hq : tmps.getD q undef = v) (hA : At w g h) : (results fn tmps).run Tryz.prog w = .ok (.tuple #[h.val,v]) w := by
 have hp' : tmps[p]?.getD undef = .pointer (some ⟨g,0,none⟩) := by simpa using hp
 have hq' : tmps[q]?.getD undef = v := by simpa using hq
 have e1 := run_loadVar_row (P := Tryz.prog) w g 30 30 (rv h).toArray (0,0) _ hA Tryz.underlying30 rfl (by rw [info]; rfl)
 simp [results,hf,hp',hq',asAddr,e1]
 rfl
structure Pl (w u : World) (g : Nat) (t : St) (hc : Sv) (rs : List Rp.T) : Prop where
 bel : Below w.heap.size w u
 var : At u w.heap.size hc
 zr : At u (w.heap.size + 1) zsv
 lp : Lp (fun b => b < w.heap.size ∨ g < b) u hc t
 blk : Rp.Block u g rs
 lo : w.heap.size + 2 ≤ g
section
variable {w u v : World} {g : Nat} {t t' : St} {hc h' : Sv} {rs : List Rp.T}
end
end Bl
end Go.Proofs.YtillcleccjgocaaGreat
