/- THE DOCUMENT's OWN DISK (impostref16) IN MEMORY: its own block, its files' rows, each file's bytes. -/
import Derived.Test.YtegniklofhopeaaZDp2
import Derived.Test.YtegniklofhopeaaZDp1
import Derived.Test.YtegniklofhopeaaYDpRqM
set_option linter.unusedVariables false
namespace Go.Proofs.Ytegniklofhopeaa.Dr
open Go.RowKit
open Mem Dk
def Box (w : World) (p : Nat) (v : Sl) (left : Int) (off : Bool) : Prop := w.heap[p]? = some (.cells #[.slice v.ao v.n v.cap,.int .i64 left,.bool off] 52 (0,0))
section
variable {w : World} {p : Nat} {v : Sl} {left : Int} {off : Bool}
theorem Box.lt (h : Box w p v left off) : p < w.heap.size := by
 obtain ⟨h,_⟩ := Array.getElem?_eq_some_iff.1 h
 exact h
theorem Box.cells (h : Box w p v left off) : w.cell? ⟨p,0,none⟩ = some (.slice v.ao v.n v.cap) ∧ w.cell? ⟨p,1,none⟩ = some (.int .i64 left) ∧ w.cell? ⟨p,2,none⟩ = some (.bool off) := by
 refine ⟨?_,?_,?_⟩
 all_goals rw [cell_of_row w p _ _ _ _ h]
 all_goals rfl
theorem Box.frozen (h : Box w p v left off) (k : Nat) : w.frozen? ⟨p,k,none⟩ = false := frozen_of_row w p k _ _ h
theorem Box.set0 (h : Box w p v left off) (x : Sl) : Box (w.setCell ⟨p,0,none⟩ (.slice x.ao x.n x.cap)) p x left off := (heap_setCell_same w p 0 _ _ _ h).trans rfl
theorem Box.set1 (h : Box w p v left off) (x : Int) : Box (w.setCell ⟨p,1,none⟩ (.int .i64 x)) p v x off := (heap_setCell_same w p 1 _ _ _ h).trans rfl
theorem Box.set2 (h : Box w p v left off) (x : Bool) : Box (w.setCell ⟨p,2,none⟩ (.bool x)) p v left x := (heap_setCell_same w p 2 _ _ _ h).trans rfl
end
structure EachR (w : World) (rs : List Rq.T) (fs : List F) : Prop where
 len : rs.length = fs.length
 name : ∀ i (h : i < rs.length),rs[i].name = (fs[i]'(len ▸ h)).name
 kept : ∀ i (h : i < rs.length),rs[i].kept = ((fs[i]'(len ▸ h)).kept : Int)
 own : ∀ i (h : i < rs.length),By.Own w 0 (sl rs[i].bytes) (fs[i]'(len ▸ h)).bs
structure At (P : Nat → Prop) (w : World) (p : Nat) (d : D) (v : Sl) (rs : List Rq.T) : Prop where
 box : Box w p v d.left d.off
 rows : Rq.Own w 0 (sl v) rs
 each : EachR w rs d.fs
 pp : P p
 pv : ∀ b,(sl v).ownBlock = some b → P b ∧ b ≠ p
 pb : ∀ i (h : i < rs.length) b,(sl rs[i].bytes).ownBlock = some b → P b ∧ b ≠ p ∧ (sl v).ownBlock ≠ some b
 ok : Ok d
 few : d.fs.length ≤ 1000
def Dsk (P : Nat → Prop) (w : World) (p : Nat) (d : D) : Prop := ∃ v rs,At P w p d v rs
section
variable {P Q : Nat → Prop} {w u : World} {p : Nat} {d : D} {v : Sl} {rs : List Rq.T}
theorem EachR.keep {fs : List F} (h : EachR w rs fs) (k : ∀ i (hi : i < rs.length) g,(sl rs[i].bytes).ownBlock = some g → u.heap[g]? = w.heap[g]?) : EachR u rs fs := ⟨h.len,h.name,h.kept,fun i hi => rows_keep (h.own i hi) (k i hi)⟩
theorem At.keep (h : At P w p d v rs) (k : UpdQ Q w u) (hQ : ∀ b,P b → ¬ Q b) : At P u p d v rs := by
 refine ⟨(k.block p h.box.lt (hQ p h.pp)).trans h.box,k.rows h.rows fun b e => hQ b (h.pv b e).1,h.each.keep fun i hi g e => k.block g (World.ownsRow.lt (h.each.own i hi) g e).2 (hQ g (h.pb i hi g e).1),h.pp,h.pv,h.pb,h.ok,h.few⟩
theorem At.mono (h : At P w p d v rs) (k : ∀ b,P b → Q b) : At Q w p d v rs := ⟨h.box,h.rows,h.each,k _ h.pp,fun b e => ⟨k b (h.pv b e).1,(h.pv b e).2⟩,fun i hi b e => ⟨k b (h.pb i hi b e).1,(h.pb i hi b e).2⟩,h.ok,h.few⟩
theorem At.below (h : At P w p d v rs) (k : Below w.heap.size w u) : At P u p d v rs :=
 h.keep (UpdQ.of (Q := fun _ => False) k) fun _ _ z => z
theorem At.lt (h : At P w p d v rs) : At (fun b => P b ∧ b < w.heap.size) w p d v rs :=
 ⟨h.box,h.rows,h.each,⟨h.pp,h.box.lt⟩,fun b e => ⟨⟨(h.pv b e).1,(World.ownsRow.lt h.rows b e).2⟩,(h.pv b e).2⟩,fun i hi b e => ⟨⟨(h.pb i hi b e).1,(World.ownsRow.lt (h.each.own i hi) b e).2⟩,(h.pb i hi b e).2⟩,h.ok,h.few⟩
theorem At.shorts (h : At P w p d v rs) : ∀ r ∈ rs,Rq.Short r := by
 intro r hr
 obtain ⟨i,hi,rfl⟩ := List.getElem_of_mem hr
 have hf : i < d.fs.length := h.each.len ▸ hi
 have h1 := h.ok.names _ (List.getElem_mem hf)
 have h2 := h.ok.kept _ (List.getElem_mem hf)
 have h3 := total_mem (List.getElem_mem hf)
 have h4 := h.ok.room
 refine ⟨by rw [h.each.name i hi]; omega,?_⟩
 rw [h.each.kept i hi]
 exact ⟨by omega,by omega⟩
theorem At.ls (h : At P w p d v rs) : Rq.Ls w v.ao v.n v.cap rs := by
 obtain ⟨ao,cap,e,l,_⟩ := Rq.own_ls h.rows h.shorts
 unfold sl at e
 simp only [Value.slice.injEq] at e
 rw [e.1,e.2.1,e.2.2]
 exact l
theorem At.n (h : At P w p d v rs) : v.n = d.fs.length ∧ v.n ≤ v.cap ∧ v.cap ≤ 9223372036854775807 ∧ v.n = rs.length := by
 have l := h.ls
 exact ⟨l.len.trans h.each.len,l.fits,l.reach,l.len⟩
theorem Dsk.keep (h : Dsk P w p d) (k : UpdQ Q w u) (hQ : ∀ b,P b → ¬ Q b) : Dsk P u p d := by
 obtain ⟨v,rs,h⟩ := h
 exact ⟨v,rs,h.keep k hQ⟩
theorem Dsk.mono (h : Dsk P w p d) (k : ∀ b,P b → Q b) : Dsk Q w p d := by
 obtain ⟨v,rs,h⟩ := h
 exact ⟨v,rs,h.mono k⟩
theorem Dsk.below (h : Dsk P w p d) (k : Below w.heap.size w u) : Dsk P u p d := by
 obtain ⟨v,rs,h⟩ := h
 exact ⟨v,rs,h.below k⟩
theorem Dsk.lt (h : Dsk P w p d) : Dsk (fun b => P b ∧ b < w.heap.size) w p d := by
 obtain ⟨v,rs,h⟩ := h
 exact ⟨v,rs,h.lt⟩
theorem At.away (h : At P w p d v rs) (i : Nat) (x : Value) : Rq.Own (w.setCell ⟨p,i,none⟩ x) 0 (sl v) rs ∧ EachR (w.setCell ⟨p,i,none⟩ x) rs d.fs := by
 have k : UpdQ (fun b => b = p) w (w.setCell ⟨p,i,none⟩ x) := UpdQ.set (Q := fun b => b = p) w rfl i x
 exact ⟨k.rows h.rows fun b e z => (h.pv b e).2 z,h.each.keep fun j hj g e => k.block g (World.ownsRow.lt (h.each.own j hj) g e).2 (h.pb j hj g e).2.1⟩
theorem At.setOff (h : At P w p d v rs) (b : Bool) : At P (w.setCell ⟨p,2,none⟩ (.bool b)) p ⟨d.fs,b,d.left⟩ v rs := by
 obtain ⟨h1,h2⟩ := h.away 2 (.bool b)
 exact ⟨h.box.set2 b,h1,h2,h.pp,h.pv,h.pb,⟨h.ok.sorted,h.ok.kept,h.ok.room,h.ok.names,h.ok.left⟩,h.few⟩
theorem At.setLeft (h : At P w p d v rs) {x : Int} (hx : -1 ≤ x ∧ x ≤ 9223372036854775807) : At P (w.setCell ⟨p,1,none⟩ (.int .i64 x)) p ⟨d.fs,d.off,x⟩ v rs := by
 obtain ⟨h1,h2⟩ := h.away 1 (.int .i64 x)
 exact ⟨h.box.set1 x,h1,h2,h.pp,h.pv,h.pb,⟨h.ok.sorted,h.ok.kept,h.ok.room,h.ok.names,hx⟩,h.few⟩
end
end Go.Proofs.Ytegniklofhopeaa.Dr
