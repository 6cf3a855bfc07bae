/- BOTH DISKS: the program's and the document's, with the same files; what a call on both leaves. -/
import Derived.Test.YtegniklofhopeaaYDpDkI
import Derived.Test.YtegniklofhopeaaYDpDkE
import Derived.Test.YtegniklofhopeaaYDpDrF
set_option maxRecDepth 100000
set_option linter.unusedVariables false
namespace Go.Proofs.Ytegniklofhopeaa
open Go.RowKit
open Mem Dk
theorem Dk.S.keepQ {P Q : Nat → Prop} {w0 w u : World} {p : Nat} {d : D} (h : S P w0 w p d) (k : UpdQ Q w u) (hQ : ∀ b,P b → ¬ Q b) (hN : ∀ b,Q b → w0.heap.size ≤ b) : S P w0 u p d := ⟨h.dsk.keep k hQ,h.sub,k.below w0 h.bel hN⟩
structure Dk.Bo' (P R : Nat → Prop) (w0 W : World) (p q : Nat) (d : D) : Prop where
 s : S P w0 W p d
 r : Dr.Dsk R W q d
 sub : ∀ b,R b → w0.heap.size ≤ b
 ap : ∀ b,P b → ¬ R b
 pl : ∀ b,P b → b < W.heap.size
 rl : ∀ b,R b → b < W.heap.size
def Dk.Bo (w0 W : World) (p q : Nat) (d : D) : Prop := ∃ P R,Bo' P R w0 W p q d
section
variable {P R : Nat → Prop} {w0 W W1 W2 : World} {p q : Nat} {d d' : D}
theorem Dk.Bo'.later (h : Bo' P R w0 W p q d) (k : Below W.heap.size W W1) : Bo' P R w0 W1 p q d :=
 ⟨h.s.later k,h.r.below k,h.sub,h.ap,fun b z => Nat.lt_of_lt_of_le (h.pl b z) k.size,fun b z => Nat.lt_of_lt_of_le (h.rl b z) k.size⟩
theorem Dk.Bo.later (h : Bo w0 W p q d) (k : Below W.heap.size W W1) : Bo w0 W1 p q d := by
 obtain ⟨P,R,h⟩ := h
 exact ⟨P,R,h.later k⟩
theorem Dk.Bo.bel (h : Bo w0 W p q d) : Below w0.heap.size w0 W := by
 obtain ⟨P,R,h⟩ := h
 exact h.s.bel
theorem Dk.Bo.ok (h : Bo w0 W p q d) : Ok d := by
 obtain ⟨P,R,h⟩ := h
 exact h.s.ok
theorem Dk.Bo'.mid (h : Bo' P R w0 W p q d) (k : S (nw P W) w0 W1 p d') (u : UpdQ P W W1) : S (fun b => nw P W b ∧ b < W1.heap.size) w0 W1 p d' ∧ Dr.Dsk R W1 q d ∧ (∀ b,nw P W b ∧ b < W1.heap.size → ¬ R b) :=
 ⟨k.tight,h.r.keep u fun b z z2 => h.ap b z2 z,fun b z z2 => z.1.elim (fun z3 => h.ap b z3 z2) fun z3 => by have := h.rl b z2; omega⟩
theorem Dk.Bo'.fin (h : Bo' P R w0 W p q d) (k : S (nw P W) w0 W1 p d') (u : UpdQ P W W1) (k2 : Dr.Dsk (nw R W1) W2 q d') (u2 : UpdQ R W1 W2) : Bo w0 W2 p q d' := by
 obtain ⟨a,b,c⟩ := h.mid k u
 have hs : w0.heap.size ≤ W1.heap.size := k.bel.size
 refine ⟨_,fun x => nw R W1 x ∧ x < W2.heap.size,a.keepQ u2 (fun x z => c x z) h.sub,k2.lt,fun x z => z.1.elim (h.sub x) fun z => by omega,fun x z z2 => z2.1.elim (c x z) fun z3 => by have := z.2; omega,fun x z => Nat.lt_of_lt_of_le z.2 u2.size,fun x z => z.2⟩
theorem Dk.bo_of (h : S P w0 W p d) (hr : Dr.Dsk R W q d) (sub : ∀ b,R b → w0.heap.size ≤ b) (ap : ∀ b,P b → ¬ R b) : Bo w0 W p q d :=
 ⟨_,_,h.tight,hr.lt,fun b z => sub b z.1,fun b z z2 => ap b z.1 z2.1,fun b z => z.2,fun b z => z.2⟩
end
def Dk.Named (d : D) : Prop := ∀ f ∈ d.fs,nameOk f.name = true
section
variable {d : D} {s t : ByteArray}
theorem Dk.named_put (hs : Sorted d.fs) (h : Named d) {f : F} (hf : nameOk f.name = true) : ∀ g ∈ put f d.fs,nameOk g.name = true := by
 intro g hg
 rcases (mem_put hs g).1 hg with rfl | hg
 · exact hf
 · exact h g hg.1
theorem Dk.named_own (hs : Sorted d.fs) (h : Named d) (hh : has s d.fs = true) : nameOk s = true := by
 have := h _ (own_mem hs hh)
 rw [own_name hs] at this
 exact this
theorem Dk.app_named (k : Ok d) (h : Named d) (zs : List UInt8) : Named (appD d s zs).2 := by
 unfold appD
 split
 · exact h
 split
 · exact h
 rename_i hn
 split
 · exact h
 split
 · exact h
 exact named_put k.sorted h (by simpa using hn)
theorem Dk.sync_named (k : Ok d) (h : Named d) : Named (syncD d s).2 := by
 unfold syncD
 split
 · exact h
 split
 · exact h
 rename_i hn
 split
 · exact h
 exact named_put k.sorted h (named_own k.sorted h (by simpa using hn))
theorem Dk.cut_named (k : Ok d) (h : Named d) (n : Int) : Named (cutD d s n).2 := by
 unfold cutD
 split
 · exact h
 split
 · exact h
 rename_i hn
 split
 · exact h
 split
 · exact h
 exact named_put k.sorted h (named_own k.sorted h (by simpa using hn))
theorem Dk.rem_named (h : Named d) : Named (remD d s).2 := by
 unfold remD
 split
 · exact h
 split
 · exact h
 split
 · exact h
 exact fun f hf => h f (del_mem hf)
theorem Dk.ren_named (k : Ok d) (h : Named d) : Named (renD d s t).2 := by
 unfold renD
 split
 · exact h
 split
 · exact h
 rename_i hn
 split
 · exact h
 split
 · exact h
 intro g hg
 rcases (mem_put (del_sorted k.sorted) g).1 hg with rfl | hg
 · simpa using hn
 · exact h g (del_mem hg.1)
theorem Dk.crash_named (h : Named d) (zs : List Int) : Named (crashD d zs) := by
 intro f hf
 unfold crashD at hf
 simp only [List.mem_mapIdx] at hf
 obtain ⟨i,hi,rfl⟩ := hf
 rw [tear_name]
 exact h _ (List.getElem_mem hi)
theorem Dk.crash_len (zs : List Int) : (crashD d zs).fs.length = d.fs.length := by
 unfold crashD
 simp only [List.length_mapIdx]
def Dk.nsf : ByteArray := ⟨#[110,111,32,115,117,99,104,32,102,105,108,101]⟩
theorem Dk.nsf_no : nameOk nsf = false := by decide
theorem Dk.no_such (h : Named d) : has nsf d.fs = false := by
 rw [Bool.eq_false_iff]
 intro z
 obtain ⟨f,hf,e⟩ := has_mem.1 z
 have := h f hf
 rw [e,nsf_no] at this
 cases this
end
structure Dk.PlI (w0 : World) (p q i : Nat) (d : D) (W : World) : Prop where
 bo : Bo w0 W p q d
 nm : Named d
 len : d.fs.length ≤ i
end Go.Proofs.Ytegniklofhopeaa
