/- LAWS OF PACKAGE letter: a letter's variable, and its entries. (By genltbk.py.) -/
import Derived.Test.YtagjbjppddbalaaLtJ
import Derived.Test.YtagjbjppddbalaaLrIn
set_option maxRecDepth 100000
set_option linter.unusedVariables false
namespace Go.Proofs.Ytagjbjppddbalaa
open Go.RowKit
open Mem Pk

/-- a letter in a block of its own, made since a world; its entries lie -/
structure Bx (w u : World) (g : Nat) (r : Lr.T) (l : List Et.T) : Prop where
  bel : Below w.heap.size w u
  row : u.heap[g]? = some (.cells (Lr.rvA r) 24 (0, 0))
  ls : Et.Ls u r.ents.ao r.ents.n r.ents.cap l
  ge : w.heap.size ≤ g
section
variable {w u v : World} {g : Nat} {r r' : Lr.T} {l l' : List Et.T}
theorem Bx.lt (h : Bx w u g r l) : g < u.heap.size := (Array.getElem?_eq_some_iff.1 h.row).1
theorem Bx.below (h : Bx w u g r l) (k : Below u.heap.size u v) : Bx w v g r l := ⟨bchain h.bel k, (k.block _ h.lt).trans h.row, h.ls.below k, h.ge⟩
theorem Bx.cell (h : Bx w u g r l) (i : Nat) : u.cell? ⟨g, i, none⟩ = (Lr.rvA r)[i]? := cell_of_row u _ i _ _ _ h.row
theorem Bx.fz (h : Bx w u g r l) (o : Nat) : u.frozen? ⟨g, o, none⟩ = false := frozen_of_row u _ o _ _ h.row
theorem Bx.c (h : Bx w u g r l) : Lr.C u g r := by
  unfold Lr.C
  exact ⟨h.cell 0, h.cell 1, h.cell 2, h.cell 3, h.cell 4, h.cell 5, h.cell 6, h.cell 7, h.cell 8, h.cell 9, h.cell 10, h.cell 11, h.cell 12⟩
theorem Bx.box (h : Below w.heap.size w u) (hl : Et.Ls u r.ents.ao r.ents.n r.ents.cap l) : Bx w (Lr.box u r) u.heap.size r l :=
  ⟨bchain h (Lr.below_own u r), heap_alloc_new u _, hl.below (Lr.below_own u r), h.size⟩
/-- the variable gets another letter, whose entries don't lie in it -/
theorem Bx.lay (h : Bx w u g r l) (hl : Et.Ls w r'.ents.ao r'.ents.n r'.ents.cap l') : Bx w (Lr.lay u g r') g r' l' :=
  ⟨Lr.below_lay h.bel h.ge _, Lr.heap_lay h.row r', hl.below (Lr.below_lay h.bel h.ge _), h.ge⟩
end
theorem Lr.room_le : ∀ l : List Et.T, (∀ e ∈ l, e.data.size ≤ 1100) → Lr.room l ≤ 1200 * l.length
  | [], _ => Nat.le_refl _
  | x :: l, h => by
    have h1 := Lr.room_le l fun e he => h e (List.mem_cons_of_mem _ he)
    have h2 := h x List.mem_cons_self
    rw [Lr.room, List.length_cons]
    omega
theorem Lr.bytes_small {m : Lr.M} (h : Lr.rightB m = true) : m.bytes.length ≤ 20000 := by
  have o := Lr.ok_of h
  have h1 := (Lr.bytes_len h).2
  have h2 := Lr.room_le m.ents fun e he => (o.ents e he).2.2
  have h3 := o.n
  have h4 := o.data
  omega
/-- what Get answers, as rows -/
theorem Lr.ents_ls {u : World} {B : Nat} {r : Lr.T} {l : List Et.T} (h : Et.Own u B (.slice r.ents.ao r.ents.n r.ents.cap) l) (hs : ∀ e ∈ l, Et.Short e) : Et.Ls u r.ents.ao r.ents.n r.ents.cap l := by
  obtain ⟨ao, cap, e, q, _⟩ := Et.own_ls h hs
  obtain ⟨z1, z2, z3⟩ := Value.slice.inj e
  rw [z1, z2, z3]
  exact q
end Go.Proofs.Ytagjbjppddbalaa
