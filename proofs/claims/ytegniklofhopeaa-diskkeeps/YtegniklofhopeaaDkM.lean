/- A DISK IN MEMORY: its own block, its files' rows, and each file's bytes, apart from one another. -/
import Derived.Test.YtegniklofhopeaaDkP
import Derived.Test.YtegniklofhopeaaUpq
import Derived.Test.YtegniklofhopeaaFlM
import Derived.Test.YtegniklofhopeaaByA
set_option linter.unusedVariables false
namespace Go.Proofs.Ytegniklofhopeaa.Dk
open Go.RowKit
open Mem

def sl (s : Sl) : Value := .slice s.ao s.n s.cap
/-- the disk's own block -/
def Box (w : World) (p : Nat) (v : Sl) (off armed : Bool) (L : Int) : Prop := w.heap[p]? = some (.cells #[.slice v.ao v.n v.cap, .bool off, .bool armed, .int .i64 L] 49 (0, 0))
theorem Box.lt {w : World} {p : Nat} {v : Sl} {off armed : Bool} {L : Int} (h : Box w p v off armed L) : p < w.heap.size := by
  obtain ⟨h, _⟩ := Array.getElem?_eq_some_iff.1 h
  exact h
theorem Box.cells {w : World} {p : Nat} {v : Sl} {off armed : Bool} {L : Int} (h : Box w p v off armed L) : w.cell? ⟨p, 0, none⟩ = some (.slice v.ao v.n v.cap) ∧ w.cell? ⟨p, 1, none⟩ = some (.bool off) ∧ w.cell? ⟨p, 2, none⟩ = some (.bool armed) ∧ w.cell? ⟨p, 3, none⟩ = some (.int .i64 L) := by
  refine ⟨?_, ?_, ?_, ?_⟩
  all_goals rw [cell_of_row w p _ _ _ _ h]
  all_goals rfl
theorem Box.frozen {w : World} {p : Nat} {v : Sl} {off armed : Bool} {L : Int} (h : Box w p v off armed L) (k : Nat) : w.frozen? ⟨p, k, none⟩ = false := frozen_of_row w p k _ _ h
theorem Box.set {w : World} {p : Nat} {v : Sl} {off armed : Bool} {L : Int} (h : Box w p v off armed L) (i : Nat) (x : Value) : (w.setCell ⟨p, i, none⟩ x).heap[p]? = some (.cells (#[.slice v.ao v.n v.cap, .bool off, .bool armed, .int .i64 L].setIfInBounds i x) 49 (0, 0)) := heap_setCell_same w p i _ _ x h
/-- rows of files and what they say -/
structure EachF (w : World) (rs : List Fl.T) (fs : List F) : Prop where
  len : rs.length = fs.length
  name : ∀ i (h : i < rs.length), rs[i].name = (fs[i]'(len ▸ h)).name
  kept : ∀ i (h : i < rs.length), rs[i].kept = ((fs[i]'(len ▸ h)).kept : Int)
  own : ∀ i (h : i < rs.length), By.Own w 0 (sl rs[i].bytes) (fs[i]'(len ▸ h)).bs
/-- a disk lies in blocks that P names -/
structure At (P : Nat → Prop) (w : World) (p : Nat) (d : D) (v : Sl) (L : Int) (rs : List Fl.T) : Prop where
  box : Box w p v d.off (decide (0 ≤ d.left)) L
  arm : 0 ≤ d.left → L = d.left
  rows : Fl.Own w 0 (sl v) rs
  each : EachF w rs d.fs
  pp : P p
  pv : ∀ b, (sl v).ownBlock = some b → P b ∧ b ≠ p
  pb : ∀ i (h : i < rs.length) b, (sl rs[i].bytes).ownBlock = some b → P b ∧ b ≠ p ∧ (sl v).ownBlock ≠ some b
  ap : ∀ i j (hi : i < rs.length) (hj : j < rs.length), i < j → ∀ b, (sl rs[i].bytes).ownBlock = some b → (sl rs[j].bytes).ownBlock ≠ some b
  ok : Ok d
  few : d.fs.length ≤ 1000
def Dsk (P : Nat → Prop) (w : World) (p : Nat) (d : D) : Prop := ∃ v L rs, At P w p d v L rs
section
variable {P Q : Nat → Prop} {w u : World} {p : Nat} {d : D} {v : Sl} {L : Int} {rs : List Fl.T}
theorem EachF.keep {fs : List F} (h : EachF w rs fs) (k : ∀ i (hi : i < rs.length) g, (sl rs[i].bytes).ownBlock = some g → u.heap[g]? = w.heap[g]?) : EachF u rs fs := ⟨h.len, h.name, h.kept, fun i hi => rows_keep (h.own i hi) (k i hi)⟩
theorem EachF.short {fs : List F} (h : EachF w rs fs) (hn : ∀ f ∈ fs, f.name.size ≤ 24) (hk : ∀ f ∈ fs, f.kept ≤ 4194304) : ∀ r ∈ rs, Fl.Short r := by
  intro r hr
  obtain ⟨i, hi, rfl⟩ := List.getElem_of_mem hr
  have hf : i < fs.length := h.len ▸ hi
  have h1 := hn _ (List.getElem_mem hf)
  have h2 := hk _ (List.getElem_mem hf)
  refine ⟨by rw [h.name i hi]; omega, ?_⟩
  rw [h.kept i hi]
  exact ⟨by omega, by omega⟩
/-- what is told apart from the disk stays; where the disk's own blocks stay, it stays -/
theorem At.keep (h : At P w p d v L rs) (k : UpdQ Q w u) (hQ : ∀ b, P b → ¬ Q b) : At P u p d v L rs := by
  refine ⟨(k.block p h.box.lt (hQ p h.pp)).trans h.box, h.arm, k.rows h.rows fun b e => hQ b (h.pv b e).1, h.each.keep fun i hi g e => k.block g (World.ownsRow.lt (h.each.own i hi) g e).2 (hQ g (h.pb i hi g e).1), h.pp, h.pv, h.pb, h.ap, h.ok, h.few⟩
theorem At.mono (h : At P w p d v L rs) (k : ∀ b, P b → Q b) : At Q w p d v L rs := ⟨h.box, h.arm, h.rows, h.each, k _ h.pp, fun b e => ⟨k b (h.pv b e).1, (h.pv b e).2⟩, fun i hi b e => ⟨k b (h.pb i hi b e).1, (h.pb i hi b e).2⟩, h.ap, h.ok, h.few⟩
theorem At.below (h : At P w p d v L rs) (k : Below w.heap.size w u) : At P u p d v L rs :=
  h.keep (UpdQ.of (Q := fun _ => False) k) fun _ _ z => z
/-- .. and all of it was there -/
theorem At.lt (h : At P w p d v L rs) : At (fun b => P b ∧ b < w.heap.size) w p d v L rs :=
  ⟨h.box, h.arm, h.rows, h.each, ⟨h.pp, h.box.lt⟩, fun b e => ⟨⟨(h.pv b e).1, (World.ownsRow.lt h.rows b e).2⟩, (h.pv b e).2⟩, fun i hi b e => ⟨⟨(h.pb i hi b e).1, (World.ownsRow.lt (h.each.own i hi) b e).2⟩, (h.pb i hi b e).2⟩, h.ap, h.ok, h.few⟩
theorem At.shorts (h : At P w p d v L rs) : ∀ r ∈ rs, Fl.Short r := h.each.short h.ok.names fun f hf => by
  have h1 := h.ok.kept f hf
  have h2 := total_mem hf
  have h3 := h.ok.room
  omega
theorem At.ls (h : At P w p d v L rs) : Fl.Ls w v.ao v.n v.cap rs := by
  obtain ⟨ao, cap, e, l, _⟩ := Fl.own_ls h.rows h.shorts
  unfold sl at e
  simp only [Value.slice.injEq] at e
  rw [e.1, e.2.1, e.2.2]
  exact l
theorem At.n (h : At P w p d v L rs) : v.n = d.fs.length ∧ v.n ≤ v.cap ∧ v.cap ≤ 9223372036854775807 ∧ v.n = rs.length := by
  have l := h.ls
  exact ⟨l.len.trans h.each.len, l.fits, l.reach, l.len⟩
theorem Dsk.keep (h : Dsk P w p d) (k : UpdQ Q w u) (hQ : ∀ b, P b → ¬ Q b) : Dsk P u p d := by
  obtain ⟨v, L, rs, h⟩ := h
  exact ⟨v, L, rs, h.keep k hQ⟩
theorem Dsk.mono (h : Dsk P w p d) (k : ∀ b, P b → Q b) : Dsk Q w p d := by
  obtain ⟨v, L, rs, h⟩ := h
  exact ⟨v, L, rs, h.mono k⟩
theorem Dsk.below (h : Dsk P w p d) (k : Below w.heap.size w u) : Dsk P u p d := by
  obtain ⟨v, L, rs, h⟩ := h
  exact ⟨v, L, rs, h.below k⟩
theorem Dsk.lt (h : Dsk P w p d) : Dsk (fun b => P b ∧ b < w.heap.size) w p d := by
  obtain ⟨v, L, rs, h⟩ := h
  exact ⟨v, L, rs, h.lt⟩
/-! ### the disk's own cells written -/
theorem At.away (h : At P w p d v L rs) (i : Nat) (x : Value) : Fl.Own (w.setCell ⟨p, i, none⟩ x) 0 (sl v) rs ∧ EachF (w.setCell ⟨p, i, none⟩ x) rs d.fs := by
  have k : UpdQ (fun b => b = p) w (w.setCell ⟨p, i, none⟩ x) := UpdQ.set (Q := fun b => b = p) w rfl i x
  exact ⟨k.rows h.rows fun b e z => (h.pv b e).2 z, h.each.keep fun j hj g e => k.block g (World.ownsRow.lt (h.each.own j hj) g e).2 (h.pb j hj g e).2.1⟩
theorem At.setOff (h : At P w p d v L rs) (b : Bool) : At P (w.setCell ⟨p, 1, none⟩ (.bool b)) p ⟨d.fs, b, d.left⟩ v L rs := by
  obtain ⟨h1, h2⟩ := h.away 1 (.bool b)
  exact ⟨(h.box.set 1 (.bool b)).trans rfl, h.arm, h1, h2, h.pp, h.pv, h.pb, h.ap, ⟨h.ok.sorted, h.ok.kept, h.ok.room, h.ok.names, h.ok.left⟩, h.few⟩
theorem At.setLeft (h : At P w p d v L rs) {x : Int} (h0 : 0 ≤ d.left) (hx : 0 ≤ x ∧ x ≤ 9223372036854775807) : At P (w.setCell ⟨p, 3, none⟩ (.int .i64 x)) p ⟨d.fs, d.off, x⟩ v x rs := by
  obtain ⟨h1, h2⟩ := h.away 3 (.int .i64 x)
  refine ⟨(h.box.set 3 (.int .i64 x)).trans ?_, fun _ => rfl, h1, h2, h.pp, h.pv, h.pb, h.ap, ⟨h.ok.sorted, h.ok.kept, h.ok.room, h.ok.names, ⟨by show -1 ≤ x; omega, hx.2⟩⟩, h.few⟩
  have e1 : decide (0 ≤ d.left) = true := decide_eq_true h0
  have e2 : decide (0 ≤ x) = true := decide_eq_true hx.1
  show _ = some (Obj.cells #[_, _, .bool (decide (0 ≤ x)), _] _ _)
  rw [e1, e2]
  rfl
end
end Go.Proofs.Ytegniklofhopeaa.Dk
