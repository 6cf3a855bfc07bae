/- ROWS OF RATES THAT LIE ONE BEHIND THE OTHER. -/
import Derived.Test.YtgcjhlnolmjdeaaVatK
namespace Go.Proofs.Ytgcjhlnolmjdeaa
open Go.RowKit
open Vt (Rt)

/-- a row lies at a place of a block -/
structure RowAt (u : World) (b o : Nat) (r : Rt) : Prop where
  c0 : u.cell? ⟨b, o, none⟩ = some (.string r.cat)
  c1 : u.cell? ⟨b, o + 1, none⟩ = some (.int .i64 r.y)
  c2 : u.cell? ⟨b, o + 2, none⟩ = some (.int .i64 r.m)
  c3 : u.cell? ⟨b, o + 3, none⟩ = some (.int .i64 r.d)
  c4 : u.cell? ⟨b, o + 4, none⟩ = some (.int .i64 r.bp)
theorem RowAt.below {u v : World} {b o : Nat} {r : Rt} (h : RowAt u b o r) (k : Below u.heap.size u v) : RowAt v b o r := by
  have hl := cell_lt h.c0
  exact ⟨by rw [(bcell k).1 _ _ hl]; exact h.c0, by rw [(bcell k).1 _ _ hl]; exact h.c1, by rw [(bcell k).1 _ _ hl]; exact h.c2, by rw [(bcell k).1 _ _ hl]; exact h.c3, by rw [(bcell k).1 _ _ hl]; exact h.c4⟩
/-- rows lie at an address -/
def SegR (w : World) (ao : Option Addr) (rs : List Rt) : Prop := rs = [] ∨ ∃ b off, ao = some ⟨b, off, none⟩ ∧ ∀ (k : Nat) (hk : k < rs.length), RowAt w b (off + k * 5) rs[k]
theorem SegR.below {w v : World} {ao : Option Addr} {rs : List Rt} (h : SegR w ao rs) (k : Below w.heap.size w v) : SegR v ao rs := by
  rcases h with h | ⟨b, off, e, h⟩
  · exact .inl h
  · exact .inr ⟨b, off, e, fun i hi => (h i hi).below k⟩
/-- a slice of rows, as a contract takes it -/
structure Rts (w : World) (ao : Option Addr) (n cap : Nat) (rs : List Rt) : Prop where
  len : n = rs.length
  fits : n ≤ cap
  reach : cap ≤ 9223372036854775807
  nil : ao = none → cap = 0
  seg : SegR w ao rs
  short : ∀ r ∈ rs, Short r
theorem Rts.below {w v : World} {ao : Option Addr} {n cap : Nat} {rs : List Rt} (h : Rts w ao n cap rs) (k : Below w.heap.size w v) : Rts v ao n cap rs :=
  ⟨h.len, h.fits, h.reach, h.nil, h.seg.below k, h.short⟩
theorem Rts.at {w : World} {ao : Option Addr} {n cap : Nat} {rs : List Rt} (h : Rts w ao n cap rs) (hn : 0 < n) : ∃ b off, ao = some ⟨b, off, none⟩ := by
  rcases h.seg with e | ⟨b, off, e, _⟩
  · have := h.len
    rw [e] at this
    simp at this
    omega
  · exact ⟨b, off, e⟩
theorem Rts.row {w : World} {b off n cap : Nat} {rs : List Rt} (h : Rts w (some ⟨b, off, none⟩) n cap rs) (k : Nat) (hk : k < rs.length) : RowAt w b (off + k * 5) rs[k] := by
  rcases h.seg with e | ⟨b', off', e, hs⟩
  · subst e
    simp at hk
  · cases e
    exact hs k hk
end Go.Proofs.Ytgcjhlnolmjdeaa
