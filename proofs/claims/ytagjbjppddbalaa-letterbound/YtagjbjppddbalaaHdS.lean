/- api.Hard: ROWS THAT LIE ONE BEHIND THE OTHER, AND PIECES OF THEM. (By genrows.py.) -/
import Derived.Test.YtagjbjppddbalaaHdK
namespace Go.Proofs.Ytagjbjppddbalaa.Hd
open Go.RowKit
open Mem

/-- a row lies at a place of a block -/
structure At (u : World) (b o : Nat) (r : T) : Prop where
  c0 : u.cell? ⟨b, o, none⟩ = some (.int .i64 r.term)
  c1 : u.cell? ⟨b, o + 1, none⟩ = some (.int .i64 r.vote)
  c2 : u.cell? ⟨b, o + 2, none⟩ = some (.int .i64 r.base)
  c3 : u.cell? ⟨b, o + 3, none⟩ = some (.int .i64 r.bt)
  c4 : u.cell? ⟨b, o + 4, none⟩ = some (.int .i64 r.mem)
  c5 : u.cell? ⟨b, o + 5, none⟩ = some (.string r.snap)
  c6 : u.cell? ⟨b, o + 6, none⟩ = some (.slice r.log.ao r.log.n r.log.cap)
theorem At.below {u v : World} {b o : Nat} {r : T} (h : At u b o r) (k : Below u.heap.size u v) : At v b o r := by
  have hl := cell_lt h.c0
  exact ⟨by rw [(bcell k).1 _ _ hl]; exact h.c0, by rw [(bcell k).1 _ _ hl]; exact h.c1, by rw [(bcell k).1 _ _ hl]; exact h.c2, by rw [(bcell k).1 _ _ hl]; exact h.c3, by rw [(bcell k).1 _ _ hl]; exact h.c4, by rw [(bcell k).1 _ _ hl]; exact h.c5, by rw [(bcell k).1 _ _ hl]; exact h.c6⟩
/-- rows lie at an address -/
def Seg (w : World) (ao : Option Addr) (rs : List T) : Prop := rs = [] ∨ ∃ b off, ao = some ⟨b, off, none⟩ ∧ ∀ (k : Nat) (hk : k < rs.length), At w b (off + k * 7) rs[k]
theorem Seg.below {w v : World} {ao : Option Addr} {rs : List T} (h : Seg w ao rs) (k : Below w.heap.size w v) : Seg v ao rs := by
  rcases h with h | ⟨b, off, e, h⟩
  · exact .inl h
  · exact .inr ⟨b, off, e, fun i hi => (h i hi).below k⟩
/-- a slice of rows, as a contract takes it -/
structure Ls (w : World) (ao : Option Addr) (n cap : Nat) (rs : List T) : Prop where
  len : n = rs.length
  fits : n ≤ cap
  reach : cap ≤ 9223372036854775807
  nil : ao = none → cap = 0
  seg : Seg w ao rs
  short : ∀ r ∈ rs, Short r
theorem Ls.below {w v : World} {ao : Option Addr} {n cap : Nat} {rs : List T} (h : Ls w ao n cap rs) (k : Below w.heap.size w v) : Ls v ao n cap rs :=
  ⟨h.len, h.fits, h.reach, h.nil, h.seg.below k, h.short⟩
theorem Ls.at {w : World} {ao : Option Addr} {n cap : Nat} {rs : List T} (h : Ls w ao n cap rs) (hn : 0 < n) : ∃ b off, ao = some ⟨b, off, none⟩ := by
  rcases h.seg with e | ⟨b, off, e, _⟩
  · have := h.len
    rw [e] at this
    simp at this
    omega
  · exact ⟨b, off, e⟩
theorem Ls.row {w : World} {b off n cap : Nat} {rs : List T} (h : Ls w (some ⟨b, off, none⟩) n cap rs) (k : Nat) (hk : k < rs.length) : At w b (off + k * 7) rs[k] := by
  rcases h.seg with e | ⟨b', off', e, hs⟩
  · subst e
    simp at hk
  · cases e
    exact hs k hk
theorem ls_nil (w : World) : Ls w none 0 0 [] := ⟨rfl, Nat.le_refl _, by omega, fun _ => rfl, .inl rfl, by simp⟩
end Go.Proofs.Ytagjbjppddbalaa.Hd
