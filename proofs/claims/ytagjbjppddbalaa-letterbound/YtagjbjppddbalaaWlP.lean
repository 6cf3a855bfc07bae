/- PLAIN LEAN: a node's Hard, its records, its segments (chapter 18); no Go walked here. -/
import Derived.Test.YtagjbjppddbalaaWlN
import Derived.Test.YtagjbjppddbalaaFmC
import Derived.Test.YtagjbjppddbalaaEtK
namespace Go.Proofs.Ytagjbjppddbalaa.Wl
open Pk

structure H where
  term : Int
  vote : Int
  base : Int
  bt : Int
  mem : Int
  snap : ByteArray
  log : List Et.T
def H.with (h : H) (l : List Et.T) : H := ⟨h.term, h.vote, h.base, h.bt, h.mem, h.snap, l⟩
def H.bare (h : H) : H := ⟨h.term, h.vote, h.base, h.bt, h.mem, .empty, h.log⟩
def within (n lo hi : Int) : Bool := decide (lo ≤ n) && decide (n ≤ hi)
def top : Int := 1099511627776
/-- a Hard that may be, its Snap and Log aside (P18.1) -/
def headed (h : H) : Bool := within h.term 0 top && (within h.vote (-1) 6 && (within h.base 0 top && (within h.bt 0 h.term && (((h.bt == 0) == (h.base == 0)) && within h.mem 1 127))))
def last (h : H) : Int := h.base + (h.log.length : Int)
def lastTerm (h : H) : Int := (h.log.getLast?.map Et.T.term).getD h.bt
/-- one entry more -/
def fits (h : H) (e : Et.T) : Bool := decide (h.log.length < 200) && (decide (last h < top) && (within e.term (max 1 (lastTerm h)) h.term && (within e.mem 0 127 && (decide (e.data.size ≤ 1100) && ((e.mem == 0) || decide (e.data.size = 0))))))
/-- entries behind those that are there, one by one -/
def more (h : H) : List Et.T → Bool
  | [] => true
  | e :: l => fits h e && more (h.with (h.log ++ [e])) l
def snapOk (h : H) : Bool := (decide (h.snap.size = 0) == (h.base == 0)) && decide (h.snap.size ≤ 65536)
def right (h : H) : Bool := headed h && (snapOk h && more (h.with []) h.log)
/-! ### records -/
inductive Rec where
  | beg (term vote base bt mem : Int)
  | ent (e : Et.T)
  | rdy
  | vot (term vote : Int)
  | cut (n : Int)
def Rec.Ok : Rec → Prop
  | .beg t v b c m => Fit t ∧ Fit v ∧ Fit b ∧ Fit c ∧ Fit m
  | .ent e => Fit e.term ∧ Fit e.mem ∧ e.data.size ≤ 1100
  | .rdy => True
  | .vot t v => Fit t ∧ Fit v
  | .cut n => Fit n
/-- a record's payload -/
def pay : Rec → List UInt8
  | .beg t v b c m => nm 1 ++ (nm t ++ (nm v ++ (nm b ++ (nm c ++ nm m))))
  | .ent e => nm 2 ++ (nm e.term ++ (nm e.mem ++ tx e.data))
  | .rdy => nm 3
  | .vot t v => nm 4 ++ (nm t ++ nm v)
  | .cut n => nm 5 ++ nm n
def fin (bs : List UInt8) (s : St) (r : Rec) : Option Rec := if (rEnd bs s).1 = 0 then some r else none
/-- what a payload says -/
def parseB (bs : List UInt8) (s : St) : Option Rec :=
  fin bs (rNum bs (rNum bs (rNum bs (rNum bs (rNum bs s).2).2).2).2).2 (.beg (rNum bs s).1 (rNum bs (rNum bs s).2).1 (rNum bs (rNum bs (rNum bs s).2).2).1 (rNum bs (rNum bs (rNum bs (rNum bs s).2).2).2).1 (rNum bs (rNum bs (rNum bs (rNum bs (rNum bs s).2).2).2).2).1)
def parseE (bs : List UInt8) (s : St) : Option Rec :=
  fin bs (rText bs 1100 (rNum bs (rNum bs s).2).2).2 (.ent ⟨(rNum bs s).1, (rNum bs (rNum bs s).2).1, (rText bs 1100 (rNum bs (rNum bs s).2).2).1⟩)
def parseV (bs : List UInt8) (s : St) : Option Rec := fin bs (rNum bs (rNum bs s).2).2 (.vot (rNum bs s).1 (rNum bs (rNum bs s).2).1)
def parseC (bs : List UInt8) (s : St) : Option Rec := fin bs (rNum bs s).2 (.cut (rNum bs s).1)
def parse (bs : List UInt8) : Option Rec :=
  if (rNum bs s0).1 = 1 then parseB bs (rNum bs s0).2 else if (rNum bs s0).1 = 2 then parseE bs (rNum bs s0).2 else if (rNum bs s0).1 = 3 then fin bs (rNum bs s0).2 .rdy
  else if (rNum bs s0).1 = 4 then parseV bs (rNum bs s0).2 else if (rNum bs s0).1 = 5 then parseC bs (rNum bs s0).2 else none
theorem fit_small {n : Int} (h : 0 ≤ n) (k : n ≤ 1000) : Fit n := ⟨by omega, by omega⟩
theorem fin_ok {bs : List UInt8} {s : St} {r : Rec} (h : Rem bs s []) : fin bs s r = some r := if_pos (rem_end h)
/-- a record comes back from its payload -/
theorem parse_pay {r : Rec} (h : r.Ok) : parse (pay r) = some r := by
  have h0 := rem_start (pay r)
  unfold parse
  cases r with
  | beg t v b c m =>
    obtain ⟨k1, k2, k3, k4, k5⟩ := h
    obtain ⟨e0, h1⟩ := fwd_num (n := 1) h0 (fit_small (by omega) (by omega))
    rw [if_pos e0]
    obtain ⟨e1, h2⟩ := fwd_num h1 k1
    obtain ⟨e2, h3⟩ := fwd_num h2 k2
    obtain ⟨e3, h4⟩ := fwd_num h3 k3
    obtain ⟨e4, h5⟩ := fwd_num h4 k4
    obtain ⟨e5, h6⟩ := fwd_num (r := []) (by rw [List.append_nil]; exact h5) k5
    unfold parseB
    rw [fin_ok h6, e1, e2, e3, e4, e5]
  | ent e =>
    obtain ⟨k1, k2, k3⟩ := h
    obtain ⟨e0, h1⟩ := fwd_num (n := 2) h0 (fit_small (by omega) (by omega))
    rw [if_neg (by omega), if_pos e0]
    obtain ⟨e1, h2⟩ := fwd_num h1 k1
    obtain ⟨e2, h3⟩ := fwd_num h2 k2
    obtain ⟨e3, h4⟩ := fwd_text (most := 1100) (r := []) (by rw [List.append_nil]; exact h3) (by omega) (by omega)
    unfold parseE
    rw [fin_ok h4, e1, e2, e3]
  | rdy =>
    obtain ⟨e0, h1⟩ := fwd_num (n := 3) (r := []) (by rw [List.append_nil]; exact h0) (fit_small (by omega) (by omega))
    rw [if_neg (by omega), if_neg (by omega), if_pos e0, fin_ok h1]
  | vot t v =>
    obtain ⟨k1, k2⟩ := h
    obtain ⟨e0, h1⟩ := fwd_num (n := 4) h0 (fit_small (by omega) (by omega))
    rw [if_neg (by omega), if_neg (by omega), if_neg (by omega), if_pos e0]
    obtain ⟨e1, h2⟩ := fwd_num h1 k1
    obtain ⟨e2, h3⟩ := fwd_num (r := []) (by rw [List.append_nil]; exact h2) k2
    unfold parseV
    rw [fin_ok h3, e1, e2]
  | cut n =>
    obtain ⟨e0, h1⟩ := fwd_num (n := 5) h0 (fit_small (by omega) (by omega))
    rw [if_neg (by omega), if_neg (by omega), if_neg (by omega), if_neg (by omega), if_pos e0]
    obtain ⟨e1, h2⟩ := fwd_num (r := []) (by rw [List.append_nil]; exact h1) h
    unfold parseC
    rw [fin_ok h2, e1]
/-! ### segments -/
structure Sg where
  h : H
  begun : Bool
  ready : Bool
def empty : Sg := ⟨⟨0, -1, 0, 0, 0, .empty, []⟩, false, false⟩
def Sg.with (s : Sg) (h : H) : Sg := ⟨h, s.begun, s.ready⟩
def beginS (s : Sg) (h : H) : Option Sg := if s.begun = true then none else if headed h = false then none else some ⟨h, true, s.ready⟩
def addS (s : Sg) (e : Et.T) : Option Sg := if s.begun = false then none else if fits s.h e = false then none else some (s.with (s.h.with (s.h.log ++ [e])))
def closeS (s : Sg) : Option Sg := if s.begun = false then none else if s.ready = true then none else some ⟨s.h, s.begun, true⟩
def H.vote' (h : H) (t v : Int) : H := ⟨t, v, h.base, h.bt, h.mem, h.snap, h.log⟩
def voteS (s : Sg) (t v : Int) : Option Sg :=
  if s.ready = false then none else if t < s.h.term then none else if t = s.h.term ∧ s.h.vote ≠ -1 then none else if headed (s.h.vote' t v) = false then none else some (s.with (s.h.vote' t v))
def cutS (s : Sg) (n : Int) : Option Sg := if s.ready = false then none else if within n s.h.base (last s.h) = false then none else some (s.with (s.h.with (s.h.log.take (n - s.h.base).toNat)))
def step (s : Sg) : Rec → Option Sg
  | .beg t v b c m => beginS s ⟨t, v, b, c, m, .empty, []⟩
  | .ent e => addS s e
  | .rdy => closeS s
  | .vot t v => voteS s t v
  | .cut n => cutS s n
def take (s : Sg) (p : List UInt8) : Option Sg := (parse p).bind (step s)
/-- a segment's bytes: what they come to, and where the records end -/
def readF : Nat → Sg → List UInt8 → Sg × Nat
  | 0, s, _ => (s, 0)
  | k + 1, s, bs => if (Fm.nextF bs).2.2 ≠ 0 then (s, 0) else match take s (Fm.nextF bs).1 with
    | none => (s, 0)
    | some s' => ((readF k s' (bs.drop (Fm.nextF bs).2.1)).1, (Fm.nextF bs).2.1 + (readF k s' (bs.drop (Fm.nextF bs).2.1)).2)
def read (bs : List UInt8) : Sg × Nat := readF (bs.length + 1) empty bs
/-- records one behind the other, whatever cannot be left out -/
def runAll (s : Sg) : List (List UInt8) → Sg
  | [] => s
  | p :: l => runAll ((take s p).getD s) l
/-! ### what is written -/
def frames : List (List UInt8) → List UInt8
  | [] => []
  | p :: l => Fm.frame p ++ frames l
def ents (l : List Et.T) : List Rec := l.map .ent
def whole (h : H) : List Rec := .beg h.term h.vote h.base h.bt h.mem :: (ents h.log ++ [.rdy])
def begun : List Et.T → List Et.T → Nat
  | a :: l, b :: m => if a.term = b.term ∧ a.mem = b.mem ∧ a.data = b.data then begun l m + 1 else 0
  | _, _ => 0
def change (was h : H) : List Rec :=
  (if h.term ≠ was.term ∨ h.vote ≠ was.vote then [.vot h.term h.vote] else []) ++ ((if begun was.log h.log < was.log.length then [.cut (h.base + (begun was.log h.log : Int))] else []) ++ ents (h.log.drop (begun was.log h.log)))
def pays (l : List Rec) : List (List UInt8) := l.map pay
end Go.Proofs.Ytagjbjppddbalaa.Wl
