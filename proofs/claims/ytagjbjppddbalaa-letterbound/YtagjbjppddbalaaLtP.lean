/- PLAIN LEAN: a letter's bytes, written and read; which letters may be (chapter 20). No Go walked here. -/
import Derived.Test.YtagjbjppddbalaaWlP
set_option linter.unusedVariables false
namespace Go.Proofs.Ytagjbjppddbalaa.Lr
open Pk

structure M where
  kind : Int
  frm : Int
  to : Int
  term : Int
  idx : Int
  bt : Int
  com : Int
  mem : Int
  off : Int
  size : Int
  yes : Bool
  data : ByteArray
  ents : List Et.T
def zeroM : M := ⟨0, 0, 0, 0, 0, 0, 0, 0, 0, 0, false, .empty, []⟩
/-! ### bytes -/
def flB (b : Bool) : List UInt8 := Wl.nm (if b = true then 1 else 0)
def entB (e : Et.T) : List UInt8 := Wl.nm e.term ++ (Wl.nm e.mem ++ Wl.tx e.data)
def entsB : List Et.T → List UInt8
  | [] => []
  | e :: l => entB e ++ entsB l
theorem entsB_app : ∀ a b : List Et.T, entsB (a ++ b) = entsB a ++ entsB b
  | [], _ => rfl
  | x :: a, b => by rw [List.cons_append, entsB, entsB, entsB_app a b, List.append_assoc]
def numsB : List Int → List UInt8
  | [] => []
  | n :: l => Wl.nm n ++ numsB l
theorem numsB_app : ∀ a b : List Int, numsB (a ++ b) = numsB a ++ numsB b
  | [], _ => rfl
  | x :: a, b => by rw [List.cons_append, numsB, numsB, numsB_app a b, List.append_assoc]
def M.ten (m : M) : List Int := [m.kind, m.frm, m.to, m.term, m.idx, m.bt, m.com, m.mem, m.off, m.size]
def M.bytes (m : M) : List UInt8 := numsB m.ten ++ (flB m.yes ++ (Wl.tx m.data ++ (Wl.nm (m.ents.length : Int) ++ entsB m.ents)))
/-! ### reading -/
def rFlag (bs : List UInt8) (s : St) : Bool × St := if (rNum bs s).1 ≠ 0 ∧ (rNum bs s).1 ≠ 1 then (false, ⟨s.at', 4⟩) else (decide ((rNum bs s).1 = 1), (rNum bs s).2)
def rEnt (bs : List UInt8) (s : St) : Et.T × St :=
  (⟨(rNum bs s).1, (rNum bs (rNum bs s).2).1, (rText bs 1100 (rNum bs (rNum bs s).2).2).1⟩, (rText bs 1100 (rNum bs (rNum bs s).2).2).2)
def rEnts (bs : List UInt8) : Nat → St → List Et.T × St
  | 0, s => ([], s)
  | k + 1, s => ((rEnt bs s).1 :: (rEnts bs k (rEnt bs s).2).1, (rEnts bs k (rEnt bs s).2).2)
/-- the state behind so many numbers; the number there -/
def sN (bs : List UInt8) (s : St) : Nat → St
  | 0 => s
  | k + 1 => (rNum bs (sN bs s k)).2
def vN (bs : List UInt8) (s : St) (k : Nat) : Int := (rNum bs (sN bs s k)).1
def sF (bs : List UInt8) (s : St) : St := (rFlag bs (sN bs s 10)).2
def sT (bs : List UInt8) (s : St) : St := (rText bs 600 (sF bs s)).2
def sC (bs : List UInt8) (s : St) : St := (rCount bs 8 (sT bs s)).2
def nC (bs : List UInt8) (s : St) : Nat := (rCount bs 8 (sT bs s)).1.toNat
def rM (bs : List UInt8) (s : St) : M :=
  ⟨vN bs s 0, vN bs s 1, vN bs s 2, vN bs s 3, vN bs s 4, vN bs s 5, vN bs s 6, vN bs s 7, vN bs s 8, vN bs s 9, (rFlag bs (sN bs s 10)).1, (rText bs 600 (sF bs s)).1, (rEnts bs (nC bs s) (sC bs s)).1⟩
def eM (bs : List UInt8) (s : St) : St := (rEnts bs (nC bs s) (sC bs s)).2
/-! ### which letters may be -/
def headB (m : M) : Bool := Wl.within m.frm 0 6 && (Wl.within m.to 0 6 && (decide (m.frm ≠ m.to) && (Wl.within m.term 1 Wl.top && (Wl.within m.idx 0 Wl.top && (Wl.within m.bt 0 m.term && Wl.within m.com 0 Wl.top)))))
structure Co where
  idx : Int
  bt : Int
  com : Int
  mem : Int
  off : Int
  size : Int
  yes : Bool
  data : ByteArray
  n : Int
def allM (m : M) : Co := ⟨m.idx, m.bt, m.com, m.mem, m.off, m.size, m.yes, m.data, (m.ents.length : Int)⟩
def namedM (m : M) : Co :=
  if m.kind = 1 then ⟨m.idx, m.bt, 0, 0, 0, 0, false, .empty, 0⟩
  else if m.kind = 2 then ⟨0, 0, 0, 0, 0, 0, m.yes, .empty, 0⟩
  else if m.kind = 3 then ⟨m.idx, m.bt, m.com, 0, 0, 0, false, .empty, (m.ents.length : Int)⟩
  else if m.kind = 4 then ⟨m.idx, 0, 0, 0, 0, 0, m.yes, .empty, 0⟩
  else if m.kind = 5 then ⟨m.idx, m.bt, 0, m.mem, m.off, m.size, false, m.data, 0⟩
  else if m.kind = 6 then ⟨m.idx, 0, 0, 0, m.off, 0, false, .empty, 0⟩
  else ⟨0, 0, 0, 0, 0, 0, false, .empty, 0⟩
def Co.eqB (a b : Co) : Bool := decide (a.idx = b.idx ∧ a.bt = b.bt ∧ a.com = b.com ∧ a.mem = b.mem ∧ a.off = b.off ∧ a.size = b.size ∧ a.yes = b.yes ∧ a.data = b.data ∧ a.n = b.n)
theorem Co.eqB_iff (a b : Co) : Co.eqB a b = true ↔ a = b := by
  unfold Co.eqB
  rw [decide_eq_true_iff]
  constructor
  · rintro ⟨h1, h2, h3, h4, h5, h6, h7, h8, h9⟩
    cases a
    cases b
    simp_all
  · rintro rfl
    simp
def bareB (m : M) : Bool := Co.eqB (allM m) (namedM m)
def pieceB (m : M) : Bool := Wl.within m.size 1 65536 && (Wl.within m.off 0 (m.size - 1) && Wl.within (m.data.size : Int) 1 (min 600 (m.size - m.off)))
def toldH (m : M) : Wl.H := ⟨m.term, 0, m.idx, m.bt, 127, if m.idx = 0 then .empty else "any".toByteArray, m.ents⟩
def fitsB (m : M) : Bool :=
  if m.kind = 2 then true
  else if m.kind = 4 then true
  else if m.kind = 1 then decide (m.ents.length ≤ 8) && Wl.right (toldH m)
  else if m.kind = 3 then decide (m.ents.length ≤ 8) && Wl.right (toldH m)
  else if m.kind = 5 then decide (m.idx ≠ 0) && (decide (m.bt ≠ 0) && (Wl.within m.mem 1 127 && pieceB m))
  else if m.kind = 6 then decide (m.idx ≠ 0) && Wl.within m.off 0 65536
  else false
def rightB (m : M) : Bool := headB m && (bareB m && fitsB m)
def putM (m : M) : List UInt8 := if rightB m = true then m.bytes else []
def getE (bs : List UInt8) : Int := if (rEnd bs (eM bs Wl.s0)).1 ≠ 0 then (rEnd bs (eM bs Wl.s0)).1 else if rightB (rM bs Wl.s0) = true then 0 else 4
def getM (bs : List UInt8) : M := if (rEnd bs (eM bs Wl.s0)).1 = 0 ∧ rightB (rM bs Wl.s0) = true then rM bs Wl.s0 else zeroM
/-! ### what a right letter is -/
theorem more_row : ∀ (l : List Et.T) (h : Wl.H), Wl.more h l = true → ∀ e ∈ l, (1 ≤ e.term ∧ e.term ≤ h.term) ∧ (0 ≤ e.mem ∧ e.mem ≤ 127) ∧ e.data.size ≤ 1100
  | [], _, _, e, he => by cases he
  | x :: l, h, k, e, he => by
    rw [Wl.more, Bool.and_eq_true] at k
    rcases List.mem_cons.1 he with rfl | he
    · have k1 := k.1
      unfold Wl.fits Wl.within at k1
      simp only [Bool.and_eq_true, decide_eq_true_eq] at k1
      omega
    · exact more_row l _ k.2 e he
structure Ok (m : M) : Prop where
  kind : 1 ≤ m.kind ∧ m.kind ≤ 6
  frm : 0 ≤ m.frm ∧ m.frm ≤ 6
  to : 0 ≤ m.to ∧ m.to ≤ 6
  term : 1 ≤ m.term ∧ m.term ≤ 1099511627776
  idx : 0 ≤ m.idx ∧ m.idx ≤ 1099511627776
  bt : 0 ≤ m.bt ∧ m.bt ≤ m.term
  com : 0 ≤ m.com ∧ m.com ≤ 1099511627776
  mem : 0 ≤ m.mem ∧ m.mem ≤ 127
  off : 0 ≤ m.off ∧ m.off ≤ 65536
  size : 0 ≤ m.size ∧ m.size ≤ 65536
  data : m.data.size ≤ 600
  n : m.ents.length ≤ 8
  ents : ∀ e ∈ m.ents, (1 ≤ e.term ∧ e.term ≤ m.term) ∧ (0 ≤ e.mem ∧ e.mem ≤ 127) ∧ e.data.size ≤ 1100
theorem ok_of {m : M} (h : rightB m = true) : Ok m := by
  unfold rightB at h
  rw [Bool.and_eq_true, Bool.and_eq_true] at h
  obtain ⟨h1, h2, h3⟩ := h
  unfold headB Wl.within Wl.top at h1
  simp only [Bool.and_eq_true, decide_eq_true_eq] at h1
  obtain ⟨a1, a2, a3, a4, a5, a6, a7⟩ := h1
  have hb : allM m = namedM m := (Co.eqB_iff _ _).1 h2
  have hk : 1 ≤ m.kind ∧ m.kind ≤ 6 := by
    unfold fitsB at h3
    by_cases k1 : m.kind = 2
    · omega
    by_cases k2 : m.kind = 4
    · omega
    by_cases k3 : m.kind = 1
    · omega
    by_cases k4 : m.kind = 3
    · omega
    by_cases k5 : m.kind = 5
    · omega
    by_cases k6 : m.kind = 6
    · omega
    rw [if_neg k1, if_neg k2, if_neg k3, if_neg k4, if_neg k5, if_neg k6] at h3
    cases h3
  have es : ByteArray.empty.size = 0 := rfl
  have hn : ∀ k : Nat, (m.ents.length : Int) = 0 → m.ents = [] := fun _ z => List.length_eq_zero_iff.1 (by omega)
  have hlog : (decide (m.ents.length ≤ 8) && Wl.right (toldH m)) = true → m.ents.length ≤ 8 ∧ ∀ e ∈ m.ents, (1 ≤ e.term ∧ e.term ≤ m.term) ∧ (0 ≤ e.mem ∧ e.mem ≤ 127) ∧ e.data.size ≤ 1100 := by
    intro z
    rw [Bool.and_eq_true, decide_eq_true_eq] at z
    refine ⟨z.1, fun e he => ?_⟩
    have z2 := z.2
    unfold Wl.right at z2
    rw [Bool.and_eq_true, Bool.and_eq_true] at z2
    exact more_row m.ents _ z2.2.2 e he
  have hk6 : m.kind = 1 ∨ m.kind = 2 ∨ m.kind = 3 ∨ m.kind = 4 ∨ m.kind = 5 ∨ m.kind = 6 := by omega
  unfold fitsB at h3
  unfold allM namedM at hb
  rcases hk6 with k | k | k | k | k | k
  · simp only [k, if_true, if_neg (show ¬ (1 : Int) = 2 by decide), if_neg (show ¬ (1 : Int) = 4 by decide)] at h3 hb
    injection hb with b1 b2 b3 b4 b5 b6 b7 b8 b9
    obtain ⟨z1, z2⟩ := hlog h3
    exact ⟨hk, a1, a2, a4, a5, a6, a7, by omega, by omega, by omega, by rw [b8, es]; omega, z1, z2⟩
  · simp only [k, if_true, if_neg (show ¬ (2 : Int) = 1 by decide)] at hb
    injection hb with b1 b2 b3 b4 b5 b6 b7 b8 b9
    have e := hn 0 b9
    exact ⟨hk, a1, a2, a4, a5, a6, a7, by omega, by omega, by omega, by rw [b8, es]; omega, by omega, by rw [e]; intro e he; cases he⟩
  · simp only [k, if_true, if_neg (show ¬ (3 : Int) = 1 by decide), if_neg (show ¬ (3 : Int) = 2 by decide), if_neg (show ¬ (3 : Int) = 4 by decide)] at h3 hb
    injection hb with b1 b2 b3 b4 b5 b6 b7 b8 b9
    obtain ⟨z1, z2⟩ := hlog h3
    exact ⟨hk, a1, a2, a4, a5, a6, a7, by omega, by omega, by omega, by rw [b8, es]; omega, z1, z2⟩
  · simp only [k, if_true, if_neg (show ¬ (4 : Int) = 1 by decide), if_neg (show ¬ (4 : Int) = 2 by decide), if_neg (show ¬ (4 : Int) = 3 by decide)] at hb
    injection hb with b1 b2 b3 b4 b5 b6 b7 b8 b9
    have e := hn 0 b9
    exact ⟨hk, a1, a2, a4, a5, a6, a7, by omega, by omega, by omega, by rw [b8, es]; omega, by omega, by rw [e]; intro e he; cases he⟩
  · simp only [k, if_true, if_neg (show ¬ (5 : Int) = 1 by decide), if_neg (show ¬ (5 : Int) = 2 by decide), if_neg (show ¬ (5 : Int) = 3 by decide), if_neg (show ¬ (5 : Int) = 4 by decide)] at h3 hb
    injection hb with b1 b2 b3 b4 b5 b6 b7 b8 b9
    have e := hn 0 b9
    unfold pieceB Wl.within at h3
    simp only [Bool.and_eq_true, decide_eq_true_eq] at h3
    exact ⟨hk, a1, a2, a4, a5, a6, a7, by omega, by omega, by omega, by omega, by omega, by rw [e]; intro e he; cases he⟩
  · simp only [k, if_true, if_neg (show ¬ (6 : Int) = 1 by decide), if_neg (show ¬ (6 : Int) = 2 by decide), if_neg (show ¬ (6 : Int) = 3 by decide), if_neg (show ¬ (6 : Int) = 4 by decide), if_neg (show ¬ (6 : Int) = 5 by decide)] at h3 hb
    injection hb with b1 b2 b3 b4 b5 b6 b7 b8 b9
    have e := hn 0 b9
    unfold Wl.within at h3
    simp only [Bool.and_eq_true, decide_eq_true_eq] at h3
    exact ⟨hk, a1, a2, a4, a5, a6, a7, by omega, by omega, by omega, by rw [b8, es]; omega, by omega, by rw [e]; intro e he; cases he⟩
end Go.Proofs.Ytagjbjppddbalaa.Lr
