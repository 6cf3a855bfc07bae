/- PLAIN LEAN: what the document's own answer takes for a right letter is what the chapter does. No Go walked here. -/
import Derived.Test.YtagjbjppddbalaaZLt2
import Derived.Test.YtagjbjppddbalaaYLtWlRr
set_option linter.unusedVariables false
namespace Go.Proofs.Ytagjbjppddbalaa.Lr
open Pk Wl
theorem of_more (h : H) : ∀ (l p : List Et.T),more (h.with p) l = true → h.base + (p.length : Int) ≤ 1099511627776 → rAll h.term (lastTerm (h.with p)) l = true ∧ h.base + ((p.length + l.length : Nat) : Int) ≤ 1099511627776
 | [],p,_,k => ⟨rfl,by simpa using k⟩
 | e :: l,p,k,k1 => by
  rw [more,Bool.and_eq_true] at k
  obtain ⟨kf,km⟩ := k
  unfold Wl.fits within last top at kf
  simp only [Bool.and_eq_true,Bool.or_eq_true,decide_eq_true_eq,beq_iff_eq] at kf
  have hl : (h.with p).log.length = p.length := rfl
  have hb : (h.with p).base = h.base := rfl
  have ht : (h.with p).term = h.term := rfl
  rw [hl,hb,ht] at kf
  obtain ⟨f1,f2,⟨f3,f4⟩,⟨f5,f6⟩,f7,f8⟩ := kf
  obtain ⟨g1,g2⟩ := of_more h l (p ++ [e]) km (by rw [List.length_append,List.length_singleton]; omega)
  rw [lastTerm_with] at g1
  rw [List.length_append,List.length_singleton] at g2
  refine ⟨?_,by rw [List.length_cons]; omega⟩
  unfold rAll
  rw [Bool.and_eq_true]
  refine ⟨?_,g1⟩
  unfold rEntry
  simp only [Bool.and_eq_true,Bool.or_eq_true,decide_eq_true_eq,beq_iff_eq]
  refine ⟨by omega,by omega,f4,f5,by omega,by omega,?_⟩
  rcases f8 with z | z
  · exact .inl z
  ·
   refine .inr ?_
   have := txt_len e.data
   rw [z,List.length_eq_zero_iff] at this
   rw [tl]
   exact this
def rTop (m : M) : Bool := !decide (m.kind < 1) && (!decide (m.kind > 6) && (!decide (m.frm < 0) && (!decide (m.frm ≥ 7) && (!decide (m.to < 0) && (!decide (m.to ≥ 7) && (!decide (m.frm = m.to) && (!decide (m.term < 1) && (!decide (m.term > 1099511627776) && (!decide (m.idx < 0) && (!decide (m.idx > 1099511627776) && (!decide (m.bt < 0) && (!decide (m.bt > m.term) && (!decide (m.com < 0) && !decide (m.com > 1099511627776))))))))))))))
def rPiece (m : M) : Bool := !decide (m.idx = 0) && (!decide (m.bt = 0) && (!decide (m.mem < 1) && (!decide (m.mem ≥ 128) && (!decide (m.size < 1) && (!decide (m.size > 65536) && (!decide (m.off < 0) && (!decide (m.off ≥ m.size) && (!decide ((m.data.size : Int) < 1) && (!decide ((m.data.size : Int) > 600) && !decide ((m.data.size : Int) > m.size - m.off))))))))))
def rKind (m : M) : Bool :=
 if m.kind = 1 then (m.idx == 0) == (m.bt == 0)
 else if m.kind = 2 then true
 else if m.kind = 3 then ((m.idx == 0) == (m.bt == 0)) && (!decide ((m.ents.length : Int) > 8) && (!decide (m.idx > 1099511627776 - (m.ents.length : Int)) && rAll m.term m.bt m.ents))
 else if m.kind = 4 then true
 else if m.kind = 5 then rPiece m
 else !decide (m.idx = 0) && (!decide (m.off < 0) && !decide (m.off > 65536))
def rNamed (m : M) : M :=
 if m.kind = 1 then ⟨m.kind,m.frm,m.to,m.term,m.idx,m.bt,0,0,0,0,false,.empty,[]⟩
 else if m.kind = 2 then ⟨m.kind,m.frm,m.to,m.term,0,0,0,0,0,0,m.yes,.empty,[]⟩
 else if m.kind = 3 then ⟨m.kind,m.frm,m.to,m.term,m.idx,m.bt,m.com,0,0,0,false,.empty,[]⟩
 else if m.kind = 4 then ⟨m.kind,m.frm,m.to,m.term,m.idx,0,0,0,0,0,m.yes,.empty,[]⟩
 else if m.kind = 5 then ⟨m.kind,m.frm,m.to,m.term,m.idx,m.bt,0,m.mem,m.off,m.size,false,m.data,[]⟩
 else ⟨m.kind,m.frm,m.to,m.term,m.idx,0,0,0,m.off,0,false,.empty,[]⟩
def rBare (m : M) : Bool := decide (m.idx = (rNamed m).idx) && (decide (m.bt = (rNamed m).bt) && (decide (m.com = (rNamed m).com) && (decide (m.mem = (rNamed m).mem) && (decide (m.off = (rNamed m).off) && (decide (m.size = (rNamed m).size) && (decide (m.yes = (rNamed m).yes) && decide (m.data = (rNamed m).data)))))))
def rNone (m : M) : Bool := decide (m.kind = 3) || decide (m.ents.length = 0)
def rRight (m : M) : Bool := rTop m && (rKind m && (rNone m && rBare m))
theorem told_right {m : M} (h : headB m = true) (hm : m.ents.length ≤ 8) : right (toldH m) = (((m.idx == 0) == (m.bt == 0)) && (!decide (m.idx > 1099511627776 - (m.ents.length : Int)) && rAll m.term m.bt m.ents)) := by
 unfold headB within top at h
 simp only [Bool.and_eq_true,decide_eq_true_eq] at h
 obtain ⟨a1,a2,a3,a4,a5,a6,a7⟩ := h
 have hd : headed (toldH m) = ((m.idx == 0) == (m.bt == 0)) := by
  unfold headed within top toldH
  dsimp only
  rw [show (decide ((0 : Int) ≤ m.term) && decide (m.term ≤ 1099511627776)) = true by simp; omega,show (decide ((0 : Int) ≤ m.idx) && decide (m.idx ≤ 1099511627776)) = true by simp; omega,show (decide ((0 : Int) ≤ m.bt) && decide (m.bt ≤ m.term)) = true by simp; omega]
  rw [show ((m.bt == 0) == (m.idx == 0)) = ((m.idx == 0) == (m.bt == 0)) from by cases m.bt == 0 <;> cases m.idx == 0 <;> rfl]
  rw [show (decide ((-1 : Int) ≤ 0) && decide ((0 : Int) ≤ 6)) = true from rfl,show (decide ((1 : Int) ≤ 127) && decide ((127 : Int) ≤ 127)) = true from rfl]
  simp
 have hs : snapOk (toldH m) = true := by
  unfold snapOk toldH
  dsimp only
  by_cases z : m.idx = 0
  ·
   rw [if_pos z,z]
   rfl
  ·
   rw [if_neg z,show (m.idx == 0) = false from beq_eq_false_iff_ne.2 z]
   rfl
 have hw : (toldH m).with [] = ⟨m.term,0,m.idx,m.bt,127,(toldH m).snap,[]⟩ := rfl
 have hmo : more ((toldH m).with []) m.ents = (!decide (m.idx > 1099511627776 - (m.ents.length : Int)) && rAll m.term m.bt m.ents) := by
  rw [Bool.eq_iff_iff,Bool.and_eq_true,Bool.not_eq_true',decide_eq_false_iff_not]
  constructor
  ·
   intro z
   obtain ⟨z1,z2⟩ := of_more (toldH m) m.ents [] z (by show m.idx + ((0 : Nat) : Int) ≤ _; omega)
   have z2' : m.idx + ((0 + m.ents.length : Nat) : Int) ≤ 1099511627776 := z2
   exact ⟨by omega,z1⟩
  ·
   rintro ⟨z1,z2⟩
   exact more_of (toldH m) m.ents [] z2 (by simp; omega) (by show m.idx + ((0 + m.ents.length : Nat) : Int) ≤ 1099511627776; omega)
 unfold right
 rw [hd,hs,Bool.true_and]
 show (_ && more ((toldH m).with []) m.ents) = _
 rw [hmo]
theorem top_head {m : M} : rTop m = (decide (1 ≤ m.kind ∧ m.kind ≤ 6) && headB m) := by
 unfold rTop headB within top
 rw [Bool.eq_iff_iff]
 simp only [Bool.and_eq_true,Bool.not_eq_true',decide_eq_true_eq,decide_eq_false_iff_not]
 omega
theorem head_split (a b c d : Bool) {e : Bool} (k : a = true → (b && (c && d)) = e) : (a && (b && (c && d))) = (a && e) := by
 cases a
 · rfl
 · rw [k rfl]
theorem rright_same (m : M) : rRight m = rightB m := by
 unfold rRight rightB
 rw [top_head]
 by_cases hk : 1 ≤ m.kind ∧ m.kind ≤ 6
 ·
  rw [decide_eq_true hk,Bool.true_and]
  refine head_split _ _ _ _ fun hh => ?_
  have hk6 : m.kind = 1 ∨ m.kind = 2 ∨ m.kind = 3 ∨ m.kind = 4 ∨ m.kind = 5 ∨ m.kind = 6 := by omega
  unfold rKind rNone rBare rNamed bareB Co.eqB allM namedM fitsB
  have hr : m.ents.length = 0 → right (toldH m) = ((m.idx == 0) == (m.bt == 0)) := fun hn => by
   have he : m.ents = [] := List.length_eq_zero_iff.1 hn
   have h0 : decide (m.idx > 1099511627776 - (m.ents.length : Int)) = false := by
    rw [decide_eq_false_iff_not]
    unfold headB within top at hh
    simp only [Bool.and_eq_true,decide_eq_true_eq] at hh
    omega
   have h1 : rAll m.term m.bt m.ents = true := by rw [he]; rfl
   rw [told_right hh (by omega),h0,h1]
   simp
  have hg : m.ents.length ≤ 8 → right (toldH m) = (((m.idx == 0) == (m.bt == 0)) && (!decide (m.idx > 1099511627776 - (m.ents.length : Int)) && rAll m.term m.bt m.ents)) := fun z => told_right hh z
  generalize ((m.idx == 0) == (m.bt == 0)) = B at hr hg ⊢
  rcases hk6 with k | k | k | k | k | k
  ·
   simp only [k,if_true,if_neg (show ¬ (1 : Int) = 2 by decide),if_neg (show ¬ (1 : Int) = 4 by decide),if_neg (show ¬ (1 : Int) = 3 by decide)]
   rw [Bool.eq_iff_iff]
   simp only [Bool.and_eq_true,Bool.or_eq_true,decide_eq_true_eq]
   constructor
   ·
    rintro ⟨hb,q,b1,b2,b3,b4,b5,b6,b7,b8⟩
    refine ⟨⟨?_,?_,?_,?_,?_,?_,?_,?_,?_⟩,?_,?_⟩ <;> first | trivial | assumption | omega | (rw [hr (by omega)]; assumption)
   ·
    rintro ⟨⟨b1,b2,b3,b4,b5,b6,b7,b8,b9⟩,h8,hrr⟩
    rw [hr (by omega)] at hrr
    refine ⟨?_,?_,?_,?_,?_,?_,?_,?_,?_,?_⟩ <;> first | trivial | assumption | omega
  ·
   simp only [k,if_true,if_neg (show ¬ (2 : Int) = 1 by decide),if_neg (show ¬ (2 : Int) = 3 by decide)]
   rw [Bool.eq_iff_iff]
   simp only [Bool.and_eq_true,Bool.or_eq_true,decide_eq_true_eq]
   constructor
   ·
    rintro ⟨-,q,b1,b2,b3,b4,b5,b6,b7,b8⟩
    refine ⟨⟨?_,?_,?_,?_,?_,?_,?_,?_,?_⟩,?_⟩ <;> first | trivial | assumption | omega
   ·
    rintro ⟨⟨b1,b2,b3,b4,b5,b6,b7,b8,b9⟩,-⟩
    refine ⟨?_,?_,?_,?_,?_,?_,?_,?_,?_,?_⟩ <;> first | trivial | assumption | omega
  ·
   simp only [k,if_true,if_neg (show ¬ (3 : Int) = 2 by decide),if_neg (show ¬ (3 : Int) = 4 by decide),if_neg (show ¬ (3 : Int) = 1 by decide)]
   rw [Bool.eq_iff_iff]
   simp only [Bool.and_eq_true,Bool.or_eq_true,Bool.not_eq_true',decide_eq_true_eq,decide_eq_false_iff_not]
   constructor
   ·
    rintro ⟨⟨hb,h8,hx,ha⟩,q,b1,b2,b3,b4,b5,b6,b7,b8⟩
    have h8' : m.ents.length ≤ 8 := by omega
    refine ⟨⟨by trivial,by trivial,by trivial,b4,b5,b6,b7,b8,by trivial⟩,h8',?_⟩
    rw [hg h8']
    simp only [Bool.and_eq_true,Bool.not_eq_true',decide_eq_false_iff_not]
    exact ⟨hb,hx,ha⟩
   ·
    rintro ⟨⟨b1,b2,b3,b4,b5,b6,b7,b8,b9⟩,h8,hrr⟩
    rw [hg h8] at hrr
    simp only [Bool.and_eq_true,Bool.not_eq_true',decide_eq_false_iff_not] at hrr
    obtain ⟨hb,hx,ha⟩ := hrr
    exact ⟨⟨hb,by omega,hx,ha⟩,by simp,by trivial,by trivial,by trivial,b4,b5,b6,b7,b8⟩
  ·
   simp only [k,if_true,if_neg (show ¬ (4 : Int) = 1 by decide),if_neg (show ¬ (4 : Int) = 2 by decide),if_neg (show ¬ (4 : Int) = 3 by decide)]
   rw [Bool.eq_iff_iff]
   simp only [Bool.and_eq_true,Bool.or_eq_true,decide_eq_true_eq]
   constructor
   ·
    rintro ⟨-,q,b1,b2,b3,b4,b5,b6,b7,b8⟩
    refine ⟨⟨?_,?_,?_,?_,?_,?_,?_,?_,?_⟩,?_⟩ <;> first | trivial | assumption | omega
   ·
    rintro ⟨⟨b1,b2,b3,b4,b5,b6,b7,b8,b9⟩,-⟩
    refine ⟨?_,?_,?_,?_,?_,?_,?_,?_,?_,?_⟩ <;> first | trivial | assumption | omega
  ·
   simp only [k,if_true,if_neg (show ¬ (5 : Int) = 1 by decide),if_neg (show ¬ (5 : Int) = 2 by decide),if_neg (show ¬ (5 : Int) = 3 by decide),if_neg (show ¬ (5 : Int) = 4 by decide)]
   unfold rPiece pieceB within
   rw [Bool.eq_iff_iff]
   simp only [Bool.and_eq_true,Bool.or_eq_true,Bool.not_eq_true',decide_eq_true_eq,decide_eq_false_iff_not]
   constructor
   ·
    rintro ⟨⟨p1,p2,p3,p4,p5,p6,p7,p8,p9,p10,p11⟩,q,b1,b2,b3,b4,b5,b6,b7,b8⟩
    refine ⟨⟨?_,?_,?_,?_,?_,?_,?_,?_,?_⟩,?_,?_,⟨?_,?_⟩,⟨?_,?_⟩,⟨?_,?_⟩,?_,?_⟩ <;> first | trivial | assumption | omega
   ·
    rintro ⟨⟨b1,b2,b3,b4,b5,b6,b7,b8,b9⟩,p1,p2,p3,p4,p5,p6⟩
    refine ⟨⟨?_,?_,?_,?_,?_,?_,?_,?_,?_,?_,?_⟩,?_,?_,?_,?_,?_,?_,?_,?_,?_⟩ <;> first | trivial | assumption | omega
  ·
   simp only [k,if_true,if_neg (show ¬ (6 : Int) = 1 by decide),if_neg (show ¬ (6 : Int) = 2 by decide),if_neg (show ¬ (6 : Int) = 3 by decide),if_neg (show ¬ (6 : Int) = 4 by decide),if_neg (show ¬ (6 : Int) = 5 by decide)]
   unfold within
   rw [Bool.eq_iff_iff]
   simp only [Bool.and_eq_true,Bool.or_eq_true,Bool.not_eq_true',decide_eq_true_eq,decide_eq_false_iff_not]
   constructor
   ·
    rintro ⟨⟨p1,p2,p3⟩,q,b1,b2,b3,b4,b5,b6,b7,b8⟩
    refine ⟨⟨?_,?_,?_,?_,?_,?_,?_,?_,?_⟩,?_,?_,?_⟩ <;> first | trivial | assumption | omega
   ·
    rintro ⟨⟨b1,b2,b3,b4,b5,b6,b7,b8,b9⟩,p1,p2,p3⟩
    refine ⟨⟨?_,?_,?_⟩,?_,?_,?_,?_,?_,?_,?_,?_,?_⟩ <;> first | trivial | assumption | omega
 ·
  rw [decide_eq_false hk,Bool.false_and]
  have h0 : fitsB m = false := by
   unfold fitsB
   rw [if_neg (by omega),if_neg (by omega),if_neg (by omega),if_neg (by omega),if_neg (by omega),if_neg (by omega)]
  rw [h0,Bool.and_false,Bool.and_false,Bool.false_and]
end Go.Proofs.Ytagjbjppddbalaa.Lr
