/- PLAIN LEAN: what the document's own answer takes for right is right. -/
import Derived.Test.YtagjbjppddbalaaYLtWlRgP
set_option linter.unusedVariables false
namespace Go.Proofs.Ytagjbjppddbalaa.Wl
open Go.RowKit
theorem lastTerm_with (h : H) (p : List Et.T) (e : Et.T) : lastTerm (h.with (p ++ [e])) = e.term := by
 unfold lastTerm H.with
 simp
theorem more_of (h : H) : ∀ (l p : List Et.T),rAll h.term (lastTerm (h.with p)) l = true → p.length + l.length ≤ 200 → h.base + ((p.length + l.length : Nat) : Int) ≤ 1099511627776 → more (h.with p) l = true
 | [],_,_,_,_ => rfl
 | e :: l,p,k,k1,k2 => by
  unfold rAll at k
  rw [Bool.and_eq_true] at k
  obtain ⟨ke,kl⟩ := k
  unfold rEntry at ke
  simp only [Bool.and_eq_true,Bool.or_eq_true,decide_eq_true_eq,beq_iff_eq] at ke
  obtain ⟨e1,e2,e3,e4,e5,e6,e7⟩ := ke
  rw [List.length_cons] at k1 k2
  unfold more
  rw [Bool.and_eq_true]
  constructor
  ·
   unfold fits within last top
   simp only [Bool.and_eq_true,Bool.or_eq_true,decide_eq_true_eq,beq_iff_eq]
   have hl : (h.with p).log.length = p.length := rfl
   have hb : (h.with p).base = h.base := rfl
   have ht : (h.with p).term = h.term := rfl
   rw [hl,hb,ht]
   refine ⟨by omega,by omega,⟨by omega,e3⟩,⟨e4,by omega⟩,by omega,?_⟩
   rcases e7 with z | z
   · exact .inl z
   ·
    refine .inr ?_
    have := txt_len e.data
    rw [← tl] at this
    rw [z] at this
    simpa using this.symm
  ·
   show more ((h.with p).with (p ++ [e])) l = true
   refine more_of h l (p ++ [e]) (by rw [lastTerm_with]; exact kl) (by simp; omega) ?_
   rw [List.length_append,List.length_singleton]
   omega
theorem right_of {h : H} (k : rRight h = true) : right h = true := by
 unfold rRight at k
 rw [Bool.and_eq_true] at k
 obtain ⟨kh,ka⟩ := k
 unfold rHead at kh
 simp only [Bool.and_eq_true,Bool.not_eq_true',decide_eq_false_iff_not,beq_iff_eq] at kh
 obtain ⟨k0,k1,k2,k3,k4,k5,k6,k7,k8,k9,k10,k11,k12,k13,k14⟩ := kh
 unfold right headed snapOk within top
 simp only [Bool.and_eq_true,decide_eq_true_eq,beq_iff_eq]
 refine ⟨⟨⟨by omega,by omega⟩,⟨by omega,by omega⟩,⟨by omega,by omega⟩,⟨by omega,by omega⟩,k8.symm,⟨by omega,by omega⟩⟩,⟨?_,by omega⟩,?_⟩
 ·
  rw [k11]
  have := txt_len h.snap
  rw [tl,Bool.eq_iff_iff,decide_eq_true_iff,beq_iff_eq,← List.length_eq_zero_iff,this]
 ·
  have e : lastTerm (h.with []) = h.bt := rfl
  exact more_of h h.log [] (by rw [e]; exact ka) (by simp; omega) (by simp; omega)
end Go.Proofs.Ytagjbjppddbalaa.Wl
