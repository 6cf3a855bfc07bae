/- impostref16.RightLetter. (By genrl.py.) -/
import Derived.Test.YtagjbjppddbalaaYLtLtO
import Derived.Test.YtagjbjppddbalaaYLtLrgA
import Derived.Test.YtagjbjppddbalaaYLtLrgB
import Derived.Test.YtagjbjppddbalaaYLtLrgC
import Derived.Test.YtagjbjppddbalaaYLtLrgK1
import Derived.Test.YtagjbjppddbalaaYLtLrgK2
import Derived.Test.YtagjbjppddbalaaYLtLrgK2b
import Derived.Test.YtagjbjppddbalaaYLtLrgK2c
import Derived.Test.YtagjbjppddbalaaYLtLrgK3
import Derived.Test.YtagjbjppddbalaaYLtLrgK4
import Derived.Test.YtagjbjppddbalaaYLtLrgK5
import Derived.Test.YtagjbjppddbalaaYLtLrgK6
set_option maxRecDepth 100000
set_option linter.unusedVariables false
namespace Go.Proofs.Ytagjbjppddbalaa.Lr
open Go.RowKit
open Mem
open Go.Sort (grow)
theorem data_none (d : ByteArray) : decide (d = ByteArray.empty) = (d.toList == []) := by
 rw [Bool.eq_iff_iff,decide_eq_true_iff,beq_iff_eq]
 constructor
 ·
  rintro rfl
  rw [ByteArray.toList_eq]
  rfl
 ·
  intro h
  rw [ByteArray.toList_eq] at h
  exact ByteArray.ext (Array.toList_inj.1 h)
theorem ans_1 (frm to term idx bt com mem off size : Int) (yes : Bool) (data : ByteArray) (n : Nat) (l : List Et.T) (hn : n = l.length) (ht : rTop ⟨1,frm,to,term,idx,bt,com,mem,off,size,yes,data,l⟩ = true) : rRight ⟨1,frm,to,term,idx,bt,com,mem,off,size,yes,data,l⟩ = (((idx == 0) == (bt == 0)) && (decide (n = 0) && ((com == 0) && ((mem == 0) && ((off == 0) && ((size == 0) && ((yes == false) && (data.toList == [])))))))) := by
 subst hn
 unfold rRight
 rw [ht,Bool.true_and]
 unfold rKind rNone rBare rNamed rPiece
 simp only [if_true,if_neg (show ¬ (1 : Int) = 2 by decide),if_neg (show ¬ (1 : Int) = 3 by decide),if_neg (show ¬ (1 : Int) = 4 by decide),if_neg (show ¬ (1 : Int) = 5 by decide),data_none]
 rw [Bool.eq_iff_iff]
 simp
 try (constructor <;> intro h <;> simp_all <;> omega)
theorem ans_2 (frm to term idx bt com mem off size : Int) (yes : Bool) (data : ByteArray) (n : Nat) (l : List Et.T) (hn : n = l.length) (ht : rTop ⟨2,frm,to,term,idx,bt,com,mem,off,size,yes,data,l⟩ = true) : rRight ⟨2,frm,to,term,idx,bt,com,mem,off,size,yes,data,l⟩ = (decide (n = 0) && ((idx == 0) && ((bt == 0) && ((com == 0) && ((mem == 0) && ((off == 0) && ((size == 0) && (data.toList == [])))))))) := by
 subst hn
 unfold rRight
 rw [ht,Bool.true_and]
 unfold rKind rNone rBare rNamed rPiece
 simp only [if_true,if_neg (show ¬ (2 : Int) = 1 by decide),if_neg (show ¬ (2 : Int) = 3 by decide),if_neg (show ¬ (2 : Int) = 4 by decide),if_neg (show ¬ (2 : Int) = 5 by decide),data_none]
 rw [Bool.eq_iff_iff]
 simp
 try (constructor <;> intro h <;> simp_all <;> omega)
theorem ans_3 (frm to term idx bt com mem off size : Int) (yes : Bool) (data : ByteArray) (n : Nat) (l : List Et.T) (hn : n = l.length) (ht : rTop ⟨3,frm,to,term,idx,bt,com,mem,off,size,yes,data,l⟩ = true) : rRight ⟨3,frm,to,term,idx,bt,com,mem,off,size,yes,data,l⟩ = (((idx == 0) == (bt == 0)) && ((!decide ((n : Int) > 8)) && ((!decide (idx > 1099511627776 - (n : Int))) && (Wl.rAll term bt l && ((mem == 0) && ((off == 0) && ((size == 0) && ((yes == false) && (data.toList == []))))))))) := by
 subst hn
 unfold rRight
 rw [ht,Bool.true_and]
 unfold rKind rNone rBare rNamed rPiece
 simp only [if_true,if_neg (show ¬ (3 : Int) = 1 by decide),if_neg (show ¬ (3 : Int) = 2 by decide),if_neg (show ¬ (3 : Int) = 4 by decide),if_neg (show ¬ (3 : Int) = 5 by decide),data_none]
 rw [Bool.eq_iff_iff]
 simp
 try (constructor <;> intro h <;> simp_all <;> omega)
theorem ans_4 (frm to term idx bt com mem off size : Int) (yes : Bool) (data : ByteArray) (n : Nat) (l : List Et.T) (hn : n = l.length) (ht : rTop ⟨4,frm,to,term,idx,bt,com,mem,off,size,yes,data,l⟩ = true) : rRight ⟨4,frm,to,term,idx,bt,com,mem,off,size,yes,data,l⟩ = (decide (n = 0) && ((bt == 0) && ((com == 0) && ((mem == 0) && ((off == 0) && ((size == 0) && (data.toList == []))))))) := by
 subst hn
 unfold rRight
 rw [ht,Bool.true_and]
 unfold rKind rNone rBare rNamed rPiece
 simp only [if_true,if_neg (show ¬ (4 : Int) = 1 by decide),if_neg (show ¬ (4 : Int) = 2 by decide),if_neg (show ¬ (4 : Int) = 3 by decide),if_neg (show ¬ (4 : Int) = 5 by decide),data_none]
 rw [Bool.eq_iff_iff]
 simp
 try (constructor <;> intro h <;> simp_all <;> omega)
theorem ans_5 (frm to term idx bt com mem off size : Int) (yes : Bool) (data : ByteArray) (n : Nat) (l : List Et.T) (hn : n = l.length) (ht : rTop ⟨5,frm,to,term,idx,bt,com,mem,off,size,yes,data,l⟩ = true) : rRight ⟨5,frm,to,term,idx,bt,com,mem,off,size,yes,data,l⟩ = ((!(idx == 0)) && ((!(bt == 0)) && ((!decide (mem < 1)) && ((!decide (mem ≥ 128)) && ((!decide (size < 1)) && ((!decide (size > 65536)) && ((!decide (off < 0)) && ((!decide (off ≥ size)) && ((!decide ((data.size : Int) < 1)) && ((!decide ((data.size : Int) > 600)) && ((!decide ((data.size : Int) > size - off)) && (decide (n = 0) && ((com == 0) && (yes == false)))))))))))))) := by
 subst hn
 unfold rRight
 rw [ht,Bool.true_and]
 unfold rKind rNone rBare rNamed rPiece
 simp only [if_true,if_neg (show ¬ (5 : Int) = 1 by decide),if_neg (show ¬ (5 : Int) = 2 by decide),if_neg (show ¬ (5 : Int) = 3 by decide),if_neg (show ¬ (5 : Int) = 4 by decide)]
 rw [Bool.eq_iff_iff]
 simp
 try (constructor <;> intro h <;> simp_all <;> omega)
theorem ans_6 (frm to term idx bt com mem off size : Int) (yes : Bool) (data : ByteArray) (n : Nat) (l : List Et.T) (hn : n = l.length) (ht : rTop ⟨6,frm,to,term,idx,bt,com,mem,off,size,yes,data,l⟩ = true) : rRight ⟨6,frm,to,term,idx,bt,com,mem,off,size,yes,data,l⟩ = ((!(idx == 0)) && ((!decide (off < 0)) && ((!decide (off > 65536)) && (decide (n = 0) && ((bt == 0) && ((com == 0) && ((mem == 0) && ((size == 0) && ((yes == false) && (data.toList == [])))))))))) := by
 subst hn
 unfold rRight
 rw [ht,Bool.true_and]
 unfold rKind rNone rBare rNamed rPiece
 simp only [if_neg (show ¬ (6 : Int) = 1 by decide),if_neg (show ¬ (6 : Int) = 2 by decide),if_neg (show ¬ (6 : Int) = 3 by decide),if_neg (show ¬ (6 : Int) = 4 by decide),if_neg (show ¬ (6 : Int) = 5 by decide),data_none]
 rw [Bool.eq_iff_iff]
 simp
 try (constructor <;> intro h <;> simp_all <;> omega)
theorem rl_k2 (frm to term idx bt com mem off size : Int) (yes : Bool) (data : ByteArray) (ao : Option Addr) (n cap : Nat) (w : World) (ans : Bool) (HE : Hid (ans = (decide (n = 0) && ((idx == 0) && ((bt == 0) && ((com == 0) && ((mem == 0) && ((off == 0) && ((size == 0) && (data.toList == [])))))))))) (hcap : n ≤ cap) (hreach : cap ≤ 9223372036854775807) (c2 : ¬ frm < 0) (c3 : ¬ frm ≥ 7) (c4 : ¬ to < 0) (c5 : ¬ to ≥ 7) (c6 : ¬ frm = to) (c7 : ¬ term < 1) (c8 : ¬ term > 1099511627776) (c9 : ¬ idx < 0) (c10 : ¬ idx > 1099511627776) (c11 : ¬ bt < 0) (c12 : ¬ bt > term) (c13 : ¬ com < 0) (c14 : ¬ com > 1099511627776) :
  Calls Try.prog 15 #[Lr.val ⟨2,frm,to,term,idx,bt,com,mem,off,size,yes,data,⟨ao,n,cap⟩⟩] w fun e w' => e = .returned (.bool ans) ∧ Below w.heap.size w w' := by
 have he := HE.out
 by_cases hn0 : n = 0
 rotate_left
 ·
  rw [decide_eq_false hn0,Bool.false_and] at he
  rw [he]
  exact rl_k2_0 frm to term idx bt com mem off size yes data ao n cap w hcap hreach c2 c3 c4 c5 c6 c7 c8 c9 c10 c11 c12 c13 c14 hn0
 rw [decide_eq_true hn0,Bool.true_and] at he
 cases u0 : (idx == 0)
 ·
  rw [u0,Bool.false_and] at he
  rw [he]
  exact rl_k2_1 frm to term idx bt com mem off size yes data ao n cap w hcap hreach c2 c3 c4 c5 c6 c7 c8 c9 c10 c11 c12 c13 c14 hn0 u0
 rw [u0,Bool.true_and] at he
 cases u1 : (bt == 0)
 ·
  rw [u1,Bool.false_and] at he
  rw [he]
  exact rl_k2_2 frm to term idx bt com mem off size yes data ao n cap w hcap hreach c2 c3 c4 c5 c6 c7 c8 c9 c10 c11 c12 c13 c14 hn0 u0 u1
 rw [u1,Bool.true_and] at he
 cases u2 : (com == 0)
 ·
  rw [u2,Bool.false_and] at he
  rw [he]
  exact rl_k2_3 frm to term idx bt com mem off size yes data ao n cap w hcap hreach c2 c3 c4 c5 c6 c7 c8 c9 c10 c11 c12 c13 c14 hn0 u0 u1 u2
 rw [u2,Bool.true_and] at he
 cases u3 : (mem == 0)
 ·
  rw [u3,Bool.false_and] at he
  rw [he]
  exact rl_k2_4 frm to term idx bt com mem off size yes data ao n cap w hcap hreach c2 c3 c4 c5 c6 c7 c8 c9 c10 c11 c12 c13 c14 hn0 u0 u1 u2 u3
 rw [u3,Bool.true_and] at he
 cases u4 : (off == 0)
 ·
  rw [u4,Bool.false_and] at he
  rw [he]
  exact rl_k2_5 frm to term idx bt com mem off size yes data ao n cap w hcap hreach c2 c3 c4 c5 c6 c7 c8 c9 c10 c11 c12 c13 c14 hn0 u0 u1 u2 u3 u4
 rw [u4,Bool.true_and] at he
 cases u5 : (size == 0)
 ·
  rw [u5,Bool.false_and] at he
  rw [he]
  exact rl_k2_6 frm to term idx bt com mem off size yes data ao n cap w hcap hreach c2 c3 c4 c5 c6 c7 c8 c9 c10 c11 c12 c13 c14 hn0 u0 u1 u2 u3 u4 u5
 rw [u5,Bool.true_and] at he
 cases u6 : (data.toList == [])
 ·
  rw [u6] at he
  rw [he]
  exact rl_k2_7 frm to term idx bt com mem off size yes data ao n cap w hcap hreach c2 c3 c4 c5 c6 c7 c8 c9 c10 c11 c12 c13 c14 hn0 u0 u1 u2 u3 u4 u5 u6
 ·
  rw [u6] at he
  rw [he]
  exact rl_k2_8 frm to term idx bt com mem off size yes data ao n cap w hcap hreach c2 c3 c4 c5 c6 c7 c8 c9 c10 c11 c12 c13 c14 hn0 u0 u1 u2 u3 u4 u5 u6
theorem top_is {m : M} (c0 : ¬ m.kind < 1) (c1 : ¬ m.kind > 6) (c2 : ¬ m.frm < 0) (c3 : ¬ m.frm ≥ 7) (c4 : ¬ m.to < 0) (c5 : ¬ m.to ≥ 7) (c6 : ¬ m.frm = m.to) (c7 : ¬ m.term < 1) (c8 : ¬ m.term > 1099511627776) (c9 : ¬ m.idx < 0) (c10 : ¬ m.idx > 1099511627776) (c11 : ¬ m.bt < 0) (c12 : ¬ m.bt > m.term) (c13 : ¬ m.com < 0) (c14 : ¬ m.com > 1099511627776) : rTop m = true := by
 unfold rTop
 simp only [Bool.and_eq_true,Bool.not_eq_true',decide_eq_false_iff_not]
 exact ⟨c0,c1,c2,c3,c4,c5,c6,c7,c8,c9,c10,c11,c12,c13,c14⟩
theorem top_not {m : M} (h : m.kind < 1 ∨ m.kind > 6 ∨ m.frm < 0 ∨ m.frm ≥ 7 ∨ m.to < 0 ∨ m.to ≥ 7 ∨ m.frm = m.to ∨ m.term < 1 ∨ m.term > 1099511627776 ∨ m.idx < 0 ∨ m.idx > 1099511627776 ∨ m.bt < 0 ∨ m.bt > m.term ∨ m.com < 0 ∨ m.com > 1099511627776) : rRight m = false := by
 unfold rRight
 have e : rTop m = false := by
  rw [Bool.eq_false_iff]
  intro k
  unfold rTop at k
  simp only [Bool.and_eq_true,Bool.not_eq_true',decide_eq_false_iff_not] at k
  omega
 rw [e,Bool.false_and]
theorem rl_right (r : Lr.T) (l : List Et.T) (w : World) (hl : Et.Ls w r.ents.ao r.ents.n r.ents.cap l) :
  Calls Try.prog 15 #[Lr.val r] w fun e w' => e = .returned (.bool (rightB (m r l))) ∧ Below w.heap.size w w' := by
 rw [← rright_same]
 by_cases c0 : r.kind < 1
 · exact (rl_no0 r w c0).mono fun e w' h => ⟨by rw [h.1,top_not (m := m r l) (by left; exact c0)],h.2⟩
 by_cases c1 : r.kind > 6
 · exact (rl_no1 r w c0 c1).mono fun e w' h => ⟨by rw [h.1,top_not (m := m r l) (by right; left; exact c1)],h.2⟩
 by_cases c2 : r.frm < 0
 · exact (rl_no2 r w c0 c1 c2).mono fun e w' h => ⟨by rw [h.1,top_not (m := m r l) (by right; right; left; exact c2)],h.2⟩
 by_cases c3 : r.frm ≥ 7
 · exact (rl_no3 r w c0 c1 c2 c3).mono fun e w' h => ⟨by rw [h.1,top_not (m := m r l) (by right; right; right; left; exact c3)],h.2⟩
 by_cases c4 : r.to < 0
 · exact (rl_no4 r w c0 c1 c2 c3 c4).mono fun e w' h => ⟨by rw [h.1,top_not (m := m r l) (by right; right; right; right; left; exact c4)],h.2⟩
 by_cases c5 : r.to ≥ 7
 · exact (rl_no5 r w c0 c1 c2 c3 c4 c5).mono fun e w' h => ⟨by rw [h.1,top_not (m := m r l) (by right; right; right; right; right; left; exact c5)],h.2⟩
 by_cases c6 : r.frm = r.to
 · exact (rl_no6 r w c0 c1 c2 c3 c4 c5 c6).mono fun e w' h => ⟨by rw [h.1,top_not (m := m r l) (by right; right; right; right; right; right; left; exact c6)],h.2⟩
 by_cases c7 : r.term < 1
 · exact (rl_no7 r w c0 c1 c2 c3 c4 c5 c6 c7).mono fun e w' h => ⟨by rw [h.1,top_not (m := m r l) (by right; right; right; right; right; right; right; left; exact c7)],h.2⟩
 by_cases c8 : r.term > 1099511627776
 · exact (rl_no8 r w c0 c1 c2 c3 c4 c5 c6 c7 c8).mono fun e w' h => ⟨by rw [h.1,top_not (m := m r l) (by right; right; right; right; right; right; right; right; left; exact c8)],h.2⟩
 by_cases c9 : r.idx < 0
 · exact (rl_no9 r w c0 c1 c2 c3 c4 c5 c6 c7 c8 c9).mono fun e w' h => ⟨by rw [h.1,top_not (m := m r l) (by right; right; right; right; right; right; right; right; right; left; exact c9)],h.2⟩
 by_cases c10 : r.idx > 1099511627776
 · exact (rl_no10 r w c0 c1 c2 c3 c4 c5 c6 c7 c8 c9 c10).mono fun e w' h => ⟨by rw [h.1,top_not (m := m r l) (by right; right; right; right; right; right; right; right; right; right; left; exact c10)],h.2⟩
 by_cases c11 : r.bt < 0
 · exact (rl_no11 r w c0 c1 c2 c3 c4 c5 c6 c7 c8 c9 c10 c11).mono fun e w' h => ⟨by rw [h.1,top_not (m := m r l) (by right; right; right; right; right; right; right; right; right; right; right; left; exact c11)],h.2⟩
 by_cases c12 : r.bt > r.term
 · exact (rl_no12 r w c0 c1 c2 c3 c4 c5 c6 c7 c8 c9 c10 c11 c12).mono fun e w' h => ⟨by rw [h.1,top_not (m := m r l) (by right; right; right; right; right; right; right; right; right; right; right; right; left; exact c12)],h.2⟩
 by_cases c13 : r.com < 0
 · exact (rl_no13 r w c0 c1 c2 c3 c4 c5 c6 c7 c8 c9 c10 c11 c12 c13).mono fun e w' h => ⟨by rw [h.1,top_not (m := m r l) (by right; right; right; right; right; right; right; right; right; right; right; right; right; left; exact c13)],h.2⟩
 by_cases c14 : r.com > 1099511627776
 · exact (rl_no14 r w c0 c1 c2 c3 c4 c5 c6 c7 c8 c9 c10 c11 c12 c13 c14).mono fun e w' h => ⟨by rw [h.1,top_not (m := m r l) (by right; right; right; right; right; right; right; right; right; right; right; right; right; right; exact c14)],h.2⟩
 have ht : rTop (m r l) = true := top_is c0 c1 c2 c3 c4 c5 c6 c7 c8 c9 c10 c11 c12 c13 c14
 have hk : r.kind = 1 ∨ r.kind = 2 ∨ r.kind = 3 ∨ r.kind = 4 ∨ r.kind = 5 ∨ r.kind = 6 := by omega
 obtain ⟨kind,frm,to,term,idx,bt,com,mem,off,size,yes,data,⟨ao,n,cap⟩⟩ := r
 dsimp only at *
 rcases hk with rfl | rfl | rfl | rfl | rfl | rfl
 · exact rl_k1 frm to term idx bt com mem off size yes data ao n cap w _ (Lib.hid (ans_1 frm to term idx bt com mem off size yes data n l hl.len ht)) hl.fits hl.reach c2 c3 c4 c5 c6 c7 c8 c9 c10 c11 c12 c13 c14
 · exact rl_k2 frm to term idx bt com mem off size yes data ao n cap w _ (Lib.hid (ans_2 frm to term idx bt com mem off size yes data n l hl.len ht)) hl.fits hl.reach c2 c3 c4 c5 c6 c7 c8 c9 c10 c11 c12 c13 c14
 · exact rl_k3 frm to term idx bt com mem off size yes data ao n cap l w _ (Lib.hid (ans_3 frm to term idx bt com mem off size yes data n l hl.len ht)) hl c2 c3 c4 c5 c6 c7 c8 c9 c10 c11 c12 c13 c14
 · exact rl_k4 frm to term idx bt com mem off size yes data ao n cap w _ (Lib.hid (ans_4 frm to term idx bt com mem off size yes data n l hl.len ht)) hl.fits hl.reach c2 c3 c4 c5 c6 c7 c8 c9 c10 c11 c12 c13 c14
 · exact rl_k5 frm to term idx bt com mem off size yes data ao n cap w _ (Lib.hid (ans_5 frm to term idx bt com mem off size yes data n l hl.len ht)) hl.fits hl.reach c2 c3 c4 c5 c6 c7 c8 c9 c10 c11 c12 c13 c14
 · exact rl_k6 frm to term idx bt com mem off size yes data ao n cap w _ (Lib.hid (ans_6 frm to term idx bt com mem off size yes data n l hl.len ht)) hl.fits hl.reach c2 c3 c4 c5 c6 c7 c8 c9 c10 c11 c12 c13 c14
end Go.Proofs.Ytagjbjppddbalaa.Lr
