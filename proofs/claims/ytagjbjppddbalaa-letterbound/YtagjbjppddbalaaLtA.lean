/- CONTRACTS OF PACKAGE letter: within, headed, all, named, told, piece. (By genlta.py.) -/
import Derived.Test.YtagjbjppddbalaaLtP
import Derived.Test.YtagjbjppddbalaaLrK
import Derived.Test.YtagjbjppddbalaaEtS
import Derived.Test.YtagjbjppddbalaaHdK
import Derived.Test.YtagjbjppddbalaaWlR
import Derived.Lib.QuietBelow
set_option maxRecDepth 100000
set_option linter.unusedVariables false
namespace Go.Proofs.Ytagjbjppddbalaa
open Go.RowKit
open Mem
open Go.Sort (grow)

theorem lt_within (n lo hi : Int) (w : World) : Calls Try.prog 51 #[.int .i64 n, .int .i64 lo, .int .i64 hi] w fun e w' => e = .returned (.bool (Wl.within n lo hi)) ∧ w' = w := by
  by_cases h1 : lo ≤ n
  · by_cases h2 : n ≤ hi
    · have HE : Hid (Wl.within n lo hi = true) := Lib.hid (by unfold Wl.within; rw [decide_eq_true h1, decide_eq_true h2]; rfl)
      go_enter Try.func51, Try.ntmps51
      go_wp2
      go_ret
      exact ⟨ret_bool HE.out.symm, rfl⟩
    · have HE : Hid (Wl.within n lo hi = false) := Lib.hid (by unfold Wl.within; rw [decide_eq_false h2, Bool.and_false])
      go_enter Try.func51, Try.ntmps51
      go_wp2
      go_ret
      exact ⟨ret_bool HE.out.symm, rfl⟩
  · have HE : Hid (Wl.within n lo hi = false) := Lib.hid (by unfold Wl.within; rw [decide_eq_false h1, Bool.false_and])
    go_enter Try.func51, Try.ntmps51
    go_wp2
    go_ret
    exact ⟨ret_bool HE.out.symm, rfl⟩
/-- a letter's row and what it says -/
def Lr.m (r : Lr.T) (l : List Et.T) : Lr.M := ⟨r.kind, r.frm, r.to, r.term, r.idx, r.bt, r.com, r.mem, r.off, r.size, r.yes, r.data, l⟩
/-- a content as a value -/
def Lr.coV (c : Lr.Co) : Value := .agg #[.int .i64 c.idx, .int .i64 c.bt, .int .i64 c.com, .int .i64 c.mem, .int .i64 c.off, .int .i64 c.size, .bool c.yes, .string c.data, .int .i64 c.n]
set_option maxHeartbeats 4000000 in
theorem lt_headed (r : Lr.T) (l : List Et.T) (w : World) :
    Calls Try.prog 35 #[Lr.val r] w fun e w' => e = .returned (.bool (Lr.headB (Lr.m r l))) ∧ Below w.heap.size w w' := by
  obtain ⟨W, hW, hbW, hC⟩ := Lr.boxed1 w r
  have HBW := Lib.hid hbW
  unfold Lr.C at hC
  obtain ⟨a0, a1, a2, a3, a4, a5, a6, a7, a8, a9, a10, a11, a12⟩ := hC
  clear hbW
  have HE : Hid (Lr.headB (Lr.m r l) = (Wl.within r.frm 0 6 && (Wl.within r.to 0 6 && (decide (r.frm ≠ r.to) && (Wl.within r.term 1 1099511627776 && (Wl.within r.idx 0 1099511627776 && (Wl.within r.bt 0 r.term && (Wl.within r.com 0 1099511627776)))))))) := Lib.hid rfl
  cases q0 : Wl.within r.frm 0 6
  · rw [q0, Bool.false_and] at HE
    unfold Lr.val
    go_enter Try.func35, Try.ntmps35
    go_wp2_with (go_at_call 51; refine (lt_within _ _ _ _).mono ?_; rintro e u ⟨rfl, rfl⟩; try (first | rw [q0]))
    go_ret
    exact ⟨ret_bool HE.out.symm, HBW.out⟩
  rw [q0, Bool.true_and] at HE
  cases q1 : Wl.within r.to 0 6
  · rw [q1, Bool.false_and] at HE
    unfold Lr.val
    go_enter Try.func35, Try.ntmps35
    go_wp2_with (go_at_call 51; refine (lt_within _ _ _ _).mono ?_; rintro e u ⟨rfl, rfl⟩; try (first | rw [q0] | rw [q1]))
    go_ret
    exact ⟨ret_bool HE.out.symm, HBW.out⟩
  rw [q1, Bool.true_and] at HE
  by_cases q2 : r.frm = r.to
  · rw [decide_eq_false (by simp [q2]), Bool.false_and] at HE
    have p2 : (r.frm != r.to) = false := by rw [bne, beq_iff_eq.2 q2]; rfl
    clear q2
    unfold Lr.val
    go_enter Try.func35, Try.ntmps35
    go_wp2_with (go_at_call 51; refine (lt_within _ _ _ _).mono ?_; rintro e u ⟨rfl, rfl⟩; try (first | rw [q0] | rw [q1]))
    go_ret
    exact ⟨ret_bool HE.out.symm, HBW.out⟩
  have p2 : (r.frm != r.to) = true := by rw [bne, beq_eq_false_iff_ne.2 q2]; rfl
  rw [decide_eq_true q2, Bool.true_and] at HE
  cases q3 : Wl.within r.term 1 1099511627776
  · rw [q3, Bool.false_and] at HE
    unfold Lr.val
    go_enter Try.func35, Try.ntmps35
    go_wp2_with (go_at_call 51; refine (lt_within _ _ _ _).mono ?_; rintro e u ⟨rfl, rfl⟩; try (first | rw [q0] | rw [q1] | rw [q3]))
    go_ret
    exact ⟨ret_bool HE.out.symm, HBW.out⟩
  rw [q3, Bool.true_and] at HE
  cases q4 : Wl.within r.idx 0 1099511627776
  · rw [q4, Bool.false_and] at HE
    unfold Lr.val
    go_enter Try.func35, Try.ntmps35
    go_wp2_with (go_at_call 51; refine (lt_within _ _ _ _).mono ?_; rintro e u ⟨rfl, rfl⟩; try (first | rw [q0] | rw [q1] | rw [q3] | rw [q4]))
    go_ret
    exact ⟨ret_bool HE.out.symm, HBW.out⟩
  rw [q4, Bool.true_and] at HE
  cases q5 : Wl.within r.bt 0 r.term
  · rw [q5, Bool.false_and] at HE
    unfold Lr.val
    go_enter Try.func35, Try.ntmps35
    go_wp2_with (go_at_call 51; refine (lt_within _ _ _ _).mono ?_; rintro e u ⟨rfl, rfl⟩; try (first | rw [q0] | rw [q1] | rw [q3] | rw [q4] | rw [q5]))
    go_ret
    exact ⟨ret_bool HE.out.symm, HBW.out⟩
  rw [q5, Bool.true_and] at HE
  cases q6 : Wl.within r.com 0 1099511627776
  · rw [q6] at HE
    unfold Lr.val
    go_enter Try.func35, Try.ntmps35
    go_wp2_with (go_at_call 51; refine (lt_within _ _ _ _).mono ?_; rintro e u ⟨rfl, rfl⟩; try (first | rw [q0] | rw [q1] | rw [q3] | rw [q4] | rw [q5] | rw [q6]))
    go_ret
    exact ⟨ret_bool HE.out.symm, HBW.out⟩
  · rw [q6] at HE
    unfold Lr.val
    go_enter Try.func35, Try.ntmps35
    go_wp2_with (go_at_call 51; refine (lt_within _ _ _ _).mono ?_; rintro e u ⟨rfl, rfl⟩; try (first | rw [q0] | rw [q1] | rw [q3] | rw [q4] | rw [q5] | rw [q6]))
    go_ret
    exact ⟨ret_bool HE.out.symm, HBW.out⟩
set_option maxHeartbeats 1000000 in
theorem lt_all (r : Lr.T) (l : List Et.T) (w : World) (hl : r.ents.n = l.length) :
    Calls Try.prog 36 #[Lr.val r] w fun e w' => e = .returned (Lr.coV (Lr.allM (Lr.m r l))) ∧ Below w.heap.size w w' := by
  have HA : Hid (Lr.allM (Lr.m r l) = ⟨r.idx, r.bt, r.com, r.mem, r.off, r.size, r.yes, r.data, (r.ents.n : Int)⟩) := Lib.hid (by rw [hl]; rfl)
  clear hl
  rw [HA.out]
  · 
    unfold Lr.val
    go_enter Try.func36, Try.ntmps36
    go_wp2
    exact bodyPost_ret (v := Lr.coV ⟨r.idx, r.bt, r.com, r.mem, r.off, r.size, r.yes, r.data, (r.ents.n : Int)⟩) (by simp [results, Lr.coV, Try.results36, go_sem] <;> rfl) rfl ⟨rfl, below_box (below_box (Below.refl _ _) _) _⟩
set_option maxHeartbeats 2000000 in
theorem lt_named (r : Lr.T) (l : List Et.T) (w : World) (hl : r.ents.n = l.length) :
    Calls Try.prog 37 #[Lr.val r] w fun e w' => e = .returned (Lr.coV (Lr.namedM (Lr.m r l))) ∧ Below w.heap.size w w' := by
  have HA : Hid (Lr.namedM (Lr.m r l) = if r.kind = 1 then ⟨r.idx, r.bt, 0, 0, 0, 0, false, .empty, 0⟩ else if r.kind = 2 then ⟨0, 0, 0, 0, 0, 0, r.yes, .empty, 0⟩ else if r.kind = 3 then ⟨r.idx, r.bt, r.com, 0, 0, 0, false, .empty, (r.ents.n : Int)⟩ else if r.kind = 4 then ⟨r.idx, 0, 0, 0, 0, 0, r.yes, .empty, 0⟩ else if r.kind = 5 then ⟨r.idx, r.bt, 0, r.mem, r.off, r.size, false, r.data, 0⟩ else if r.kind = 6 then ⟨r.idx, 0, 0, 0, r.off, 0, false, .empty, 0⟩ else ⟨0, 0, 0, 0, 0, 0, false, .empty, 0⟩) := Lib.hid (by rw [hl]; rfl)
  clear hl
  by_cases h1 : r.kind = 1
  · rw [HA.out, if_pos h1]
    unfold Lr.val
    rw [h1]
    go_enter Try.func37, Try.ntmps37
    go_wp2
    exact bodyPost_ret (v := Lr.coV ⟨r.idx, r.bt, 0, 0, 0, 0, false, .empty, 0⟩) (by simp [results, Lr.coV, Try.results37, go_sem] <;> rfl) rfl ⟨rfl, below_box (below_box (Below.refl _ _) _) _⟩
  by_cases h2 : r.kind = 2
  · rw [HA.out, if_neg h1, if_pos h2]
    unfold Lr.val
    rw [h2]
    go_enter Try.func37, Try.ntmps37
    go_wp2
    exact bodyPost_ret (v := Lr.coV ⟨0, 0, 0, 0, 0, 0, r.yes, .empty, 0⟩) (by simp [results, Lr.coV, Try.results37, go_sem] <;> rfl) rfl ⟨rfl, below_box (below_box (Below.refl _ _) _) _⟩
  by_cases h3 : r.kind = 3
  · rw [HA.out, if_neg h1, if_neg h2, if_pos h3]
    unfold Lr.val
    rw [h3]
    go_enter Try.func37, Try.ntmps37
    go_wp2
    exact bodyPost_ret (v := Lr.coV ⟨r.idx, r.bt, r.com, 0, 0, 0, false, .empty, (r.ents.n : Int)⟩) (by simp [results, Lr.coV, Try.results37, go_sem] <;> rfl) rfl ⟨rfl, below_box (below_box (Below.refl _ _) _) _⟩
  by_cases h4 : r.kind = 4
  · rw [HA.out, if_neg h1, if_neg h2, if_neg h3, if_pos h4]
    unfold Lr.val
    rw [h4]
    go_enter Try.func37, Try.ntmps37
    go_wp2
    exact bodyPost_ret (v := Lr.coV ⟨r.idx, 0, 0, 0, 0, 0, r.yes, .empty, 0⟩) (by simp [results, Lr.coV, Try.results37, go_sem] <;> rfl) rfl ⟨rfl, below_box (below_box (Below.refl _ _) _) _⟩
  by_cases h5 : r.kind = 5
  · rw [HA.out, if_neg h1, if_neg h2, if_neg h3, if_neg h4, if_pos h5]
    unfold Lr.val
    rw [h5]
    go_enter Try.func37, Try.ntmps37
    go_wp2
    exact bodyPost_ret (v := Lr.coV ⟨r.idx, r.bt, 0, r.mem, r.off, r.size, false, r.data, 0⟩) (by simp [results, Lr.coV, Try.results37, go_sem] <;> rfl) rfl ⟨rfl, below_box (below_box (Below.refl _ _) _) _⟩
  by_cases h6 : r.kind = 6
  · rw [HA.out, if_neg h1, if_neg h2, if_neg h3, if_neg h4, if_neg h5, if_pos h6]
    unfold Lr.val
    rw [h6]
    go_enter Try.func37, Try.ntmps37
    go_wp2
    exact bodyPost_ret (v := Lr.coV ⟨r.idx, 0, 0, 0, r.off, 0, false, .empty, 0⟩) (by simp [results, Lr.coV, Try.results37, go_sem] <;> rfl) rfl ⟨rfl, below_box (below_box (Below.refl _ _) _) _⟩
  · rw [HA.out, if_neg h1, if_neg h2, if_neg h3, if_neg h4, if_neg h5, if_neg h6]
    unfold Lr.val
    clear HA
    go_enter Try.func37, Try.ntmps37
    go_wp2
    exact bodyPost_ret (v := Lr.coV ⟨0, 0, 0, 0, 0, 0, false, .empty, 0⟩) (by simp [results, Lr.coV, Try.results37, go_sem] <;> rfl) rfl ⟨rfl, below_box (below_box (Below.refl _ _) _) _⟩
theorem Lr.any_txt : "any".toByteArray = (⟨#[97, 110, 121]⟩ : ByteArray) := by decide
/-- what told makes of a letter -/
def Lr.hd (r : Lr.T) : Hd.T := ⟨r.term, 0, r.idx, r.bt, 127, if r.idx = 0 then .empty else ⟨#[97, 110, 121]⟩, r.ents⟩
theorem Lr.hd_h (r : Lr.T) (l : List Et.T) : Hd.h (Lr.hd r) l = Lr.toldH (Lr.m r l) := by
  unfold Hd.h Lr.hd Lr.toldH Lr.m
  rw [Lr.any_txt]
set_option maxHeartbeats 2000000 in
theorem lt_told (r : Lr.T) (w : World) : Calls Try.prog 53 #[Lr.val r] w fun e w' => e = .returned (Hd.val (Lr.hd r)) ∧ Below w.heap.size w w' := by
  unfold Lr.hd
  by_cases h : r.idx = 0
  · rw [h, if_pos rfl]
    have q : (r.idx != 0) = false := by rw [h]; rfl
    unfold Lr.val
    rw [h]
    go_enter Try.func53, Try.ntmps53
    go_wp2
    exact bodyPost_ret (v := Hd.val ⟨r.term, 0, 0, r.bt, 127, .empty, r.ents⟩) (by simp [results, Hd.val, Try.results53, go_sem] <;> rfl) rfl ⟨rfl, below_box (below_box (below_box (Below.refl _ _) _) _) _⟩
  · rw [if_neg h]
    have q : (r.idx != 0) = true := by rw [bne, beq_eq_false_iff_ne.2 h]; rfl
    unfold Lr.val
    go_enter Try.func53, Try.ntmps53
    go_wp2
    exact bodyPost_ret (v := Hd.val ⟨r.term, 0, r.idx, r.bt, 127, ⟨#[97, 110, 121]⟩, r.ents⟩) (by simp [results, Hd.val, Try.results53, go_sem] <;> rfl) rfl ⟨rfl, below_box (below_box (below_box (Below.refl _ _) _) _) _⟩
end Go.Proofs.Ytagjbjppddbalaa
