/- CONTRACTS OF PACKAGE wal: within, last, lastTerm, headed. -/
import Derived.Test.YtagjbjppddbalaaWlP
import Derived.Test.YtagjbjppddbalaaEtS
import Derived.Test.YtagjbjppddbalaaHdK
import Derived.Lib.QuietBelow
set_option maxRecDepth 100000
set_option linter.unusedVariables false
namespace Go.Proofs.Ytagjbjppddbalaa
open Go.RowKit
open Mem
open Go.Sort (grow)

theorem wl_within (n lo hi : Int) (w : World) : Calls Try.prog 63 #[.int .i64 n, .int .i64 lo, .int .i64 hi] w fun e w' => e = .returned (.bool (Wl.within n lo hi)) ∧ w' = w := by
  by_cases h1 : lo ≤ n
  · by_cases h2 : n ≤ hi
    · have HE : Hid (Wl.within n lo hi = true) := Lib.hid (by unfold Wl.within; rw [decide_eq_true h1, decide_eq_true h2]; rfl)
      go_enter Try.func63, Try.ntmps63
      go_wp2
      go_ret
      exact ⟨ret_bool HE.out.symm, rfl⟩
    · have HE : Hid (Wl.within n lo hi = false) := Lib.hid (by unfold Wl.within; rw [decide_eq_false h2, Bool.and_false])
      go_enter Try.func63, Try.ntmps63
      go_wp2
      go_ret
      exact ⟨ret_bool HE.out.symm, rfl⟩
  · have HE : Hid (Wl.within n lo hi = false) := Lib.hid (by unfold Wl.within; rw [decide_eq_false h1, Bool.false_and])
    go_enter Try.func63, Try.ntmps63
    go_wp2
    go_ret
    exact ⟨ret_bool HE.out.symm, rfl⟩
/-- a Hard's rows and what they say -/
def Hd.h (r : Hd.T) (l : List Et.T) : Wl.H := ⟨r.term, r.vote, r.base, r.bt, r.mem, r.snap, l⟩
theorem wl_last (r : Hd.T) (l : List Et.T) (w : World) (hl : Et.Ls w r.log.ao r.log.n r.log.cap l) (hb : -1000000000000000000 ≤ r.base ∧ r.base ≤ 1000000000000000000) (hn : l.length ≤ 100000) :
    Calls Try.prog 64 #[Hd.val r] w fun e w' => e = .returned (.int .i64 (Wl.last (Hd.h r l))) ∧ Below w.heap.size w w' := by
  have hlen := hl.len
  have HE : Hid (Wl.last (Hd.h r l) = r.base + (r.log.n : Int)) := Lib.hid (by unfold Wl.last Hd.h; rw [hlen])
  have hn' : r.log.n ≤ 100000 := by omega
  obtain ⟨hb1, hb2⟩ := hb
  clear hl hlen hn
  obtain ⟨W, hW, hbW, hC⟩ := Hd.boxed1 w r
  have HBW := Lib.hid hbW
  unfold Hd.C at hC
  obtain ⟨a0, a1, a2, a3, a4, a5, a6⟩ := hC
  clear hbW
  unfold Hd.val
  go_enter Try.func64, Try.ntmps64
  go_wp2
  go_ret
  exact ⟨by rw [HE.out]; rfl, HBW.out⟩
theorem wl_lastTerm (r : Hd.T) (l : List Et.T) (w : World) (hl : Et.Ls w r.log.ao r.log.n r.log.cap l) :
    Calls Try.prog 65 #[Hd.val r] w fun e w' => e = .returned (.int .i64 (Wl.lastTerm (Hd.h r l))) ∧ Below w.heap.size w w' := by
  have hlen := hl.len
  have hf := hl.fits
  have hr := hl.reach
  obtain ⟨W, hW, hbW, hC⟩ := Hd.boxed1 w r
  have HBW := Lib.hid hbW
  by_cases h0 : r.log.n = 0
  · have HE : Hid (Wl.lastTerm (Hd.h r l) = r.bt) := Lib.hid (by
      have : l = [] := List.length_eq_zero_iff.1 (by omega)
      subst this
      rfl)
    have q : ((r.log.n : Int) == 0) = true := by rw [h0]; rfl
    unfold Hd.C at hC
    obtain ⟨a0, a1, a2, a3, a4, a5, a6⟩ := hC
    clear hbW hl hlen h0
    unfold Hd.val
    go_enter Try.func65, Try.ntmps65
    go_wp2
    go_ret
    exact ⟨by rw [HE.out]; rfl, HBW.out⟩
  · obtain ⟨b, off, hao⟩ := hl.at (by omega)
    have hk : r.log.n - 1 < l.length := by omega
    have hl' := hl.below hbW
    rw [hao] at hl'
    have hrow := hl'.row (r.log.n - 1) hk
    have HE : Hid (Wl.lastTerm (Hd.h r l) = l[r.log.n - 1].term) := Lib.hid (by
      show (l.getLast?.map Et.T.term).getD r.bt = _
      have e : l.getLast? = some l[r.log.n - 1] := by
        rw [List.getLast?_eq_getElem?, ← hlen, List.getElem?_eq_getElem hk]
      rw [e]
      rfl)
    obtain ⟨x, hx⟩ : ∃ x, l[r.log.n - 1] = x := ⟨_, rfl⟩
    rw [hx] at hrow HE
    have q : ((r.log.n : Int) == 0) = false := beq_eq_false_iff_ne.2 (by omega)
    obtain ⟨k, hkn⟩ : ∃ k, r.log.n - 1 = k := ⟨_, rfl⟩
    have e1 : (r.log.n : Int) - 1 = (k : Int) := by omega
    have hkl : k < r.log.n := by omega
    rw [hkn] at hrow
    obtain ⟨c0, c1, c2⟩ := hrow
    unfold Hd.C at hC
    rw [hao] at hC
    obtain ⟨a0, a1, a2, a3, a4, a5, a6⟩ := hC
    unfold Hd.val
    rw [hao] at hW ⊢
    clear hbW hl hl' hlen hx h0 hk hao hkn
    go_enter Try.func65, Try.ntmps65
    go_wp2
    go_ret
    exact ⟨by rw [HE.out]; rfl, HBW.out⟩
set_option maxHeartbeats 2000000 in
theorem wl_headed (r : Hd.T) (l : List Et.T) (w : World) :
    Calls Try.prog 59 #[Hd.val r] w fun e w' => e = .returned (.bool (Wl.headed (Hd.h r l))) ∧ Below w.heap.size w w' := by
  obtain ⟨W, hW, hbW, hC⟩ := Hd.boxed1 w r
  have HBW := Lib.hid hbW
  unfold Hd.C at hC
  obtain ⟨a0, a1, a2, a3, a4, a5, a6⟩ := hC
  clear hbW
  have HE : Hid (Wl.headed (Hd.h r l) = (Wl.within r.term 0 1099511627776 && (Wl.within r.vote (-1) 6 && (Wl.within r.base 0 1099511627776 && (Wl.within r.bt 0 r.term && (((r.bt == 0) == (r.base == 0)) && Wl.within r.mem 1 127)))))) := Lib.hid rfl
  cases q1 : Wl.within r.term 0 1099511627776
  · rw [q1, Bool.false_and] at HE
    unfold Hd.val
    go_enter Try.func59, Try.ntmps59
    go_wp2_with (go_at_call 63; refine (wl_within _ _ _ _).mono ?_; rintro e u ⟨rfl, rfl⟩; first | rw [q1])
    go_ret
    exact ⟨ret_bool HE.out.symm, HBW.out⟩
  rw [q1, Bool.true_and] at HE
  cases q2 : Wl.within r.vote (-1) 6
  · rw [q2, Bool.false_and] at HE
    unfold Hd.val
    go_enter Try.func59, Try.ntmps59
    go_wp2_with (go_at_call 63; refine (wl_within _ _ _ _).mono ?_; rintro e u ⟨rfl, rfl⟩; first | rw [q1] | rw [q2])
    go_ret
    exact ⟨ret_bool HE.out.symm, HBW.out⟩
  rw [q2, Bool.true_and] at HE
  cases q3 : Wl.within r.base 0 1099511627776
  · rw [q3, Bool.false_and] at HE
    unfold Hd.val
    go_enter Try.func59, Try.ntmps59
    go_wp2_with (go_at_call 63; refine (wl_within _ _ _ _).mono ?_; rintro e u ⟨rfl, rfl⟩; first | rw [q1] | rw [q2] | rw [q3])
    go_ret
    exact ⟨ret_bool HE.out.symm, HBW.out⟩
  rw [q3, Bool.true_and] at HE
  cases q4 : Wl.within r.bt 0 r.term
  · rw [q4, Bool.false_and] at HE
    unfold Hd.val
    go_enter Try.func59, Try.ntmps59
    go_wp2_with (go_at_call 63; refine (wl_within _ _ _ _).mono ?_; rintro e u ⟨rfl, rfl⟩; first | rw [q1] | rw [q2] | rw [q3] | rw [q4])
    go_ret
    exact ⟨ret_bool HE.out.symm, HBW.out⟩
  rw [q4, Bool.true_and] at HE
  cases q5 : ((r.bt == 0) == (r.base == 0))
  · rw [q5, Bool.false_and] at HE
    unfold Hd.val
    go_enter Try.func59, Try.ntmps59
    go_wp2_with (go_at_call 63; refine (wl_within _ _ _ _).mono ?_; rintro e u ⟨rfl, rfl⟩; first | rw [q1] | rw [q2] | rw [q3] | rw [q4])
    go_ret
    exact ⟨ret_bool HE.out.symm, HBW.out⟩
  · rw [q5, Bool.true_and] at HE
    unfold Hd.val
    go_enter Try.func59, Try.ntmps59
    go_wp2_with (go_at_call 63; refine (wl_within _ _ _ _).mono ?_; rintro e u ⟨rfl, rfl⟩; try (first | rw [q1] | rw [q2] | rw [q3] | rw [q4]))
    go_ret
    exact ⟨ret_bool HE.out.symm, HBW.out⟩
end Go.Proofs.Ytagjbjppddbalaa
