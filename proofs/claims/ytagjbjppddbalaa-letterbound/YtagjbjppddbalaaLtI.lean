/- LAWS OF PACKAGE letter: impostlaw20's same, few; LetterRuns from any world. (By genlti.py.) -/
import Derived.Test.YtagjbjppddbalaaLtH
import Derived.Test.YtagjbjppddbalaaByB
import Derived.Test.YtagjbjppddbalaaEtB
set_option maxRecDepth 100000
set_option linter.unusedVariables false
namespace Go.Proofs.Ytagjbjppddbalaa
open Go.RowKit
open Mem Pk

/-- a letter with other memory for its entries -/
def Lr.with (r : Lr.T) (s : Sl) : Lr.T := ⟨r.kind, r.frm, r.to, r.term, r.idx, r.bt, r.com, r.mem, r.off, r.size, r.yes, r.data, s⟩
theorem Lr.of_m {a b : Lr.T} {l : List Et.T} (h : Lr.m a l = Lr.m b l) : b = Lr.with a b.ents := by
  unfold Lr.m at h
  injection h with h1 h2 h3 h4 h5 h6 h7 h8 h9 h10 h11 h12 _
  obtain ⟨b1, b2, b3, b4, b5, b6, b7, b8, b9, b10, b11, b12, b13⟩ := b
  simp only at h1 h2 h3 h4 h5 h6 h7 h8 h9 h10 h11 h12
  subst h1 h2 h3 h4 h5 h6 h7 h8 h9 h10 h11 h12
  rfl
set_option maxHeartbeats 2000000 in
theorem lw_same (r : Lr.T) (s : Sl) (l : List Et.T) (w : World) (hA : Et.Ls w r.ents.ao r.ents.n r.ents.cap l) (hB : Et.Ls w s.ao s.n s.cap l) :
    Calls Try.prog 12 #[Lr.val r, Lr.val (Lr.with r s)] w fun e w' => e = .returned (.bool true) ∧ Below w.heap.size w w' := by
  have hz : Below w.heap.size w ((Lr.box w r).alloc (.cells (Lr.rvA (Lr.with r s)) 24)) := (Lr.below_own w r).alloc (Nat.le_of_lt (by rw [Lr.box_size]; omega)) _
  have HB := Lib.hid hz
  have HS := Lib.hid (Et.same_any l l r.ents.ao s.ao r.ents.n s.n r.ents.cap s.cap w _ hz (hA.below hz) (hB.below hz))
  rw [Et.sameB_self] at HS
  unfold Lr.box Lr.rvA Lr.with at HS
  dsimp only at HS
  clear hA hB hz
  unfold Lr.val Lr.with
  dsimp only
  go_enter Try.func12, Try.ntmps12
  go_wp2_with (go_at_call 30; refine HS.out.mono ?_; rintro e w1 ⟨rfl, b1⟩; have HB1 := Lib.hid b1; clear b1)
  go_ret
  exact ⟨rfl, HB1.out⟩
/-- no more than twenty entries -/
def Lr.few (r : Lr.T) : Lr.T := if 20 < r.ents.n then Lr.with r ⟨r.ents.ao, 20, r.ents.cap⟩ else r
theorem Lr.few_ls {r : Lr.T} {l : List Et.T} {w : World} (h : Et.Ls w r.ents.ao r.ents.n r.ents.cap l) : Et.Ls w (Lr.few r).ents.ao (Lr.few r).ents.n (Lr.few r).ents.cap (l.take 20) ∧ (Lr.few r).ents.n ≤ 20 := by
  unfold Lr.few
  by_cases k : 20 < r.ents.n
  · rw [if_pos k]
    exact ⟨(h.to 20 (by omega)).2, Nat.le_refl _⟩
  · rw [if_neg k, List.take_of_length_le (by have := h.len; omega)]
    exact ⟨h, by omega⟩
theorem Lr.few_m (r : Lr.T) (l : List Et.T) : Lr.m (Lr.few r) l = Lr.m r l := by
  unfold Lr.few
  split <;> rfl
set_option maxHeartbeats 2000000 in
theorem lw_few (r : Lr.T) (l : List Et.T) (w : World) (hA : Et.Ls w r.ents.ao r.ents.n r.ents.cap l) :
    Calls Try.prog 13 #[Lr.val r] w fun e w' => e = .returned (Lr.val (Lr.few r)) ∧ Below w.heap.size w w' := by
  have hr := hA.reach
  have hf := hA.fits
  by_cases k : 20 < r.ents.n
  · have hs := (hA.to 20 (by omega)).1
    have k' : (20 : Int) < (r.ents.n : Int) := by omega
    unfold Lr.few
    rw [if_pos k]
    clear hA k
    unfold Lr.val Lr.with
    dsimp only
    go_enter Try.func13, Try.ntmps13
    go_wp2
    exact bodyPost_ret (v := .agg #[.int .i64 r.kind, .int .i64 r.frm, .int .i64 r.to, .int .i64 r.term, .int .i64 r.idx, .int .i64 r.bt, .int .i64 r.com, .int .i64 r.mem, .int .i64 r.off, .int .i64 r.size, .bool r.yes, .string r.data, .slice r.ents.ao 20 r.ents.cap]) (by simp [results, Try.results13, go_sem]) rfl ⟨rfl, below_box (below_box (Below.refl _ _) _) _⟩
  · have k' : ¬ (20 : Int) < (r.ents.n : Int) := by omega
    unfold Lr.few
    rw [if_neg k]
    clear hA k
    unfold Lr.val
    go_enter Try.func13, Try.ntmps13
    go_wp2
    exact bodyPost_ret (v := .agg #[.int .i64 r.kind, .int .i64 r.frm, .int .i64 r.to, .int .i64 r.term, .int .i64 r.idx, .int .i64 r.bt, .int .i64 r.com, .int .i64 r.mem, .int .i64 r.off, .int .i64 r.size, .bool r.yes, .string r.data, .slice r.ents.ao r.ents.n r.ents.cap]) (by simp [results, Try.results13, go_sem]) rfl ⟨rfl, below_box (below_box (Below.refl _ _) _) _⟩
end Go.Proofs.Ytagjbjppddbalaa
