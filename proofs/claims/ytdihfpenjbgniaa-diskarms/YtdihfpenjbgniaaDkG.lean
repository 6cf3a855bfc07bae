/- DiskArms walked: armed for n changes, n are done and no more. -/
import Derived.Test.YtdihfpenjbgniaaDkK
import Derived.Test.YtdihfpenjbgniaaBbIn
import Derived.Test.YtdihfpenjbgniaaBookIn
set_option maxRecDepth 100000
set_option linter.unusedVariables false
namespace Go.Proofs.Ytdihfpenjbgniaa
open Go.RowKit
open Mem Dk

structure Dk.Armed (k i : Nat) (d : D) (bs : List UInt8) : Prop where
  fs : (d.fs = [] ∧ bs = []) ∨ d.fs = [⟨nf, bs, 0⟩]
  few : bs.length ≤ 50 * i
  st : (i ≤ k ∧ d.off = false ∧ d.left = (k : Int) - (i : Int)) ∨ (k < i ∧ d.off = true ∧ d.left = 0)
theorem Dk.armed_new (k : Nat) : Armed k 0 (armD Dk.new (k : Int)) [] := by
  refine ⟨.inl ⟨rfl, rfl⟩, Nat.zero_le _, .inl ⟨Nat.zero_le _, rfl, ?_⟩⟩
  show (if (k : Int) < 0 then (-1 : Int) else (k : Int)) = _
  rw [if_neg (by omega)]
  omega
theorem Dk.armed_yes {k i : Nat} {d : D} {bs p : List UInt8} (h : Armed k i d bs) (hp : p.length ≤ 50) (h20 : k ≤ 20) (hk : i < k) : (appD d nf p).1 = 0 ∧ (appD d nf p).2.off = false ∧ Armed k (i + 1) (appD d nf p).2 (bs ++ p) := by
  obtain ⟨fs, off, left⟩ := d
  obtain ⟨hf, hw, hs⟩ := h
  rcases hs with ⟨_, h1, h2⟩ | ⟨h0, _⟩
  · simp only at h1 h2 hf
    subst h1
    have hl : left ≠ 0 := by omega
    have hdec : dec left = (k : Int) - ((i + 1 : Nat) : Int) := by
      unfold dec
      rw [if_pos (by omega)]
      omega
    rcases hf with ⟨rfl, rfl⟩ | rfl
    · rw [run_a1 nf nf_ok p (by omega) left hl]
      exact ⟨rfl, rfl, .inr rfl, by simp only [List.nil_append]; omega, .inl ⟨hk, rfl, hdec⟩⟩
    · rw [run_a2 nf nf_ok bs p 0 (by omega) left hl]
      exact ⟨rfl, rfl, .inr rfl, by rw [List.length_append]; omega, .inl ⟨hk, rfl, hdec⟩⟩
  · omega
theorem Dk.armed_no {k i : Nat} {d : D} {bs p : List UInt8} (h : Armed k i d bs) (hp : p.length ≤ 50) (hi : i < 30) (hk : ¬ i < k) : (appD d nf p).1 = 18 ∧ (appD d nf p).2.off = true ∧ Armed k (i + 1) (appD d nf p).2 bs := by
  obtain ⟨fs, off, left⟩ := d
  obtain ⟨hf, hw, hs⟩ := h
  simp only at hf
  have hlen : total fs ≤ 1500 := by
    rcases hf with ⟨rfl, rfl⟩ | rfl
    · exact Nat.zero_le _
    · show bs.length + 0 ≤ 1500
      omega
  rcases hs with ⟨h0, h1, h2⟩ | ⟨h0, h1, h2⟩
  · simp only at h1 h2
    have hl : left = 0 := by omega
    subst h1 hl
    have e : appD ⟨fs, false, 0⟩ nf p = (18, ⟨fs, true, 0⟩) := by
      unfold appD
      rw [if_neg Bool.false_ne_true, if_neg (by rw [nf_ok]; exact fun z => by cases z), if_neg (by show ¬ 4194304 < total fs + p.length; omega), if_pos rfl]
      rfl
    rw [e]
    exact ⟨rfl, rfl, hf, by omega, .inr ⟨by omega, rfl, rfl⟩⟩
  · simp only at h1 h2
    subst h1 h2
    have e : appD ⟨fs, true, 0⟩ nf p = (18, ⟨fs, true, 0⟩) := by
      unfold appD
      rw [if_pos rfl]
    rw [e]
    exact ⟨rfl, rfl, hf, by omega, .inr ⟨by omega, rfl, rfl⟩⟩
def Dk.ng : ByteArray := ⟨#[103]⟩
/-- behind the crash -/
theorem Dk.armed_crash {k i : Nat} {d : D} {bs : List UInt8} (h : Armed k i d bs) : ((crashD d []).fs = [] ∨ (crashD d []).fs = [⟨nf, [], 0⟩]) ∧ (crashD d []).off = false ∧ (crashD d []).left = -1 := by
  refine ⟨?_, rfl, rfl⟩
  unfold crashD
  simp only
  rcases h.fs with ⟨e, _⟩ | e
  · rw [e]
    exact .inl rfl
  · rw [e]
    refine .inr ?_
    have ht : tear ⟨nf, bs, 0⟩ (pick [] 0) = ⟨nf, [], 0⟩ := by
      have := tear_no (f := ⟨nf, bs, 0⟩) (p := 0) (Nat.zero_le _) (by simp)
      simp only [Nat.zero_mod, Nat.add_zero, List.take_zero] at this
      exact this
    show [tear ⟨nf, bs, 0⟩ (pick [] 0)] = _
    rw [ht]
theorem Dk.armed_g {d : D} (h : (d.fs = [] ∨ d.fs = [⟨nf, [], 0⟩]) ∧ d.off = false ∧ d.left = -1) : (appD d ng []).1 = 0 := by
  obtain ⟨fs, off, left⟩ := d
  obtain ⟨h0, h1, h2⟩ := h
  simp only at h0 h1 h2
  subst h1 h2
  have ht : total fs = 0 := by
    rcases h0 with rfl | rfl
    · rfl
    · rfl
  unfold appD
  rw [if_neg Bool.false_ne_true, if_neg (by decide), if_neg (by show ¬ 4194304 < total fs + 0; omega), if_neg (by show ¬ (-1 : Int) = 0; decide)]
/-- one part's bytes, and how it is cut -/
theorem Dk.part_of {w wz : World} {a : Option Addr} {n c : Nat} {ps : List (Sl × List UInt8)} (h : Bb.Ls w a n c ps) (hb : Below w.heap.size w wz) {i : Nat} (hi : i < n) :
    ∃ (b off : Nat) (s : Sl) (xs : List UInt8), a = some ⟨b, off, none⟩ ∧ wz.cell? ⟨b, off + i, none⟩ = some (.slice s.ao s.n s.cap) ∧ By.Ls w s.ao s.n s.cap xs ∧ s.n ≤ 140737488351232 := by
  have hi' : i < ps.length := h.len ▸ hi
  rcases h.seg with e | ⟨b, off, e, hc⟩
  · rw [e] at hi'
    simp at hi'
  · have h1 := hc i hi'
    exact ⟨b, off, ps[i].1, ps[i].2, e, (by rw [(bcell hb).1 _ _ (cell_lt h1)]; exact h1), h.each _ (List.getElem_mem hi')⟩
theorem Dk.old_block {w : World} {ao : Option Addr} {n cap : Nat} {xs : List UInt8} (h : By.Ls w ao n cap xs) (hx : xs ≠ []) (ad : Addr) (e : ao = some ad) : ad.block < w.heap.size := by
  rcases h.seg with k | ⟨b, off, k, hc⟩
  · exact absurd k hx
  · rw [k] at e
    cases e
    exact cell_lt (hc 0 (List.length_pos_iff.2 hx))
/-- what the loop holds -/
def Dk.ArmI (w : World) (p k i : Nat) (x : Sl) (wr : World) : Prop := ∃ (P : Nat → Prop) (d : D) (bs : List UInt8), S P w wr p d ∧ Armed k i d bs ∧ By.Own wr 0 (sl x) bs ∧ ∀ g, (sl x).ownBlock = some g → ¬ P g ∧ w.heap.size ≤ g
theorem Dk.arm_few {k i : Nat} {d : D} {bs : List UInt8} (h : Armed k i d bs) : d.fs.length < 1000 := by
  rcases h.fs with ⟨e, _⟩ | e
  · rw [e]
    decide
  · rw [e]
    show (1 : Nat) < 1000
    decide
/-- one Append -/
theorem Dk.arm_call {w wr : World} {p k i : Nat} {x : Sl} (h : ArmI w p k i x wr) (h20 : k ≤ 20) (hi : i < 30) {ao : Option Addr} {n cap : Nat} {xs : List UInt8} (hL : By.Ls w ao n cap xs) (hn : n ≤ 50) :
    Calls Try.prog 12 #[.pointer (some ⟨p, 0, none⟩), .string nf, .slice ao n cap] wr fun e w' =>
      ∃ (P : Nat → Prop) (d : D) (bs : List UInt8), S P w w' p d ∧ (∀ b, P b → b < w'.heap.size) ∧ By.Own w' 0 (sl x) bs ∧ (∀ g, (sl x).ownBlock = some g → ¬ P g ∧ w.heap.size ≤ g) ∧ By.Ls w' ao n cap xs ∧ ((i < k ∧ e = .returned (.int .i64 0) ∧ d.off = false ∧ Armed k (i + 1) d (bs ++ xs) ∧ bs.length ≤ 1500) ∨ (¬ i < k ∧ e = .returned (.int .i64 18) ∧ d.off = true ∧ Armed k (i + 1) d bs)) := by
  obtain ⟨P, d, bs, hS, hA, hO, hG⟩ := h
  have hl := hL.len
  refine (s_append hS nf (by decide) ao n cap xs (hL.below hS.bel) (fun hne ad e z => by
    have h1 := old_block hL hne ad e
    have h2 := hS.sub _ z
    omega) (arm_few hA)).mono ?_
  rintro e w' ⟨rfl, h2, q⟩
  refine ⟨_, _, bs, h2.tight, fun b z => z.2, q.rows hO fun g e z => (hG g e).1 z, fun g e => ⟨fun z => ?_, (hG g e).2⟩, hL.below h2.bel, ?_⟩
  · rcases z.1 with z | z
    · exact (hG g e).1 z
    · have := (World.ownsRow.lt hO g e).2
      omega
  · by_cases hk : i < k
    · obtain ⟨a1, a2, a3⟩ := armed_yes hA (by omega : xs.length ≤ 50) h20 hk
      have := hA.few
      exact .inl ⟨hk, by rw [a1], a2, a3, by omega⟩
    · obtain ⟨a1, a2, a3⟩ := armed_no hA (by omega : xs.length ≤ 50) hi hk
      exact .inr ⟨hk, by rw [a1], a2, a3⟩
end Go.Proofs.Ytdihfpenjbgniaa
