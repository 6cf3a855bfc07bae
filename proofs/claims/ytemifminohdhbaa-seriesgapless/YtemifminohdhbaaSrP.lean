/- SERIES TOLD PLAINLY, AND WHERE A NAME STANDS: impostref8.find. (Rehearsed at a trial seat of round 9.) -/
import Derived.Test.YtemifminohdhbaaSrS
import Derived.Test.YtemifminohdhbaaVt
set_option linter.unusedVariables false
set_option maxRecDepth 100000
namespace Go.Proofs.Ytemifminohdhbaa
open Go.RowKit
open Mem

/-- where the first series of that name stands; -1: nowhere -/
def fnd : List Sr.T → ByteArray → Int
  | [], _ => -1
  | r :: l, s => if r.name = s then 0 else if fnd l s < 0 then -1 else fnd l s + 1
theorem fnd_none : ∀ {l : List Sr.T} {s : ByteArray}, (∀ r ∈ l, r.name ≠ s) → fnd l s = -1
  | [], _, _ => rfl
  | r :: l, s, h => by
    unfold fnd
    rw [if_neg (h r (by simp)), fnd_none (fun x hx => h x (by simp [hx]))]
    rfl
theorem fnd_at : ∀ {l : List Sr.T} {s : ByteArray} {k : Nat} (hk : k < l.length), (∀ r ∈ l.take k, r.name ≠ s) → l[k].name = s → fnd l s = k
  | [], _, _, hk, _, _ => absurd hk (Nat.not_lt_zero _)
  | r :: l, s, 0, _, _, h => by
    unfold fnd
    exact if_pos h
  | r :: l, s, k + 1, hk, hn, h => by
    have e := fnd_at (l := l) (s := s) (k := k) (by simpa using hk) (fun x hx => hn x (by simp [hx])) (by simpa using h)
    unfold fnd
    rw [if_neg (hn r (by simp)), e, if_neg (by omega)]
    omega
set_option maxHeartbeats 4000000 in
theorem rfind (ls : List Sr.T) (s : ByteArray) (ao : Option Addr) (n cap : Nat) (w : World) (hL : Sr.Ls w ao n cap ls) :
    Calls Try.prog 29 #[.slice ao n cap, .string s] w fun e w' => e = .returned (.int .i64 (fnd ls s)) ∧ w' = w := by
  have HL := Lib.hid hL
  have HN := Lib.hid hL.len
  have hcap := hL.reach
  have hfit := hL.fits
  clear hL
  go_enter Try.func29, Try.ntmps29
  go_wp2_with fail
  go_loop [5] (fun i => ∃ k : Nat, k ≤ n ∧ i = .int .i64 k ∧ Hid (∀ r ∈ ls.take k, r.name ≠ s)) (fun i => n - (intOf i).toNat)
  case atStart => exact ⟨0, by omega, rfl, Lib.hid (fun _ h => by cases h)⟩
  case round =>
    obtain ⟨k, hk, rfl, HT⟩ := hrel
    by_cases hlt : k < n
    · obtain ⟨b, off, rfl⟩ := HL.out.at (by omega)
      have hkl : k < ls.length := HN.out ▸ hlt
      have hrow := HL.out.row k hkl
      obtain ⟨g0, g1, g2, g3⟩ := hrow
      have HS := Lib.hid (List.take_succ_eq_append_getElem hkl)
      by_cases he : ls[k].name = s
      · have HF := Lib.hid (fnd_at hkl HT.out he)
        rw [he] at g0
        go_wp2_with fail
        go_ret
        exact ⟨by rw [HF.out]; rfl, rfl⟩
      · have HE := Lib.hid he
        have qe : (ls[k].name.toList == s.toList) = false := beq_eq_false_iff_ne.2 fun e => he (Vt.cat_ext e)
        go_wp2_with fail
        go_round
        case rel =>
          refine ⟨k + 1, by omega, by go_num, Lib.hid ?_⟩
          rw [HS.out]
          intro r hr
          rcases List.mem_append.1 hr with h | h
          · exact HT.out r h
          · obtain rfl := List.mem_singleton.1 h
            exact HE.out
        case measure => simp [intOf]; omega
    · obtain rfl : k = n := by omega
      have HF : Hid (fnd ls s = -1) := Lib.hid (fnd_none (fun r hr => HT.out r (by rw [List.take_of_length_le (by rw [← HN.out]; exact Nat.le_refl _)]; exact hr)))
      go_wp2_with fail
      go_ret
      exact ⟨by rw [HF.out]; rfl, rfl⟩
end Go.Proofs.Ytemifminohdhbaa
