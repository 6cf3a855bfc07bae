/- THE DOCUMENT's OWN ANSWER: impostref8's Balanced. -/
import Derived.Test.YtgnepgkmjgpkeaaRfBk
set_option maxRecDepth 100000
set_option linter.unusedVariables false
namespace Go.Proofs.Ytgnepgkmjgpkeaa
open Go.RowKit
open Mem
open Go.Sort (grow)

theorem sum_take {ls : List Ba.T} {k : Nat} (h : k < ls.length) : Po.sumA (ls.take (k + 1)) = Po.sumA (ls.take k) + ls[k].amt := by
  rw [List.take_succ_eq_append_getElem h, Po.sum_app]
  show _ + (ls[k].amt + 0) = _
  omega
set_option maxHeartbeats 4000000 in
theorem rbalanced (ls : List Ba.T) (ao : Option Addr) (n cap : Nat) (w0 w : World) (hw : Below w0.heap.size w0 w) (hL : Ba.Ls w ao n cap ls) (hn : n ≤ 1000) :
    Calls Try.prog 19 #[.slice ao n cap] w fun e w' => e = .returned (.bool (Po.balB ls)) ∧ Below w0.heap.size w0 w' := by
  have HW := Lib.hid hw
  have HL := Lib.hid hL
  have HN := Lib.hid hL.len
  have hcap := hL.reach
  have hfit := hL.fits
  obtain ⟨U, hU⟩ : ∃ U, w.alloc (.cells #[.int .i64 0, .int .u64 0] 61) = U := ⟨_, rfl⟩
  have HA0 : Hid (Wd.At U w.heap.size 0 0) := Lib.hid (hU ▸ Wd.at_box w 0 0)
  have HB0 : Hid (Below w.heap.size w U) := Lib.hid (hU ▸ (Below.refl _ _).alloc (Nat.le_refl _) _)
  have HUs := Lib.hid hU
  obtain ⟨g, hg⟩ : ∃ g, w.heap.size = g := ⟨_, rfl⟩
  have HG := Lib.hid hg
  rw [hg] at HA0
  clear hw hL hU
  go_enter Try.func19, Try.ntmps19
  go_wp2_with fail
  rw [HUs.out]
  try rw [hg]
  clear HUs hg
  go_loopw [4] (fun i wr => ∃ (k : Nat) (hi lo : Int), k ≤ n ∧ i = .int .i64 k ∧ Hid (Below w.heap.size w wr ∧ Wd.At wr g hi lo) ∧ Hid (hi * 18446744073709551616 + lo = Po.sumA (ls.take k) ∧ 0 ≤ lo ∧ lo < 18446744073709551616 ∧ -(k : Int) ≤ hi ∧ hi ≤ (k : Int))) (fun i _ => n - (intOf i).toNat)
  case atStart => exact ⟨0, 0, 0, by omega, rfl, Lib.hid ⟨HB0.out, HA0.out⟩, Lib.hid ⟨rfl, by omega, by omega, by omega, by omega⟩⟩
  case round =>
    clear HA0 HB0
    rename World => wz
    obtain ⟨k, hi, lo, hk, rfl, H, HS⟩ := hrel
    obtain ⟨a0, a1⟩ := H.out.2.cells
    have f0 := H.out.2.frozen 0
    have f1 := H.out.2.frozen 1
    by_cases hlt : k < n
    · obtain ⟨b, off, rfl⟩ := HL.out.at (by omega)
      have hkl : k < ls.length := HN.out ▸ hlt
      have hrow := (HL.out.row k hkl).below H.out.1
      have HSt := Lib.hid (sum_take hkl)
      have HSh := Lib.hid (HL.out.short _ (List.getElem_mem hkl))
      obtain ⟨x, hx⟩ : ∃ x, ls[k] = x := ⟨_, rfl⟩
      rw [hx] at hrow HSt HSh
      clear hx
      obtain ⟨r0, r1⟩ := hrow
      have HC : Hid (∀ u, Below wz.heap.size wz u → u.cell? ⟨g, 0, none⟩ = some (.int .i64 hi) ∧ u.cell? ⟨g, 1, none⟩ = some (.int .u64 lo) ∧ u.frozen? ⟨g, 0, none⟩ = false ∧ u.frozen? ⟨g, 1, none⟩ = false) := Lib.hid fun u hu => by
        have h2 := H.out.2.below hu
        exact ⟨h2.cells.1, h2.cells.2, h2.frozen 0, h2.frozen 1⟩
      go_wp2_with fail
      go_region_with (go_at_call 29; refine (rplus hi lo x.amt _ (by have := HS.out; omega) ⟨HS.out.2.1, HS.out.2.2.1⟩ HSh.out.2).mono ?_; rintro e u ⟨⟨a, c, rfl, hc0, hc1, hsum, ha0, ha1⟩, bu⟩; have hbz : Below wz.heap.size wz u := (by first | exact bu | exact bchain (Below.refl _ _).drew bu); obtain ⟨q0, q1, q2, q3⟩ := HC.out u hbz; have HBu := Lib.hid hbz; have HR := Lib.hid (And.intro hsum (And.intro hc0 (And.intro hc1 (And.intro ha0 ha1)))); clear hc0 hc1 hsum ha0 ha1 bu hbz)
      all_goals (try go_wp2_with fail)
      all_goals go_roundw
      all_goals first | (simp [intOf]; omega) | exact ⟨k + 1, a, c, by omega, by go_num, Lib.hid ⟨by first | exact bset (bset (bchain H.out.1 HBu.out) (by have := HG.out; omega) _ _) (by have := HG.out; omega) _ _ | exact (bset (bset (bchain H.out.1 HBu.out) (by have := HG.out; omega) _ _) (by have := HG.out; omega) _ _).drew, (H.out.2.below HBu.out).set _ _⟩, Lib.hid ⟨by rw [HR.out.1, HS.out.1]; exact HSt.out.symm, HR.out.2.1, HR.out.2.2.1, by have h1 := HR.out; have h2 := HS.out; omega, by have h1 := HR.out; have h2 := HS.out; omega⟩⟩
    · obtain rfl : k = n := by omega
      have HT : Hid (hi * 18446744073709551616 + lo = Po.sumA ls) := Lib.hid (by
        have h := HS.out.1
        rw [List.take_of_length_le (Nat.le_of_eq HN.out.symm)] at h
        exact h)
      have HBf := Lib.hid H.out.1
      by_cases e1 : hi = 0
      · by_cases e2 : lo = 0
        · have HE : Hid (Po.balB ls = true) := Lib.hid (decide_eq_true (by rw [← HT.out, e1, e2]; rfl))
          subst e1 e2
          go_wp2_with fail
          go_ret
          exact ⟨ret_bool HE.out.symm, bchain HW.out HBf.out⟩
        · have HE : Hid (Po.balB ls = false) := Lib.hid (decide_eq_false (by rw [← HT.out, e1]; omega))
          have q2 : (lo == 0) = false := beq_eq_false_iff_ne.2 e2
          subst e1
          go_wp2_with fail
          go_ret
          exact ⟨ret_bool HE.out.symm, bchain HW.out HBf.out⟩
      · have HE : Hid (Po.balB ls = false) := Lib.hid (decide_eq_false (by rw [← HT.out]; have h := HS.out; omega))
        have q1 : (hi == 0) = false := beq_eq_false_iff_ne.2 e1
        go_wp2_with fail
        go_ret
        exact ⟨ret_bool HE.out.symm, bchain HW.out HBf.out⟩
end Go.Proofs.Ytgnepgkmjgpkeaa
