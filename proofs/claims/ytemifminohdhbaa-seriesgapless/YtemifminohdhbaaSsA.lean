/- CONTRACTS OF PACKAGE series: limits, sound, index. -/
import Derived.Test.YtemifminohdhbaaSe
import Derived.Test.YtemifminohdhbaaSignN
import Derived.Lib.QuietBelow
namespace Go.Proofs.Ytemifminohdhbaa
open Go.RowKit
open Mem
open Go.Sort (grow)

def Ans (f : FuncId) (args : Array Value) (u : World) (i : Nat) (os : Array Obj) (v : Value) : Prop :=
  Calls Try.prog f args (grow (redrawn u i) os) fun e w'' => e = .returned v ∧ ∃ p : Regrown, w'' = grow (redrawn u p.d) p.os
theorem ser_limits (n : Int) (w : World) : Calls Try.prog 23 #[.int .i64 n] w fun e w' => e = .returned (.bool (Se.lim n)) ∧ w' = w := by
  by_cases h1 : 1 ≤ n
  · by_cases h2 : n ≤ 1099511627776
    · have HL := Lib.hid (Se.lim_iff.2 ⟨h1, h2⟩)
      go_enter Try.func23, Try.ntmps23
      go_wp2
      go_ret
      exact ⟨ret_bool HL.out.symm, rfl⟩
    · have HL := Lib.hid ((Se.lim_no (n := n)).2 (.inr (by omega)))
      go_enter Try.func23, Try.ntmps23
      go_wp2
      go_ret
      exact ⟨ret_bool HL.out.symm, rfl⟩
  · have HL := Lib.hid ((Se.lim_no (n := n)).2 (.inl (by omega)))
    go_enter Try.func23, Try.ntmps23
    go_wp2
    go_ret
    exact ⟨ret_bool HL.out.symm, rfl⟩
set_option maxHeartbeats 2000000 in
theorem ser_sound (r : Sr.T) (w0 w : World) (hw : Below w0.heap.size w0 w) (hs : Sr.Short r) :
    Calls Try.prog 30 #[Sr.val r] w fun e w' => e = .returned (.bool (Se.sound r)) ∧ Below w0.heap.size w0 w' := by
  have HW := Lib.hid hw
  have HS := Lib.hid hs
  clear hw hs
  obtain ⟨W, hW, hbW, hC⟩ := Sr.boxed1 w r
  have HBW := Lib.hid (bchain HW.out hbW)
  have HC := Lib.hid hC
  clear hbW
  unfold Sr.C at hC
  obtain ⟨a0, a1, a2, a3⟩ := hC
  unfold Sr.val
  go_enter Try.func30, Try.ntmps30
  go_wp2_with fail
  refine (name_any r.name _ HS.out.1).mono ?_
  rintro e w1 ⟨rfl, b1⟩
  have hC := HC.out.below b1
  have HC1 := Lib.hid hC
  have HB1 := Lib.hid (bchain HBW.out b1)
  unfold Sr.C at hC
  clear a0 a1 a2 a3 b1 hW HC HBW
  obtain ⟨a0, a1, a2, a3⟩ := hC
  cases hn : Rn.name (txt r.name)
  · have HE := Lib.hid (Se.sound_no (r := r) (.inl hn))
    clear hn
    go_wp2_with fail
    go_ret
    exact ⟨ret_bool HE.out.symm, HB1.out⟩
  · have HN := Lib.hid hn
    clear hn
    go_wp2_with fail
    refine (ser_limits r.limit _).mono ?_
    rintro e w2 ⟨rfl, rfl⟩
    cases hl : Se.lim r.limit
    · have HE := Lib.hid (Se.sound_no (r := r) (.inr (.inl hl)))
      clear hl
      go_wp2_with fail
      go_ret
      exact ⟨ret_bool HE.out.symm, HB1.out⟩
    · have HL := Lib.hid hl
      obtain ⟨hl1, hl2⟩ := Se.lim_iff.1 hl
      clear hl
      by_cases h1 : 1 ≤ r.next
      · by_cases h2 : r.next ≤ r.limit + 1
        · have HE := Lib.hid (Se.sound_iff.2 ⟨HN.out, HL.out, h1, h2⟩)
          go_wp2_with fail
          go_ret
          exact ⟨ret_bool HE.out.symm, HB1.out⟩
        · have HE := Lib.hid (Se.sound_no (r := r) (.inr (.inr (.inr (by omega)))))
          go_wp2_with fail
          go_ret
          exact ⟨ret_bool (by rw [HE.out]; exact decide_eq_false (Int.not_le.2 h2)), HB1.out⟩
      · have HE := Lib.hid (Se.sound_no (r := r) (.inr (.inr (.inl (by omega)))))
        go_wp2_with fail
        go_ret
        exact ⟨ret_bool HE.out.symm, HB1.out⟩
theorem sound_agg (r : Sr.T) (hs : Sr.Short r) (u : World) (i : Nat) (os : Array Obj) : Ans 30 #[.agg #[.string r.name, .int .i64 r.next, .int .i64 r.limit, .bool r.shut]] u i os (.bool (Se.sound r)) :=
  Calls.regrown_of (ser_sound r _ _ (Below.refl _ _) hs)
set_option maxHeartbeats 2000000 in
theorem ser_index (ls : List Sr.T) (s : ByteArray) (ao : Option Addr) (n cap : Nat) (w0 w : World) (hw : Below w0.heap.size w0 w) (hL : Sr.Ls w ao n cap ls) :
    Calls Try.prog 24 #[.slice ao n cap, .string s] w fun e w' => e = .returned (.int .i64 (Se.ix s ls : Nat)) ∧ Below w0.heap.size w0 w' := by
  have HW := Lib.hid hw
  have HL := Lib.hid hL
  have HN := Lib.hid hL.len
  have hcap := hL.reach
  have hfit := hL.fits
  clear hL hw
  go_enter Try.func24, Try.ntmps24
  go_wp2_with fail
  go_loopw [5, 6, 9] (fun _ _ i wr => ∃ k : Nat, k ≤ n ∧ i = .int .i64 k ∧ Hid (∀ r ∈ ls.take k, r.name ≠ s) ∧ Hid (Below w.heap.size w wr)) (fun _ _ i _ => n - (intOf i).toNat)
  case atStart => exact ⟨0, by omega, rfl, Lib.hid (fun _ h => by cases h), Lib.hid (Below.refl _ _)⟩
  case round =>
    obtain ⟨k, hk, rfl, HT, HB⟩ := hrel
    by_cases hlt : k < n
    · obtain ⟨b, off, rfl⟩ := HL.out.at (by omega)
      have hkl : k < ls.length := HN.out ▸ hlt
      obtain ⟨r, hr⟩ : ∃ r, ls[k] = r := ⟨_, rfl⟩
      have hrow := (HL.out.row k hkl).below HB.out
      rw [hr] at hrow
      obtain ⟨g0, g1, g2, g3⟩ := hrow
      obtain ⟨W, hW, hbW, hA⟩ := Sr.boxed1 wr r
      have HBW := Lib.hid (bchain HB.out hbW)
      clear hbW
      unfold Sr.C at hA
      obtain ⟨a0, a1, a2, a3⟩ := hA
      have HS := Lib.hid (List.take_succ_eq_append_getElem hkl)
      by_cases he : r.name = s
      · have HF := Lib.hid (Se.ix_at hkl HT.out (hr ▸ he))
        have qe : (r.name.toList == s.toList) = true := beq_iff_eq.2 (by rw [he])
        clear he hr
        go_wp2_with fail
        go_ret
        exact ⟨by rw [HF.out]; rfl, bchain HW.out HBW.out⟩
      · have HE := Lib.hid he
        have qe : (r.name.toList == s.toList) = false := beq_eq_false_iff_ne.2 fun e => he (Vt.cat_ext e)
        have HR := Lib.hid hr
        clear hr he
        go_wp2_with fail
        go_roundw
        case rel =>
          refine ⟨k + 1, by omega, by go_num, Lib.hid ?_, HBW⟩
          rw [HS.out]
          intro x hx
          rcases List.mem_append.1 hx with h | h
          · exact HT.out x h
          · obtain rfl := List.mem_singleton.1 h
            rw [HR.out]
            exact HE.out
        case measure => simp [intOf]; omega
    · obtain rfl : k = n := by omega
      have HF : Hid (Se.ix s ls = k) := Lib.hid (by
        have := Se.ix_none (s := s) (l := ls) (fun r hr => HT.out r (by rw [List.take_of_length_le (by rw [← HN.out]; exact Nat.le_refl _)]; exact hr))
        rw [this, HN.out])
      go_wp2_with fail
      go_ret
      exact ⟨by rw [HF.out]; rfl, bchain HW.out HB.out⟩
end Go.Proofs.Ytemifminohdhbaa
