/- CONTRACTS OF PACKAGE session: numbers, fresh, sound, index. -/
import Derived.Test.YtfilanbjfnnknaaSnD
import Derived.Lib.QuietBelow
namespace Go.Proofs.Ytfilanbjfnnknaa
open Go.RowKit
open Mem
open Go.Sort (grow)

def AnsS (f : FuncId) (args : Array Value) (u : World) (i : Nat) (os : Array Obj) (v : Value) : Prop :=
  Calls Try.prog f args (grow (redrawn u i) os) fun e w'' => e = .returned v ∧ ∃ p : Regrown, w'' = grow (redrawn u p.d) p.os
theorem ses_numbers (n : Int) (w : World) : Calls Try.prog 25 #[.int .i64 n] w fun e w' => e = .returned (.bool (Sp.numB n)) ∧ w' = w := by
  by_cases h1 : 1 ≤ n
  · by_cases h2 : n ≤ 1099511627776
    · have HL := Lib.hid (Sp.num_iff.2 ⟨h1, h2⟩)
      go_enter Try.func25, Try.ntmps25
      go_wp2
      go_ret
      exact ⟨ret_bool HL.out.symm, rfl⟩
    · have HL : Hid (Sp.numB n = false) := Lib.hid (Bool.eq_false_iff.2 fun k => h2 (Sp.num_iff.1 k).2)
      go_enter Try.func25, Try.ntmps25
      go_wp2
      go_ret
      exact ⟨ret_bool HL.out.symm, rfl⟩
  · have HL : Hid (Sp.numB n = false) := Lib.hid (Bool.eq_false_iff.2 fun k => h1 (Sp.num_iff.1 k).1)
    go_enter Try.func25, Try.ntmps25
    go_wp2
    go_ret
    exact ⟨ret_bool HL.out.symm, rfl⟩
theorem numbers_agg (n : Int) (u : World) (i : Nat) (os : Array Obj) : AnsS 25 #[.int .i64 n] u i os (.bool (Sp.numB n)) :=
  Calls.regrown_of ((ses_numbers n _).mono fun _ _ h => ⟨h.1, by rw [h.2]; exact Below.refl _ _⟩)
theorem ses_fresh (i : Int) (w0 w : World) (hw : Below w0.heap.size w0 w) :
    Calls Try.prog 24 #[.int .i64 i] w fun e w' => e = .returned (Sn.val (Sp.new i)) ∧ Below w0.heap.size w0 w' := by
  have HW := Lib.hid hw
  clear hw
  go_enter Try.func24, Try.ntmps24
  go_wp2
  exact bodyPost_ret (v := Sn.val (Sp.new i)) (by simp [results, Sn.val, Sp.new, Try.results24, go_sem]) rfl ⟨rfl, below_box HW.out _⟩
theorem fresh_agg (i : Int) (u : World) (k : Nat) (os : Array Obj) : AnsS 24 #[.int .i64 i] u k os (.agg #[.int .i64 i, .int .i64 0, .int .i64 0, .int .i64 0, .int .i64 0]) :=
  Calls.regrown_of (ses_fresh i _ _ (Below.refl _ _))
/-- a session that may be one of a list, whatever its id -/
def Sp.mid (r : Sn.T) : Bool := Sp.numB r.last || (decide (r.last = 0) && Sp.zeroB r)
theorem Sp.mid_no {r : Sn.T} (h : Sp.numB r.last = false) (k : r.last ≠ 0 ∨ r.why ≠ 0 ∨ r.num ≠ 0 ∨ r.gross ≠ 0) : Sp.mid r = false := by
  unfold Sp.mid
  rw [h, Bool.false_or]
  rw [Bool.eq_false_iff]
  intro hh
  rw [Bool.and_eq_true, decide_eq_true_iff, Sp.zero_iff] at hh
  omega
theorem Sp.mid_zero {r : Sn.T} (h0 : r.last = 0) (h1 : r.why = 0) (h2 : r.num = 0) (h3 : r.gross = 0) : Sp.mid r = true := by
  unfold Sp.mid
  rw [decide_eq_true h0, Sp.zero_iff.2 ⟨h1, h2, h3⟩, Bool.and_self, Bool.or_true]
theorem Sp.mid_num {r : Sn.T} (h : Sp.numB r.last = true) : Sp.mid r = true := by
  unfold Sp.mid
  rw [h, Bool.true_or]
/-- the id ahead of a place -/
def Sp.aid : Option Sn.T → Int
  | none => 0
  | some q => q.id
theorem Sp.ok_mid (p : Option Sn.T) (r : Sn.T) (h : 0 ≤ Sp.aid p) : Sp.ok p r = (decide (Sp.aid p < r.id) && Sp.mid r) := by
  have hm : Sp.mid r = true ↔ 0 ≤ r.last ∧ r.last ≤ 1099511627776 ∧ (r.last = 0 → r.why = 0 ∧ r.num = 0 ∧ r.gross = 0) := by
    unfold Sp.mid
    rw [Bool.or_eq_true, Bool.and_eq_true, decide_eq_true_iff, Sp.num_iff, Sp.zero_iff]
    omega
  rw [Bool.eq_iff_iff]
  unfold Sp.ok
  rw [Bool.and_eq_true, Bool.and_eq_true, Sp.sound_iff, hm, decide_eq_true_iff]
  cases p with
  | none =>
    unfold Sp.aid
    simp only [and_true]
    omega
  | some q =>
    unfold Sp.aid at h ⊢
    simp only at h ⊢
    rw [Sp.lt_iff]
    omega
set_option maxHeartbeats 2000000 in
theorem ses_sound (r : Sn.T) (w0 w : World) (hw : Below w0.heap.size w0 w) :
    Calls Try.prog 27 #[Sn.val r] w fun e w' => e = .returned (.bool (Sp.mid r)) ∧ Below w0.heap.size w0 w' := by
  have HW := Lib.hid hw
  clear hw
  obtain ⟨W, hW, hbW, hC⟩ := Sn.boxed1 w r
  have HBW := Lib.hid (bchain HW.out hbW)
  clear hbW
  unfold Sn.C at hC
  obtain ⟨a0, a1, a2, a3, a4⟩ := hC
  have k0 := cell_regrown a0
  have k1 := cell_regrown a1
  have k2 := cell_regrown a2
  have k3 := cell_regrown a3
  have k4 := cell_regrown a4
  have c1 := numbers_agg r.last
  have c2 := fresh_agg r.id
  unfold Sn.val
  cases hn : Sp.numB r.last
  · rw [hn] at c1
    have HN := Lib.hid hn
    clear hn
    by_cases h1 : r.last = 0
    · by_cases h2 : r.why = 0
      · by_cases h3 : r.num = 0
        · by_cases h4 : r.gross = 0
          · have HE := Lib.hid (Sp.mid_zero h1 h2 h3 h4)
            have q1 : (r.last == 0) = true := beq_iff_eq.2 h1
            have q2 : (r.why == 0) = true := beq_iff_eq.2 h2
            have q3 : (r.num == 0) = true := beq_iff_eq.2 h3
            have q4 : (r.gross == 0) = true := beq_iff_eq.2 h4
            clear h1 h2 h3 h4
            go_enter Try.func27, Try.ntmps27
            go_wp2
            refine wp_region_quiet_below (by kernel_rfl) (by kernel_rfl) ?_
            repeat (first | go_big_quiet_step (first | (go_at_call 25; exact c1 _ _ _) | (go_at_call 24; exact c2 _ _ _)) | quiet_step (first | (go_at_call 25; exact c1 _ _ _) | (go_at_call 24; exact c2 _ _ _)))
            refine wpQuiet_nil ?_
            intro _ hw'
            obtain ⟨⟨dq, osq⟩, hw''⟩ := hw'
            subst hw''
            have HBv := Lib.hid (bchain HBW.out (below_regrown W dq osq))
            go_wp2
            go_ret
            exact ⟨ret_bool HE.out.symm, HBv.out⟩
          · have HE := Lib.hid (Sp.mid_no HN.out (.inr (.inr (.inr h4))))
            have q1 : (r.last == 0) = true := beq_iff_eq.2 h1
            have q2 : (r.why == 0) = true := beq_iff_eq.2 h2
            have q3 : (r.num == 0) = true := beq_iff_eq.2 h3
            have q4 : (r.gross == 0) = false := beq_eq_false_iff_ne.2 h4
            clear h1 h2 h3 h4
            go_enter Try.func27, Try.ntmps27
            go_wp2
            refine wp_region_quiet_below (by kernel_rfl) (by kernel_rfl) ?_
            repeat (first | go_big_quiet_step (first | (go_at_call 25; exact c1 _ _ _) | (go_at_call 24; exact c2 _ _ _)) | quiet_step (first | (go_at_call 25; exact c1 _ _ _) | (go_at_call 24; exact c2 _ _ _)))
            refine wpQuiet_nil ?_
            intro _ hw'
            obtain ⟨⟨dq, osq⟩, hw''⟩ := hw'
            subst hw''
            have HBv := Lib.hid (bchain HBW.out (below_regrown W dq osq))
            go_wp2
            go_ret
            exact ⟨ret_bool HE.out.symm, HBv.out⟩
        · have HE := Lib.hid (Sp.mid_no HN.out (.inr (.inr (.inl h3))))
          have q1 : (r.last == 0) = true := beq_iff_eq.2 h1
          have q2 : (r.why == 0) = true := beq_iff_eq.2 h2
          have q3 : (r.num == 0) = false := beq_eq_false_iff_ne.2 h3
          clear h1 h2 h3
          go_enter Try.func27, Try.ntmps27
          go_wp2
          refine wp_region_quiet_below (by kernel_rfl) (by kernel_rfl) ?_
          repeat (first | go_big_quiet_step (first | (go_at_call 25; exact c1 _ _ _) | (go_at_call 24; exact c2 _ _ _)) | quiet_step (first | (go_at_call 25; exact c1 _ _ _) | (go_at_call 24; exact c2 _ _ _)))
          refine wpQuiet_nil ?_
          intro _ hw'
          obtain ⟨⟨dq, osq⟩, hw''⟩ := hw'
          subst hw''
          have HBv := Lib.hid (bchain HBW.out (below_regrown W dq osq))
          go_wp2
          go_ret
          exact ⟨ret_bool HE.out.symm, HBv.out⟩
      · have HE := Lib.hid (Sp.mid_no HN.out (.inr (.inl h2)))
        have q1 : (r.last == 0) = true := beq_iff_eq.2 h1
        have q2 : (r.why == 0) = false := beq_eq_false_iff_ne.2 h2
        clear h1 h2
        go_enter Try.func27, Try.ntmps27
        go_wp2
        refine wp_region_quiet_below (by kernel_rfl) (by kernel_rfl) ?_
        repeat (first | go_big_quiet_step (first | (go_at_call 25; exact c1 _ _ _) | (go_at_call 24; exact c2 _ _ _)) | quiet_step (first | (go_at_call 25; exact c1 _ _ _) | (go_at_call 24; exact c2 _ _ _)))
        refine wpQuiet_nil ?_
        intro _ hw'
        obtain ⟨⟨dq, osq⟩, hw''⟩ := hw'
        subst hw''
        have HBv := Lib.hid (bchain HBW.out (below_regrown W dq osq))
        go_wp2
        go_ret
        exact ⟨ret_bool HE.out.symm, HBv.out⟩
    · have HE := Lib.hid (Sp.mid_no HN.out (.inl h1))
      have q1 : (r.last == 0) = false := beq_eq_false_iff_ne.2 h1
      clear h1
      go_enter Try.func27, Try.ntmps27
      go_wp2
      refine wp_region_quiet_below (by kernel_rfl) (by kernel_rfl) ?_
      repeat (first | go_big_quiet_step (first | (go_at_call 25; exact c1 _ _ _) | (go_at_call 24; exact c2 _ _ _)) | quiet_step (first | (go_at_call 25; exact c1 _ _ _) | (go_at_call 24; exact c2 _ _ _)))
      refine wpQuiet_nil ?_
      intro _ hw'
      obtain ⟨⟨dq, osq⟩, hw''⟩ := hw'
      subst hw''
      have HBv := Lib.hid (bchain HBW.out (below_regrown W dq osq))
      go_wp2
      go_ret
      exact ⟨ret_bool HE.out.symm, HBv.out⟩
  · rw [hn] at c1
    have HE := Lib.hid (Sp.mid_num hn)
    clear hn
    go_enter Try.func27, Try.ntmps27
    go_wp2
    refine wp_region_quiet_below (by kernel_rfl) (by kernel_rfl) ?_
    repeat (first | go_big_quiet_step (first | (go_at_call 25; exact c1 _ _ _) | (go_at_call 24; exact c2 _ _ _)) | quiet_step (first | (go_at_call 25; exact c1 _ _ _) | (go_at_call 24; exact c2 _ _ _)))
    refine wpQuiet_nil ?_
    intro _ hw'
    obtain ⟨⟨dq, osq⟩, hw''⟩ := hw'
    subst hw''
    have HBv := Lib.hid (bchain HBW.out (below_regrown W dq osq))
    go_wp2
    go_ret
    exact ⟨ret_bool HE.out.symm, HBv.out⟩
set_option maxHeartbeats 2000000 in
theorem ses_index (ls : List Sn.T) (i : Int) (ao : Option Addr) (n cap : Nat) (w0 w : World) (hw : Below w0.heap.size w0 w) (hL : Sn.Ls w ao n cap ls) :
    Calls Try.prog 22 #[.slice ao n cap, .int .i64 i] w fun e w' => e = .returned (.int .i64 (Sp.ix i ls : Nat)) ∧ Below w0.heap.size w0 w' := by
  have HW := Lib.hid hw
  have HL := Lib.hid hL
  have HN := Lib.hid hL.len
  have hcap := hL.reach
  have hfit := hL.fits
  clear hL hw
  go_enter Try.func22, Try.ntmps22
  go_wp2_with fail
  go_loopw [5, 6, 9] (fun _ _ j wr => ∃ k : Nat, k ≤ n ∧ j = .int .i64 k ∧ Hid (∀ r ∈ ls.take k, r.id ≠ i) ∧ Hid (Below w.heap.size w wr)) (fun _ _ j _ => n - (intOf j).toNat)
  case atStart => exact ⟨0, by omega, rfl, Lib.hid (fun _ h => by cases h), Lib.hid (Below.refl _ _)⟩
  case round =>
    obtain ⟨k, hk, rfl, HT, HB⟩ := hrel
    by_cases hlt : k < n
    · obtain ⟨b, off, rfl⟩ := HL.out.at (by omega)
      have hkl : k < ls.length := HN.out ▸ hlt
      obtain ⟨r, hr⟩ : ∃ r, ls[k] = r := ⟨_, rfl⟩
      have hrow := (HL.out.row k hkl).below HB.out
      rw [hr] at hrow
      obtain ⟨g0, g1, g2, g3, g4⟩ := hrow
      obtain ⟨W, hW, hbW, hA⟩ := Sn.boxed1 wr r
      have HBW := Lib.hid (bchain HB.out hbW)
      clear hbW
      unfold Sn.C at hA
      obtain ⟨a0, a1, a2, a3, a4⟩ := hA
      have HS := Lib.hid (List.take_succ_eq_append_getElem hkl)
      by_cases he : r.id = i
      · have HF := Lib.hid (Sp.ix_at hkl HT.out (hr ▸ he))
        have qe : (r.id == i) = true := beq_iff_eq.2 he
        clear he hr
        go_wp2_with fail
        go_ret
        exact ⟨by rw [HF.out]; rfl, bchain HW.out HBW.out⟩
      · have HE := Lib.hid he
        have qe : (r.id == i) = false := beq_eq_false_iff_ne.2 he
        have HR := Lib.hid hr
        clear hr he
        go_wp2_with fail
        go_roundw
        case rel =>
          refine ⟨k + 1, by omega, by go_num, Lib.hid ?_, HBW⟩
          rw [HS.out]
          intro x hx
          rcases List.mem_append.1 hx with h | h
          · exact HT.out x h
          · obtain rfl := List.mem_singleton.1 h
            rw [HR.out]
            exact HE.out
        case measure => simp [intOf]; omega
    · obtain rfl : k = n := by omega
      have HF : Hid (Sp.ix i ls = k) := Lib.hid (by
        have := Sp.ix_none (s := i) (l := ls) (fun r hr => HT.out r (by rw [List.take_of_length_le (by rw [← HN.out]; exact Nat.le_refl _)]; exact hr))
        rw [this, HN.out])
      go_wp2_with fail
      go_ret
      exact ⟨by rw [HF.out]; rfl, bchain HW.out HB.out⟩
end Go.Proofs.Ytfilanbjfnnknaa
