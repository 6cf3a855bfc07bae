/- THE WALK OF SignNumbers. -/
import Derived.Test.YtgjfljpnlmebhabJoinsLaw
import Derived.Test.YtgjfljpnlmebhabArgs
namespace Go.Proofs.Ytgjfljpnlmebhab
open Go.RowKit

/-- the digits that were written so far, and what is left -/
structure Written (n k : Nat) (l : List UInt8) : Prop where
  sum : n = k * 10 ^ l.length + Rn.val 0 l
  dig : ∀ b ∈ l, 48 ≤ b.toNat ∧ b.toNat ≤ 57
  len : l.length ≤ 10
  one : l = [] → k = n
  lead : l ≠ [] → k = 0 → l.head? ≠ some 48 ∨ l = [48]
theorem written_start (n : Nat) : Written n n [] := ⟨by simp [Rn.val], by simp, by simp, fun _ => rfl, fun h => absurd rfl h⟩
theorem written_step (n k : Nat) (l : List UInt8) (hn : n < 4294967296) (h : Written n k l) (hc : 0 < k ∨ l = []) : Written n (k / 10) (UInt8.ofNat (48 + k % 10) :: l) := by
  have e : (UInt8.ofNat (48 + k % 10)).toNat = 48 + k % 10 := by simp; omega
  refine ⟨?_, ?_, ?_, by simp, ?_⟩
  · rw [Rn.val_cons, Rn.val_lin, e, h.sum, List.length_cons, Nat.pow_succ]
    have hk : k = 10 * (k / 10) + k % 10 := by omega
    generalize 10 ^ l.length = p
    have : (10 * 0 + (48 + k % 10 - 48)) = k % 10 := by omega
    rw [this, ← Nat.add_assoc]
    congr 1
    calc k * p = (10 * (k / 10) + k % 10) * p := by rw [← hk]
      _ = k / 10 * (p * 10) + k % 10 * p := by rw [Nat.add_mul, Nat.mul_comm 10 (k / 10), Nat.mul_assoc, Nat.mul_comm 10 p]
  · intro b hb
    rcases List.mem_cons.1 hb with rfl | hb
    · rw [e]; omega
    · exact h.dig b hb
  · rw [List.length_cons]
    rcases hc with hc | rfl
    · by_cases hl : l.length ≤ 9
      · omega
      · exfalso
        have h1 := h.sum
        have h2 : 10 ^ 10 ≤ 10 ^ l.length := pow_mono (by omega)
        have h3 : 1 * 10 ^ l.length ≤ k * 10 ^ l.length := Nat.mul_le_mul_right _ hc
        omega
    · simp
  · intro _ h0
    have hk : k < 10 := by omega
    by_cases hz : k = 0
    · rcases hc with hc | rfl
      · omega
      · right
        subst hz
        rfl
    · left
      simp only [List.head?_cons, ne_eq, Option.some.injEq]
      intro e2
      have := congrArg UInt8.toNat e2
      rw [e] at this
      have : (48 : UInt8).toNat = 48 := rfl
      omega
theorem written_end (n : Nat) (l : List UInt8) (h : Written n 0 l) (hl : l ≠ []) : Rn.digits l = some n := by
  rw [Rn.digits_val l h.dig hl (by have := h.len; omega) (h.lead hl rfl)]
  have := h.sum
  rw [Nat.zero_mul, Nat.zero_add] at this
  rw [this]
theorem nought_ahead (l : List UInt8) (hl : l ≠ []) : Rn.digits (48 :: l) = none := by
  unfold Rn.digits
  rw [if_pos]
  exact .inr (.inr ⟨rfl, by simp [hl]⟩)
theorem enc_odd (r : Int) (h : ¬ (48 ≤ r ∧ r ≤ 57)) : ∃ b ∈ Lib.encodeRune r, ¬ (48 ≤ b.toNat ∧ b.toNat ≤ 57) := by
  by_cases h1 : 0 ≤ r ∧ r ≤ 127
  · refine ⟨UInt8.ofNat r.toNat, ?_, ?_⟩
    · unfold Lib.encodeRune
      rw [Lib.encodeRuneZ_one h1.1 h1.2]
      simp
    · have e : (UInt8.ofNat r.toNat).toNat = r.toNat := by simp; omega
      rw [e]
      omega
  · cases hl : Lib.encodeRune r with
    | nil => exact absurd hl (Rn.enc_ne r)
    | cons b l =>
      refine ⟨b, List.mem_cons_self .., ?_⟩
      have hb : 128 ≤ b.toNat := by
        unfold Lib.encodeRune Lib.encodeRuneZ at hl
        rw [if_neg h1] at hl
        repeat' split at hl
        all_goals (simp only [List.map_cons, List.cons.injEq] at hl; obtain ⟨rfl, _⟩ := hl)
        all_goals first
          | (rw [Rn.u8z _ (by omega) (by omega)]; omega)
          | decide
      omega
theorem odd_sign (p q : List UInt8) (r : Int) (h : ¬ (48 ≤ r ∧ r ≤ 57)) : Rn.digits ((p ++ Lib.encodeRune r) ++ q) = none := by
  obtain ⟨b, hb, hb2⟩ := enc_odd r h
  exact Rn.digits_bad _ b (by simp [hb]) hb2
def emptyS : Value → Nat
  | .string s => if s.size = 0 then 1 else 0
  | _ => 0
theorem empty_cons (b : UInt8) (l : List UInt8) : emptyS (.string ⟨(b :: l).toArray⟩) = 0 := by
  show (if (ByteArray.mk (b :: l).toArray).size = 0 then 1 else 0) = 0
  rw [size_mk, if_neg (by simp)]
theorem size48 : (ByteArray.mk #[48]).size = 1 := rfl
theorem empty_nil : emptyS (.string ⟨#[]⟩) = 1 := rfl
theorem add_lists (a b : List UInt8) (h : a.length + b.length ≤ 100) : ∀ u, (Op.stringOp .add ⟨a.toArray⟩ ⟨b.toArray⟩).run Try.prog u = .ok (.string ⟨(a ++ b).toArray⟩) u := by
  intro u
  rw [run_string_add_sum u _ _ (by rw [size_mk, size_mk]; omega), ByteArray.mk_append_mk]
theorem one_str (u : World) (b : Nat) : (convert 28 9 (.slice (some ⟨u.heap.size, 0, none⟩) 1 1)).run Try.prog (u.alloc (.cells #[.int .u8 (b : Int)] 5)) = .ok (.string ⟨[UInt8.ofNat b].toArray⟩) (u.alloc (.cells #[.int .u8 (b : Int)] 5)) := by
  have hr := run_convert_bytes_arg (P := Try.prog) (u.alloc (.cells #[.int .u8 (b : Int)] 5)) 28 5 Try.underlying28 Try.underlying5 u.heap.size 0 1 1 [(b : Int)] rfl (fun i hi => by
    have : i = 0 := by omega
    subst this
    simp) 9 Try.underlying9
  rw [hr]
  rfl
theorem digit_cell (u : World) (m : Nat) (l : List UInt8) (hl : l.length ≤ 10) : ∃ (x : ByteArray) (b : UInt8), UInt8.ofNat (48 + m % 10) = b ∧
    (convert 28 9 (.slice (some ⟨u.heap.size, 0, none⟩) 1 1)).run Try.prog (u.alloc (.cells #[.int .u8 (48 + (m : Int) % 10)] 5)) = .ok (.string x) (u.alloc (.cells #[.int .u8 (48 + (m : Int) % 10)] 5)) ∧
    ∀ v, (Op.stringOp .add x ⟨l.toArray⟩).run Try.prog v = .ok (.string ⟨(b :: l).toArray⟩) v := by
  refine ⟨⟨[UInt8.ofNat (48 + m % 10)].toArray⟩, _, rfl, ?_, add_lists [UInt8.ofNat (48 + m % 10)] l (by simp; omega)⟩
  have h := one_str u (48 + m % 10)
  rw [show ((48 + m % 10 : Nat) : Int) = 48 + (m : Int) % 10 from by omega] at h
  exact h
theorem digits_gen (s : ByteArray) (w0 w : World) (hb : Below w0.heap.size w0 w) (hs : s.size ≤ 140737488355328) :
    Calls Try.prog 9 #[.string s] w fun e w' => e = .returned (.tuple #[.int .i64 (((Rn.digits (txt s)).getD 0 : Nat) : Int), .bool (Rn.digits (txt s)).isSome]) ∧ Below w0.heap.size w0 w' :=
  (digits_any s w hs).mono fun _ _ ⟨h1, h2⟩ => ⟨h1, hb.trans (h2.mono hb.size)⟩

set_option maxHeartbeats 4000000 in
theorem numbers_core (n : Nat) (k : Int) (r : Int) (w : World) (hn : n < 4294967296) (hk : -9223372036854775808 ≤ k ∧ k ≤ 9223372036854775807) :
    Calls Try.prog 4 #[.int .u32 n, .int .i64 k, .int .i32 r] w fun e w' => e = .returned (.bool true) ∧ Below w.heap.size w w' := by
  go_enter Try.func4, Try.ntmps4
  go_wp2
  go_loopw [7, 8] (fun s v wr => ∃ (l : List UInt8) (m : Nat), s = .string ⟨l.toArray⟩ ∧ v = .int .i64 m ∧ Hid (Written n m l) ∧ Hid (Below w.heap.size w wr) ∧ m ≤ n ∧ l.length ≤ 10) (fun s v _ => (intOf v).toNat + emptyS s)
  case atStart => exact ⟨[], n, rfl, by go_num, written_start n, Below.refl _ _, Nat.le_refl _, by simp⟩
  case round =>
    obtain ⟨l, m, rfl, rfl, HW, HB, hm, hll⟩ := hrel
    rcases (by cases l with | nil => exact .inr (.inl rfl) | cons _ _ => exact (Nat.eq_zero_or_pos m).elim (fun h => .inr (.inr ⟨h, by simp⟩)) .inl : 0 < m ∨ l = [] ∨ (m = 0 ∧ l ≠ [])) with h0 | h0 | ⟨h0, h1⟩
    · -- digits are left
      obtain ⟨x, b, hb, hcv, hadd⟩ := digit_cell wr m l hll
      have HW2 : Hid (Written n (m / 10) (b :: l)) := by rw [← hb]; exact written_step n m l hn HW.out (.inl h0)
      have HB2 : Hid (∀ X, Below w.heap.size w (wr.alloc X)) := fun X => HB.out.alloc HB.out.size X
      clear HW HB hb
      go_wp2
      go_roundw
      case rel => exact ⟨_, m / 10, rfl, by go_num, HW2, HB2.out _, by omega, HW2.out.len⟩
      case measure =>
        rw [empty_cons]
        simp [intOf]
        omega
    · subst h0
      obtain ⟨x, b, hb, hcv, hadd⟩ := digit_cell wr m [] (by simp)
      have HW2 : Hid (Written n (m / 10) (b :: [])) := by rw [← hb]; exact written_step n m [] hn HW.out (.inr rfl)
      have HB2 : Hid (∀ X, Below w.heap.size w (wr.alloc X)) := fun X => HB.out.alloc HB.out.size X
      clear HW HB hb
      rcases Nat.eq_zero_or_pos m with h0 | h0
      · subst h0
        rw [show 48 + ((0 : Nat) : Int) % 10 = 48 from rfl] at hcv
        go_wp2
        go_roundw
        case rel => exact ⟨_, 0, rfl, by go_num, HW2, HB2.out _, by omega, by simp⟩
        case measure =>
          rw [empty_cons, empty_nil]
          simp [intOf]
      · go_wp2
        go_roundw
        case rel => exact ⟨_, m / 10, rfl, by go_num, HW2, HB2.out _, by omega, by simp⟩
        case measure =>
          rw [empty_cons]
          simp [intOf]
          omega
    · subst h0
      have hd := written_end n l HW.out h1
      obtain ⟨s, hs, hsx, hsl⟩ : ∃ s : ByteArray, (⟨l.toArray⟩ : ByteArray) = s ∧ txt s = l ∧ s.size ≤ 10 := ⟨_, rfl, rfl, by rw [size_mk]; exact hll⟩
      have hse : ¬ s.toList = [] := by rw [tl, hsx]; exact h1
      have hse2 : s.toList.isEmpty = false := by cases e : s.toList with | nil => exact absurd e hse | cons _ _ => rfl
      obtain ⟨t0, _, ht0, hs0, hadd0⟩ := add_run ⟨#[48]⟩ s (by rw [size48]; omega)
      have hd0 : Rn.digits (txt t0) = none := by rw [ht0, hsx]; exact nought_ahead l h1
      rw [← hsx] at hd
      have hst0 : t0.size ≤ 100 := by rw [hs0, size48]; omega
      have c1 := fun u hb => digits_gen s w u hb (by omega)
      rw [hd] at c1
      have c2 := fun u hb => digits_gen t0 w u hb (by omega)
      rw [hd0] at c2
      rw [hs]
      clear hs hsx HW h1 hll ht0 hs0 hd hd0
      go_wp2_with fail
      refine (c1 _ HB.out).mono ?_
      rintro e w1 ⟨rfl, b1⟩
      have HB1 : Hid (Below w.heap.size w w1) := b1
      clear b1 HB c1
      go_wp2_with fail
      refine (c2 _ HB1.out).mono ?_
      rintro e w2 ⟨rfl, b2⟩
      have HB2 : Hid (Below w.heap.size w w2) := b2
      clear b2 HB1 c2
      go_wp2_with fail
      refine (bookWithin_any k 0 s.size _ hk (by omega) (by omega) (by omega)).mono ?_
      rintro e _ ⟨⟨i, rfl, hi0, hi1⟩, rfl⟩
      obtain ⟨p, hps, hsl1⟩ := slice_to s i hi0 hi1
      obtain ⟨q, hqs, hsl2⟩ := slice_from s i hi0 hi1
      obtain ⟨x, hx, hxs, hxt⟩ := enc_var r
      obtain ⟨t4, _, ht4, hs4, hadd4⟩ := add_run p x (by omega)
      obtain ⟨t5, _, ht5, hs5, hadd5⟩ := add_run t4 q (by omega)
      have hs5' : t5.size ≤ 100 := by omega
      have HO : Hid (¬ (48 ≤ r ∧ r ≤ 57) → Rn.digits (txt t5) = none) := by
        intro h
        rw [ht5, ht4, hxt]
        exact odd_sign _ _ r h
      obtain ⟨o, ho⟩ : ∃ o, Rn.digits (txt t5) = o := ⟨_, rfl⟩
      have c3 := fun u hb => digits_gen t5 w u hb (by omega)
      rw [ho] at c3 HO
      generalize ((o.getD 0 : Nat) : Int) = z at c3
      have HO2 : Hid (¬ (48 ≤ r ∧ r ≤ 57) → o.isSome = false) := fun h => by rw [HO.out h]; rfl
      generalize o.isSome = od at *
      clear ho HO ht4 ht5 hs4 hs5 hps hqs hxs hxt
      go_wp2_with fail
      go_region_held3 (fun u => Below w.heap.size w u) (first | assumption | exact HB2.out.drew) (first | (go_at_call 9; refine (c3 _ (by assumption)).mono ?_; rintro e w' ⟨rfl, b⟩))
      rcases (by omega : (48 ≤ r ∧ r ≤ 57) ∨ r < 48 ∨ (48 ≤ r ∧ 57 < r)) with ⟨hr, hr2⟩ | hr | ⟨hr, hr2⟩
      · clear HO2
        go_wp2_with fail
        refine (runs_from w _ (by assumption)).mono ?_
        rintro e w4 ⟨rfl, b4⟩
        go_wp2_with fail
        go_ret
        exact ⟨rfl, b4⟩
      · obtain rfl : od = false := HO2.out (by omega)
        clear HO2
        go_wp2_with fail
        refine (runs_from w _ (by assumption)).mono ?_
        rintro e w4 ⟨rfl, b4⟩
        go_wp2_with fail
        go_ret
        exact ⟨rfl, b4⟩
      · obtain rfl : od = false := HO2.out (by omega)
        clear HO2
        go_wp2_with fail
        refine (runs_from w _ (by assumption)).mono ?_
        rintro e w4 ⟨rfl, b4⟩
        go_wp2_with fail
        go_ret
        exact ⟨rfl, b4⟩
theorem signNumbers_walk (a0 a1 a2 : Int) (w : World) (w0 : (Lit.int .u32 a0).wf = true) (w1 : (Lit.int .i64 a1).wf = true) (_ : (Lit.int .i32 a2).wf = true) :
    Calls Try.prog 4 #[.int .u32 a0, .int .i64 a1, .int .i32 a2] w fun e w' => e = .returned (.bool true) ∧ Below w.heap.size w w' := by
  obtain ⟨n, rfl, hn⟩ := u32_in w0
  exact numbers_core n a1 a2 w hn (int_in w1)
end Go.Proofs.Ytgjfljpnlmebhab
