/- PLAIN LEAN: numbers and texts as bytes (chapter 2's form), written and read; no Go walked here. -/
import Derived.Test.YtagjbjppddbalaaPlain
namespace Go.Proofs.Ytagjbjppddbalaa.Pk

/-- the sign put lowest -/
def zz (n : Int) : Nat := if n < 0 then (-2 * n - 1).toNat else (2 * n).toNat
/-- and taken from there -/
def uz (u : Nat) : Int := if u % 2 = 1 then -((u / 2 : Nat) : Int) - 1 else ((u / 2 : Nat) : Int)
theorem uz_zz (n : Int) : uz (zz n) = n := by
  unfold uz zz
  split <;> split <;> omega
theorem zz_uz (u : Nat) : zz (uz u) = u := by
  unfold uz zz
  split <;> split <;> omega
theorem zz_lt {n : Int} (h : Fit n) : zz n < 18446744073709551616 := by
  unfold Fit at h
  unfold zz
  split <;> omega
theorem uz_fit {u : Nat} (h : u < 18446744073709551616) : Fit (uz u) := by
  unfold uz Fit
  split <;> omega
/-- a number's bytes: seven bits each, the lowest first; f: how many at most -/
def vbF : Nat → Nat → List UInt8
  | 0, _ => []
  | f + 1, u => if u < 128 then [UInt8.ofNat u] else UInt8.ofNat (u % 128 + 128) :: vbF f (u / 128)
def vb (u : Nat) : List UInt8 := vbF 10 u
theorem vbF_low {f u : Nat} (h : u < 128) : vbF (f + 1) u = [UInt8.ofNat u] := by rw [vbF, if_pos h]
theorem vbF_high {f u : Nat} (h : ¬ u < 128) : vbF (f + 1) u = UInt8.ofNat (u % 128 + 128) :: vbF f (u / 128) := by rw [vbF, if_neg h]
theorem vbF_len : ∀ (f u : Nat), (vbF f u).length ≤ f
  | 0, _ => Nat.le_refl _
  | f + 1, u => by
    rw [vbF]
    split
    · simp
    · simp
      exact vbF_len f _
theorem vbF_pos {f u : Nat} : 1 ≤ (vbF (f + 1) u).length := by
  rw [vbF]
  split <;> simp
/-- what is left behind so many bytes -/
def sh (u i : Nat) : Nat := u / 128 ^ i
theorem sh_zero (u : Nat) : sh u 0 = u := by simp [sh]
theorem sh_succ (u i : Nat) : sh u (i + 1) = sh u i / 128 := by
  unfold sh
  rw [Nat.pow_succ, Nat.div_div_eq_div_mul]
theorem sh_le (u i : Nat) : sh u i ≤ u := Nat.div_le_self _ _
/-- what is left at most, behind so many bytes less one -/
def lim (c : Nat) : Nat := 2 * 128 ^ (10 - c)
theorem lim_one : lim 1 = 18446744073709551616 := by decide
theorem lim_ten : lim 10 = 2 := by decide
theorem lim_step {c : Nat} (h : c < 10) : lim c = 128 * lim (c + 1) := by
  unfold lim
  rw [show 10 - c = (10 - (c + 1)) + 1 by omega, Nat.pow_succ, Nat.mul_comm (128 ^ (10 - (c + 1))) 128, ← Nat.mul_assoc, ← Nat.mul_assoc, Nat.mul_comm 2 128]
/-- how many bytes -/
def wd (u : Nat) : Nat := (vb u).length
/-- where a number stands that is read so: the value so far, the place; an error, or the number and how many bytes it took -/
def rd : Nat → Nat → List UInt8 → Int ⊕ (Nat × Nat)
  | _, _, [] => .inl 3
  | k, u, x :: l => if k = 9 ∧ 1 < x.toNat then .inl 4 else if 128 ≤ x.toNat then rd (k + 1) (u + x.toNat % 128 * 128 ^ k) l else if x.toNat = 0 ∧ 0 < k then .inl 4 else .inr (u + x.toNat * 128 ^ k, k + 1)
def num (l : List UInt8) : Int ⊕ (Nat × Nat) := rd 0 0 l
theorem rd_nil (k u : Nat) : rd k u [] = .inl 3 := rfl
theorem rd_ten {k u : Nat} {x : UInt8} {l : List UInt8} (h : k = 9) (hx : 1 < x.toNat) : rd k u (x :: l) = .inl 4 := by rw [rd, if_pos ⟨h, hx⟩]
theorem rd_more {k u : Nat} {x : UInt8} {l : List UInt8} (h : ¬ (k = 9 ∧ 1 < x.toNat)) (hx : 128 ≤ x.toNat) : rd k u (x :: l) = rd (k + 1) (u + x.toNat % 128 * 128 ^ k) l := by rw [rd, if_neg h, if_pos hx]
theorem rd_zero {k u : Nat} {x : UInt8} {l : List UInt8} (hx : x.toNat = 0) (hk : 0 < k) : rd k u (x :: l) = .inl 4 := by rw [rd, if_neg (by omega), if_neg (by omega), if_pos ⟨hx, hk⟩]
theorem rd_last {k u : Nat} {x : UInt8} {l : List UInt8} (h : ¬ (k = 9 ∧ 1 < x.toNat)) (hx : x.toNat < 128) (h0 : ¬ (x.toNat = 0 ∧ 0 < k)) : rd k u (x :: l) = .inr (u + x.toNat * 128 ^ k, k + 1) := by rw [rd, if_neg h, if_neg (by omega), if_neg h0]
theorem byte_nat {n : Nat} (h : n < 256) : (UInt8.ofNat n).toNat = n := by
  simp
  omega
/-- what is written is read back, whatever stands behind it -/
theorem rd_vb : ∀ (f k u a : Nat) (r : List UInt8), k + f = 10 → u < 128 ^ f → (1 ≤ f → u < 2 * 128 ^ (9 - k)) → (0 < k → 0 < u) → 1 ≤ f → rd k a (vbF f u ++ r) = .inr (a + u * 128 ^ k, k + (vbF f u).length)
  | 0, _, _, _, _, _, _, _, _, h => by omega
  | f + 1, k, u, a, r, hk, hu, h9, h0, _ => by
    by_cases hs : u < 128
    · rw [vbF_low hs, List.cons_append, List.nil_append, rd_last (by
        rintro ⟨rfl, hx⟩
        rw [byte_nat (by omega)] at hx
        have := h9 (by omega)
        omega) (by rw [byte_nat (by omega)]; exact hs) (by
        rw [byte_nat (by omega)]
        intro h
        have := h0 h.2
        omega), byte_nat (by omega)]
      simp
    · have hf : 1 ≤ f := by
        by_cases hf : 1 ≤ f
        · exact hf
        · obtain rfl : f = 0 := by omega
          simp at hu
          omega
      rw [vbF_high hs, List.cons_append, rd_more (by
        rintro ⟨rfl, hx⟩
        omega) (by rw [byte_nat (by omega)]; omega), byte_nat (by omega)]
      have hp : 128 ^ (9 - k) = 128 * 128 ^ (9 - (k + 1)) := by
        rw [show 9 - k = (9 - (k + 1)) + 1 by omega, Nat.pow_succ, Nat.mul_comm]
      have h9' := h9 (by omega)
      rw [hp] at h9'
      rw [Nat.pow_succ] at hu
      rw [rd_vb f (k + 1) (u / 128) _ r (by omega) (by omega) (fun _ => by omega) (fun _ => by omega) hf]
      congr 1
      have e1 : (u % 128 + 128) % 128 = u % 128 := by omega
      rw [e1, List.length_cons, Nat.pow_succ]
      refine Prod.ext ?_ (by dsimp only; omega)
      dsimp only
      have e2 : u = u % 128 + 128 * (u / 128) := by omega
      generalize 128 ^ k = P
      rw [Nat.add_assoc]
      congr 1
      have e3 : u % 128 * P + u / 128 * (P * 128) = (u % 128 + 128 * (u / 128)) * P := by
        rw [Nat.add_mul, Nat.mul_comm P 128, ← Nat.mul_assoc, Nat.mul_comm (u / 128) 128]
      rw [e3, ← e2]
theorem num_vb {u : Nat} (h : u < 18446744073709551616) (r : List UInt8) : num (vb u ++ r) = .inr (u, wd u) := by
  unfold num vb wd
  rw [rd_vb 10 0 u 0 r rfl (by omega) (fun _ => by omega) (fun h => by omega) (by omega)]
  simp [vb]
/-- what is read as a number is what is written of it -/
theorem vb_rd : ∀ (l : List UInt8) (k a v s : Nat), k ≤ 9 → rd k a l = .inr (v, s) → ∃ u, v = a + u * 128 ^ k ∧ l = vbF (10 - k) u ++ l.drop (s - k) ∧ (vbF (10 - k) u).length = s - k ∧ k < s ∧ u < 2 * 128 ^ (9 - k) ∧ (0 < k → 0 < u)
  | [], k, a, v, s, _, h => by
    rw [rd_nil] at h
    cases h
  | x :: l, k, a, v, s, hk, h => by
    have hx := UInt8.toNat_lt x
    have hx256 : x.toNat < 256 := hx
    by_cases h9 : k = 9 ∧ 1 < x.toNat
    · rw [rd_ten h9.1 h9.2] at h
      cases h
    · by_cases hm : 128 ≤ x.toNat
      · rw [rd_more h9 hm] at h
        obtain ⟨u, e1, e2, e3, e4, e5, e6⟩ := vb_rd l (k + 1) _ v s (by omega) h
        have e0 := e6 (by omega)
        have hf : 10 - k = (9 - k) + 1 := by omega
        have hn : ¬ (x.toNat % 128 + 128 * u < 128) := by omega
        have ed : (x.toNat % 128 + 128 * u) / 128 = u := by omega
        have em : (x.toNat % 128 + 128 * u) % 128 + 128 = x.toNat := by omega
        have hv : vbF (10 - k) (x.toNat % 128 + 128 * u) = x :: vbF (10 - (k + 1)) u := by
          rw [hf, vbF_high hn, ed, em, show 10 - (k + 1) = 9 - k by omega]
          simp
        have hp : 128 ^ (9 - k) = 128 * 128 ^ (9 - (k + 1)) := by
          rw [show 9 - k = (9 - (k + 1)) + 1 by omega, Nat.pow_succ, Nat.mul_comm]
        refine ⟨x.toNat % 128 + 128 * u, ?_, ?_, ?_, by omega, ?_, fun _ => by omega⟩
        · rw [e1, Nat.pow_succ, Nat.add_mul, Nat.add_assoc]
          congr 2
          rw [Nat.mul_comm (128 ^ k) 128, ← Nat.mul_assoc, Nat.mul_comm u 128]
        · rw [hv, show s - k = (s - (k + 1)) + 1 by omega, List.drop_succ_cons, List.cons_append, ← e2]
        · rw [hv, List.length_cons, e3]
          omega
        · rw [hp]
          omega
      · by_cases hz : x.toNat = 0 ∧ 0 < k
        · rw [rd_zero hz.1 hz.2] at h
          cases h
        · rw [rd_last h9 (by omega) hz] at h
          injection h with h
          injection h with e1 e2
          subst e1 e2
          have hv : vbF (10 - k) x.toNat = [x] := by
            rw [show 10 - k = (9 - k) + 1 by omega, vbF_low (by omega)]
            simp
          have h1 : 1 ≤ 128 ^ (9 - k) := Nat.pos_of_ne_zero (by simp)
          refine ⟨x.toNat, rfl, ?_, ?_, by omega, ?_, fun _ => by omega⟩
          · rw [hv, show k + 1 - k = 1 by omega]
            rfl
          · rw [hv]
            simp
          · by_cases h99 : k = 9
            · subst h99
              simp
              omega
            · have : 128 ^ (9 - k) = 128 * 128 ^ (9 - k - 1) := by
                rw [show 9 - k = (9 - k - 1) + 1 by omega, Nat.pow_succ, Nat.mul_comm]
                simp
              have h2 : 1 ≤ 128 ^ (9 - k - 1) := Nat.pos_of_ne_zero (by simp)
              omega
theorem num_is {l : List UInt8} {u s : Nat} (h : num l = .inr (u, s)) : l = vb u ++ l.drop s ∧ wd u = s ∧ u < 18446744073709551616 ∧ 0 < s := by
  obtain ⟨v, e1, e2, e3, e4, e5, _⟩ := vb_rd l 0 0 u s (by omega) h
  simp at e1
  subst e1
  exact ⟨e2, by unfold wd vb; simpa using e3, by simpa using e5, e4⟩
end Go.Proofs.Ytagjbjppddbalaa.Pk
