/- PLAIN LEAN: totals of lines of which none is too large: in another order, with prices taken off 0, of one line; no Go walked here. -/
import Derived.Test.YthcaecinjmnlbabInS
namespace Go.Proofs.Ythcaecinjmnlbab.Iv
open Vt (Rt)

theorem find_bp {rs : List Rt} (h : Vt.tableB rs = true) (c : ByteArray) (y m d : Int) : Sh.Right (Vt.find rs c y m d).1 := by
  have h0 : Sh.Right 0 := ⟨by omega, by omega⟩
  have hl : ∀ (l : List Rt) (acc : Int × Bool), Sh.Right acc.1 → (∀ r ∈ l, Vt.rowE r = 0) → Sh.Right (Vt.last c (Dt.days y m d) acc l).1 := by
    intro l
    induction l with
    | nil => intro acc h _; exact h
    | cons r l ih =>
      intro acc h hr
      unfold Vt.last
      apply ih
      · split
        · exact (Vt.rowE_0.1 (hr r (by simp))).2.2
        · exact h
      · exact fun x hx => hr x (by simp [hx])
  unfold Vt.find
  split
  · exact hl rs (0, false) h0 ((Vt.table_iff rs).1 h).2.1
  · exact h0
theorem goL_ok {rs : List Rt} (h : Vt.tableB rs = true) (y m d : Int) : ∀ (ls : List Ln.T) {ps : List Pt.T}, OkB ps → OkB (goL rs y m d ls ps)
  | [], _, hp => hp
  | x :: l, _, hp => goL_ok h y m d l (enter_ok (find_bp h x.category y m d) hp)
theorem head_all {rs : List Rt} {y m d : Int} {ls : List Ln.T} (h : headE rs y m d ls = 0) : Vt.tableB rs = true ∧ ls.length ≤ 12 ∧ 0 < ls.length := by
  unfold headE at h
  split at h
  · omega
  · rename_i h1
    split at h
    · omega
    · split at h
      · omega
      · split at h
        · omega
        · exact ⟨by simpa using h1, by omega, by omega⟩
section
variable {rs : List Rt} {y m d : Int} {ls : List Ln.T}
theorem mag_small (h : headE rs y m d ls = 0) (hs : ∀ x ∈ ls, Small x) : mag (goL rs y m d ls []) ≤ 13194139533312000 := by
  have h1 := goL_mag rs y m d ls [] hs
  have h2 := (head_all h).2.1
  have h3 : mag [] = 0 := rfl
  omega
theorem tot_small (h : headE rs y m d ls = 0) (hs : ∀ x ∈ ls, Small x) : totE rs y m d ls = firstE rs y m d ls ∧ (firstE rs y m d ls = 0 → totT rs y m d ls = sumT (goL rs y m d ls [])) := by
  have h2 := head_all h
  have hg : goE rs y m d ls [] = firstE rs y m d ls := goE_small rs y m d ls [] hs (by have h3 : mag [] = 0 := rfl; have := h2.2.1; omega)
  have hm := mag_small h hs
  have hz := sumE_small (goL_ok h2.1 y m d ls (ps := []) (fun p hp => by cases hp)) (by omega)
  by_cases h1 : firstE rs y m d ls = 0
  · have h3 := tot_sum h (hg.trans h1)
    rw [hz, if_pos rfl] at h3
    exact ⟨by rw [h3.1, h1], fun _ => h3.2⟩
  · have h3 := tot_line h (by rw [hg]; exact h1)
    exact ⟨by rw [h3.1, hg], fun k => absurd k h1⟩
end
theorem head_perm {rs : List Rt} {y m d : Int} {ls ks : List Ln.T} (h : ls.length = ks.length) : headE rs y m d ls = headE rs y m d ks := by
  unfold headE
  rw [h]
/-- lines in another order -/
theorem tot_perm {rs : List Rt} {y m d : Int} {ls ks : List Ln.T} (hp : ls.Perm ks) (hs : ∀ x ∈ ls, Small x) : (totE rs y m d ls = 0 ↔ totE rs y m d ks = 0) ∧ totT rs y m d ls = totT rs y m d ks := by
  have hh := head_perm (rs := rs) (y := y) (m := m) (d := d) hp.length_eq
  by_cases h : headE rs y m d ls = 0
  · have hk : headE rs y m d ks = 0 := hh ▸ h
    have h1 := tot_small h hs
    have h2 := tot_small hk (fun x hx => hs x (hp.mem_iff.2 hx))
    have h3 : firstE rs y m d ls = 0 ↔ firstE rs y m d ks = 0 := by
      rw [first_iff, first_iff]
      exact ⟨fun h x hx => h x (hp.mem_iff.2 hx), fun h x hx => h x (hp.mem_iff.1 hx)⟩
    refine ⟨by rw [h1.1, h2.1]; exact h3, ?_⟩
    by_cases h4 : firstE rs y m d ls = 0
    · rw [h1.2 h4, h2.2 (h3.1 h4), goL_perm rs y m d hp]
    · have e1 : totT rs y m d ls = Tot.zero := if_neg (by rw [h1.1]; exact h4)
      have e2 : totT rs y m d ks = Tot.zero := if_neg (by rw [h2.1]; exact fun k => h4 (h3.2 k))
      rw [e1, e2]
  · have h1 := tot_head h
    have h2 := tot_head (show headE rs y m d ks ≠ 0 from hh ▸ h)
    rw [h1.1, h2.1, h1.2, h2.2, hh]
    exact ⟨Iff.rfl, rfl⟩
theorem part_small : ∀ {l : List Pt.T} {p : Pt.T}, p ∈ l → p.net.natAbs ≤ mag l
  | a :: l, p, h => by
    rw [mag]
    rcases List.mem_cons.1 h with rfl | h
    · omega
    · have := part_small h
      omega
/-- lines whose prices are taken off 0 -/
theorem tot_neg {rs : List Rt} {y m d : Int} {ls : List Ln.T} (hs : ∀ x ∈ ls, Small x) : totE rs y m d (ls.map neg) = totE rs y m d ls ∧ (totE rs y m d ls = 0 → totT rs y m d (ls.map neg) = back (totT rs y m d ls) ∧ backE (totT rs y m d ls) = 0) := by
  have hh : headE rs y m d (ls.map neg) = headE rs y m d ls := head_perm (List.length_map _)
  by_cases h : headE rs y m d ls = 0
  · have hs' : ∀ x ∈ ls.map neg, Small x := by
      intro x hx
      obtain ⟨z, hz, rfl⟩ := List.mem_map.1 hx
      exact (hs z hz).neg
    have h1 := tot_small h hs
    have h2 := tot_small (hh.trans h) hs'
    have h3 := first_neg (rs := rs) (y := y) (m := m) (d := d) hs
    refine ⟨by rw [h1.1, h2.1, h3], fun h0 => ?_⟩
    have h4 : firstE rs y m d ls = 0 := h1.1 ▸ h0
    have e2 := h2.2 (h3.trans h4)
    have e3 := goL_neg rs y m d ls []
    rw [List.map_nil] at e3
    rw [e2, e3, sumT_neg, h1.2 h4]
    refine ⟨rfl, ?_⟩
    have hm := mag_small h hs
    have hok := goL_ok (head_all h).1 y m d ls (ps := []) (fun p hp => by cases hp)
    have n1 := nets_mag (goL rs y m d ls [])
    have n2 := taxes_mag (goL rs y m d ls []) hok (by omega)
    have g1 : Mn.err (-(sumT (goL rs y m d ls [])).net) = 0 := Mn.err_fit ⟨by show _ ≤ -nets _; omega, by show -nets _ ≤ _; omega⟩
    have g2 : Mn.err (-(sumT (goL rs y m d ls [])).tax) = 0 := Mn.err_fit ⟨by show _ ≤ -taxes _; omega, by show -taxes _ ≤ _; omega⟩
    have g3 : Mn.err (-(sumT (goL rs y m d ls [])).gross) = 0 := Mn.err_fit ⟨by show _ ≤ -(nets _ + taxes _); omega, by show -(nets _ + taxes _) ≤ _; omega⟩
    refine (back_ok g1 g2 g3 fun p hp => ?_).1
    obtain ⟨q, hq, rfl⟩ := List.mem_map.1 (show p ∈ (goL rs y m d ls []).map taxed from hp)
    have q1 := part_small hq
    obtain ⟨_, q2⟩ := tax_small (hok q hq) (show q.net.natAbs ≤ 461168601842738790 by omega)
    exact bad_no (Mn.err_fit ⟨by show _ ≤ -q.net; omega, by show -q.net ≤ _; omega⟩) (Mn.err_fit ⟨by show _ ≤ -Sh.taxV q.net q.bp; omega, by show -Sh.taxV q.net q.bp ≤ _; omega⟩)
  · have h1 := tot_head h
    have h2 := tot_head (show headE rs y m d (ls.map neg) ≠ 0 from hh ▸ h)
    refine ⟨by rw [h1.1, h2.1, hh], fun h0 => ?_⟩
    rw [h1.1] at h0
    exact absurd h0 h
/-- taken back twice -/
theorem back_twice {t : Tot} (_h : backE t = 0) : backE (back t) = 0 ↔ (Mn.err t.net = 0 ∧ Mn.err t.tax = 0 ∧ Mn.err t.gross = 0 ∧ ∀ p ∈ t.parts, Mn.err p.net = 0 ∧ Mn.err p.tax = 0) := by
  unfold backE
  have e1 : -(back t).net = t.net := Int.neg_neg _
  have e2 : -(back t).tax = t.tax := Int.neg_neg _
  have e3 : -(back t).gross = t.gross := Int.neg_neg _
  rw [e1, e2, e3]
  constructor
  · intro k
    split at k
    · omega
    · rename_i h1
      split at k
      · omega
      · rename_i h2
        have h1' : Mn.err t.net = 0 ∧ Mn.err t.tax = 0 ∧ Mn.err t.gross = 0 := by
          refine ⟨?_, ?_, ?_⟩
          · exact Decidable.byContradiction fun q => h1 (.inl q)
          · exact Decidable.byContradiction fun q => h1 (.inr (.inl q))
          · exact Decidable.byContradiction fun q => h1 (.inr (.inr q))
        refine ⟨h1'.1, h1'.2.1, h1'.2.2, fun p hp => ?_⟩
        have h3 : badP (negP p) = false := by
          cases hb : badP (negP p) with
          | false => rfl
          | true => exact absurd (List.any_eq_true.2 ⟨negP p, List.mem_map.2 ⟨p, hp, rfl⟩, hb⟩) h2
        unfold badP negP at h3
        rw [decide_eq_false_iff_not] at h3
        simp only [Int.neg_neg] at h3
        exact ⟨Decidable.byContradiction fun q => h3 (.inl q), Decidable.byContradiction fun q => h3 (.inr q)⟩
  · rintro ⟨h1, h2, h3, h4⟩
    rw [if_neg (by rw [h1, h2, h3]; simp), if_neg]
    rw [Bool.not_eq_true, List.any_eq_false]
    intro p hp
    obtain ⟨q, hq, rfl⟩ := List.mem_map.1 (show p ∈ t.parts.map negP from hp)
    have := h4 q hq
    rw [bad_no (show Mn.err (-(negP q).net) = 0 by show Mn.err (- -q.net) = 0; rw [Int.neg_neg]; exact this.1) (show Mn.err (-(negP q).tax) = 0 by show Mn.err (- -q.tax) = 0; rw [Int.neg_neg]; exact this.2)]
    simp
/-! ### one line -/
def std : ByteArray := ⟨#[115, 116, 100]⟩
theorem one_name : Rn.name (txt std) = true := by decide +kernel
theorem one_day : Dt.rightB 2000 1 1 = true := by decide +kernel
theorem one_now : Dt.rightB 2026 11 15 = true := by decide +kernel
theorem one_ahead : decide (Dt.days 2000 1 1 ≤ Dt.days 2026 11 15) = true := by decide +kernel
theorem one_table {r : Int} (h : Sh.Right r) : Vt.tableB [⟨std, 2000, 1, 1, r⟩] = true := by
  rw [Vt.table_iff]
  refine ⟨by simp, fun x hx => ?_, List.pairwise_singleton _ _⟩
  obtain rfl := List.mem_singleton.1 hx
  exact Vt.rowE_0.2 ⟨one_name, one_day, h⟩
theorem one_find {r : Int} (h : Sh.Right r) : Vt.find [⟨std, 2000, 1, 1, r⟩] std 2026 11 15 = (r, true) := by
  rw [Vt.find_right (one_table h) one_now, Vt.last, Vt.last, if_pos]
  unfold Vt.hit
  rw [Bool.and_eq_true]
  exact ⟨decide_eq_true rfl, one_ahead⟩
theorem tot_one {r k x : Int} (hr : Sh.Right r) (hk : 1 ≤ k ∧ k ≤ 1000) (hx : 0 ≤ x ∧ x ≤ 1073741824) : totE [⟨std, 2000, 1, 1, r⟩] 2026 11 15 [⟨⟨#[]⟩, std, k, x⟩] = 0 ∧ (totT [⟨std, 2000, 1, 1, r⟩] 2026 11 15 [⟨⟨#[]⟩, std, k, x⟩]).net = k * x ∧ (totT [⟨std, 2000, 1, 1, r⟩] 2026 11 15 [⟨⟨#[]⟩, std, k, x⟩]).tax = (k * x * r + 5000) / 10000 ∧ (totT [⟨std, 2000, 1, 1, r⟩] 2026 11 15 [⟨⟨#[]⟩, std, k, x⟩]).gross = k * x + (k * x * r + 5000) / 10000 := by
  have hh : headE [⟨std, 2000, 1, 1, r⟩] 2026 11 15 [⟨⟨#[]⟩, std, k, x⟩] = 0 := head_0 (one_table hr) one_now (by simp) (by simp)
  have hs : Small ⟨⟨#[]⟩, std, k, x⟩ := ⟨hk.1, hk.2, by show -1099511627776 ≤ x; omega, by show x ≤ 1099511627776; omega⟩
  have h1 := tot_small hh (fun z hz => (List.mem_singleton.1 hz) ▸ hs)
  have hm : Mn.err (k * x) = 0 := by
    have := hs.mul
    exact Mn.err_fit ⟨by show _ ≤ k * x; have : (k * x).natAbs ≤ 1099511627776000 := this; omega, by have : (k * x).natAbs ≤ 1099511627776000 := this; omega⟩
  have hE : lineE [⟨std, 2000, 1, 1, r⟩] 2026 11 15 ⟨⟨#[]⟩, std, k, x⟩ = 0 := by
    rw [line_err (by show ¬ 64 < (0 : Nat); omega) one_name (by show ¬ (k < 1 ∨ 1048576 < k); omega) (by rw [one_find hr])]
    exact hm
  have h2 : firstE [⟨std, 2000, 1, 1, r⟩] 2026 11 15 [⟨⟨#[]⟩, std, k, x⟩] = 0 := by
    rw [firstE, hE]
    rfl
  have hg : goL [⟨std, 2000, 1, 1, r⟩] 2026 11 15 [⟨⟨#[]⟩, std, k, x⟩] [] = [⟨std, r, 0 + k * x, 0⟩] := by
    rw [goL, goL]
    show enter std (Vt.find [⟨std, 2000, 1, 1, r⟩] std 2026 11 15).1 (k * x) [] = _
    rw [one_find hr]
    rfl
  have hT := h1.2 h2
  rw [hg, Int.zero_add] at hT
  have hkx : 0 ≤ k * x := Int.mul_nonneg (by omega) hx.1
  have htx : Sh.taxV (k * x) r = (k * x * r + 5000) / 10000 := by
    have hn : (k * x).natAbs ≤ 461168601842738790 := by have : (k * x).natAbs ≤ 1099511627776000 := hs.mul; omega
    have hsm := tax_mag (n := k * x) hr
    unfold Sh.taxV Sh.val
    rw [if_pos hr, if_pos (by omega)]
    unfold Sh.side
    rw [if_neg (by omega)]
    obtain ⟨u, hu⟩ : ∃ u : Nat, k * x = (u : Int) := ⟨(k * x).toNat, by omega⟩
    obtain ⟨b, hb⟩ : ∃ b : Nat, r = (b : Int) := ⟨r.toNat, by have := hr.1; omega⟩
    rw [hu, hb, Int.natAbs_natCast, Int.toNat_natCast]
    have ho := Sh.sh_off u b
    have e : ((u : Int) * (b : Int)) = ((u * b : Nat) : Int) := by rw [Int.natCast_mul]
    rw [e]
    generalize u * b = q at *
    generalize Sh.sh u b 10000 = s at *
    omega
  rw [hT]
  refine ⟨h1.1.trans h2, ?_, ?_, ?_⟩
  · show k * x + 0 = _
    omega
  · show Sh.taxV (k * x) r + 0 = _
    rw [htx]
    omega
  · show (k * x + 0) + (Sh.taxV (k * x) r + 0) = _
    rw [htx]
    omega
end Go.Proofs.Ythcaecinjmnlbab.Iv
