/- A TABLE OF ROWS THAT ARE PUT ONE BY ONE, A TOTAL AT IT: for a region that draws. -/
import Derived.Test.YthcaecinjmnlbabIRn
import Derived.Test.YthcaecinjmnlbabIvO
set_option linter.unusedVariables false
namespace Go.Proofs.Ythcaecinjmnlbab
open Go.RowKit
open Vt (Rt)

theorem tab_at (rs : List Rt) (ao : Option Addr) (n ca nt : Nat) (tb : List Rt) (X u : World) (hR : Rts X ao n ca rs) (htb : Vt.tab [] (rs.take 30) = tb) (hnt : tb.length = nt) (hu : Below X.heap.size X u) :
    Calls Try.prog 6 #[.slice ao n ca] u fun e w' => ∃ ta tc, e = .returned (.slice ta nt tc) ∧ Rts w' ta nt tc tb ∧ Below u.heap.size u w' := by
  refine (table_any rs ao n ca u (hR.below hu)).mono ?_
  rintro e w' ⟨v, rfl, hO, b⟩
  rw [htb] at hO
  obtain ⟨ta, tc, rfl, hT, _⟩ := own_rts hO (htb ▸ tab_short hR.short 30)
  rw [hnt] at hT
  exact ⟨ta, tc, by rw [hnt], hT, b⟩
theorem tot_at (rs : List Rt) (ls : List Ln.T) (y m d E n t s : Int) (ps : List Pt.T) (u : World) (ro lo : Option Addr) (k l cap lc : Nat) (hE : Iv.totE rs y m d ls = E) (hT : Iv.totT rs y m d ls = ⟨n, t, s, ps⟩) (hR : Rts u ro k cap rs) (hL : Ln.Ls u lo l lc ls) (hy : Fit y) (hm : Fit m) (hd : Fit d) :
    Calls Try.prog 7 #[.slice ro k cap, .agg #[.int .i64 y, .int .i64 m, .int .i64 d], .slice lo l lc] u fun e w' => ∃ v, e = .returned (.tuple #[.agg #[.int .i64 n, .int .i64 t, .int .i64 s, v], .int .i64 E]) ∧ Pt.Own w' u.heap.size v ps ∧ Below u.heap.size u w' := by
  refine (inv_total rs ls ro lo k cap l lc y m d u hR hL hy hm hd).mono ?_
  rintro e w' ⟨v, rfl, hO, b⟩
  rw [hE, hT]
  rw [hT] at hO
  exact ⟨v, rfl, hO, b⟩
theorem tot_parts {rs : List Rt} {y m d : Int} {ls : List Ln.T} {N T S : Int} {ps : List Pt.T} (h : Iv.totE rs y m d ls = 0) (hT : Iv.totT rs y m d ls = ⟨N, T, S, ps⟩) : ∃ l : List Pt.T, ps = l.map Iv.taxed ∧ Iv.Sorted l ∧ 0 < l.length ∧ Iv.upE l 0 0 = 0 ∧ Iv.nets l = N ∧ Iv.taxes l = T ∧ N + T = S ∧ Fit (N + T) := by
  obtain ⟨h1, h2, h3, h4⟩ := tot_0 h
  rw [hT] at h4
  unfold Iv.sumT at h4
  simp only [Iv.Tot.mk.injEq] at h4
  have h5 := sumT_fit h3
  refine ⟨Iv.goL rs y m d ls [], h4.2.2.2, Iv.goL_sorted rs y m d ls List.Pairwise.nil, Iv.goL_pos rs y m d ls (.inl (Iv.head_all h1).2.2), ?_, h4.1.symm, h4.2.1.symm, by omega, by rw [h4.1, h4.2.1]; exact h5.2.2⟩
  unfold Iv.sumE at h3
  by_cases k : Iv.upE (Iv.goL rs y m d ls []) 0 0 = 0
  · exact k
  · rw [if_pos k] at h3
    exact absurd h3 k
theorem up_step {l : List Pt.T} {M U : Int} {j : Nat} (hj : j < l.length) (h : Iv.upE (l.drop j) M U = 0) : Fit (M + l[j].net) ∧ Fit (U + Sh.taxV l[j].net l[j].bp) ∧ Iv.upE (l.drop (j + 1)) (M + l[j].net) (U + Sh.taxV l[j].net l[j].bp) = 0 := by
  rw [Iv.upE_at l M U j hj] at h
  by_cases h1 : Sh.taxE l[j].net l[j].bp = 0
  · rw [h1, if_neg (by simp)] at h
    by_cases h2 : Mn.err (M + l[j].net) = 0
    · rw [h2, if_neg (by simp)] at h
      by_cases h3 : Mn.err (U + Sh.taxV l[j].net l[j].bp) = 0
      · rw [h3, if_neg (by simp)] at h
        exact ⟨Iv.err_0 h2, Iv.err_0 h3, h⟩
      · rw [if_pos h3] at h
        omega
    · rw [if_pos h2] at h
      omega
  · rw [if_pos h1] at h
    exact absurd h h1
end Go.Proofs.Ythcaecinjmnlbab
