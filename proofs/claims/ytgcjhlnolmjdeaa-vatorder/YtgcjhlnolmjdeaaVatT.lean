/- CONTRACTS OF PACKAGE vat: taken. -/
import Derived.Test.YtgcjhlnolmjdeaaVatR
namespace Go.Proofs.Ytgcjhlnolmjdeaa
open Go.RowKit
open Vt (Rt)
open Go.Sort (grow)

namespace Vt
/-- the same category, the same day -/
def sameB (r a : Rt) : Bool := decide (a.cat = r.cat) && decide (a.y = r.y) && decide (a.m = r.m) && decide (a.d = r.d)
theorem same_yes {r a : Rt} (h0 : a.cat = r.cat) (h1 : a.y = r.y) (h2 : a.m = r.m) (h3 : a.d = r.d) : sameB r a = true := by
  unfold sameB
  rw [decide_eq_true h0, decide_eq_true h1, decide_eq_true h2, decide_eq_true h3]
  rfl
theorem same_no {r a : Rt} (h : a.cat ≠ r.cat ∨ a.y ≠ r.y ∨ a.m ≠ r.m ∨ a.d ≠ r.d) : sameB r a = false := by
  rw [Bool.eq_false_iff]
  intro k
  unfold sameB at k
  simp only [Bool.and_eq_true, decide_eq_true_iff] at k
  rcases h with h | h | h | h
  · exact h k.1.1.1
  · exact h k.1.1.2
  · exact h k.1.2
  · exact h k.2
theorem same_dy {r a : Rt} (h : sameB r a = true) : a.cat = r.cat ∧ dy a = dy r := by
  unfold sameB at h
  simp only [Bool.and_eq_true, decide_eq_true_iff] at h
  refine ⟨h.1.1.1, ?_⟩
  unfold dy
  rw [h.1.1.2, h.1.2, h.2]
theorem same_lt {r a : Rt} (h : lt a r = true ∨ lt r a = true) : sameB r a = false := by
  rw [Bool.eq_false_iff]
  intro k
  obtain ⟨k1, k2⟩ := same_dy k
  rcases h with h | h
  · rw [lt_same k1, decide_eq_true_iff] at h
    omega
  · rw [lt_same k1.symm, decide_eq_true_iff] at h
    omega
theorem any_same (r : Rt) (l : List Rt) (h : ∀ a ∈ l, lt r a = true) : l.any (sameB r) = false := by
  rw [List.any_eq_false]
  intro a ha
  rw [same_lt (.inr (h a ha))]
  simp
theorem taken_any (r : Rt) (hr : rowE r = 0) : ∀ l : List Rt, Sorted l → (∀ a ∈ l, rowE a = 0) → taken l r = l.any (sameB r)
  | [], _, _ => rfl
  | a :: l, hs, he => by
    unfold Sorted at hs
    rw [List.pairwise_cons] at hs
    rw [List.any_cons]
    rcases lt_tri a r with h | ⟨h1, h2⟩ | h
    · rw [taken_cons h, same_lt (.inl h), Bool.false_or]
      exact taken_any r hr l hs.2 fun b hb => he b (List.mem_cons_of_mem _ hb)
    · have ha := rowE_0.1 (he a (List.mem_cons_self ..))
      have hb := rowE_0.1 hr
      have hd : Dt.num a.y a.m a.d = Dt.num r.y r.m r.d := by
        unfold dy at h2
        rw [Dt.days_right ha.2.1, Dt.days_right hb.2.1] at h2
        exact h2
      obtain ⟨e1, e2, e3⟩ := Dt.num_inj ha.2.1 hb.2.1 hd
      have l1 : lt a r = false := by rw [lt_same h1]; exact decide_eq_false (by omega)
      have l2 : lt r a = false := by rw [lt_same h1.symm]; exact decide_eq_false (by omega)
      rw [taken_head l1, l2, same_yes h1 e1 e2 e3]
      rfl
    · rw [taken_head (lt_asymm h), h, same_lt (.inr h), any_same r l fun b hb => lt_trans h (hs.1 b hb)]
      rfl
theorem any_at (r : Rt) (l : List Rt) (k : Nat) (h : k < l.length) : (l.drop k).any (sameB r) = (sameB r l[k] || (l.drop (k + 1)).any (sameB r)) := by
  rw [List.drop_eq_getElem_cons h]
  rfl
end Vt
theorem vatBare_agg (r : Rt) (u : World) (i : Nat) (os : Array Obj) : Ans 36 #[.agg #[.string r.cat, .int .i64 r.y, .int .i64 r.m, .int .i64 r.d, .int .i64 r.bp]] u i os (.agg #[.string r.cat, .int .i64 r.y, .int .i64 r.m, .int .i64 r.d, .int .i64 0]) :=
  Calls.regrown_of (vat_bare r _ _ (Below.refl _ _))
set_option maxHeartbeats 2000000 in
theorem vat_taken (rs : List Rt) (ao : Option Addr) (n cap : Nat) (r : Rt) (w0 w : World) (hw : Below w0.heap.size w0 w) (hR : Rts w ao n cap rs) :
    Calls Try.prog 28 #[.slice ao n cap, rowV r] w fun e w' => e = .returned (.bool (rs.any (Vt.sameB r))) ∧ Below w0.heap.size w0 w' := by
  have HW := Lib.hid hw
  have HR := Lib.hid hR
  have HN := Lib.hid hR.len
  have hcap := hR.reach
  have hfit := hR.fits
  clear hw hR
  unfold rowV
  go_enter Try.func28, Try.ntmps28
  go_wp2
  go_loopw [6, 9] (fun _ i wr => ∃ k : Nat, k ≤ n ∧ i = .int .i64 k ∧ Hid ((rs.drop k).any (Vt.sameB r) = rs.any (Vt.sameB r)) ∧ Hid (Below w.heap.size w wr) ∧ Hid (RowC wr w.heap.size r)) (fun _ i _ => n - (intOf i).toNat)
  case atStart => exact ⟨0, by omega, rfl, Lib.hid rfl, Lib.hid (below_boxR w r), Lib.hid (rowC_box w r)⟩
  case round =>
    obtain ⟨k, hk, rfl, HK, HB, HC⟩ := hrel
    by_cases hlt : k < n
    · obtain ⟨b, off, rfl⟩ := HR.out.at (by omega)
      have hkr : k < rs.length := HN.out ▸ hlt
      obtain ⟨q, hq⟩ : ∃ q, rs[k] = q := ⟨_, rfl⟩
      have hrow := (HR.out.row k hkr).below HB.out
      have HSt := Lib.hid (Vt.any_at r rs k hkr)
      rw [hq] at hrow HSt
      clear hq
      obtain ⟨g0, g1, g2, g3, g4⟩ := hrow
      obtain ⟨W, hW, hbW, hA⟩ := boxed1 wr q
      have HBW := Lib.hid (bchain HB.out hbW)
      have hC := HC.out.below hbW
      have HCW := Lib.hid hC
      clear hbW
      unfold RowC at hA hC
      obtain ⟨a0, a1, a2, a3, a4⟩ := hA
      obtain ⟨b0, b1, b2, b3, b4⟩ := hC
      have k0 := cell_regrown a0
      have k1 := cell_regrown a1
      have k2 := cell_regrown a2
      have k3 := cell_regrown a3
      have k4 := cell_regrown a4
      have l0 := cell_regrown b0
      have l1 := cell_regrown b1
      have l2 := cell_regrown b2
      have l3 := cell_regrown b3
      have l4 := cell_regrown b4
      have c1 := vatBare_agg q
      have c2 := vatBare_agg r
      by_cases e : q.cat = r.cat ∧ q.y = r.y ∧ q.m = r.m ∧ q.d = r.d
      · have HS := Lib.hid (Vt.same_yes e.1 e.2.1 e.2.2.1 e.2.2.2)
        have q0 : (q.cat.toList == r.cat.toList) = true := beq_iff_eq.2 (by rw [e.1])
        have q1 : (q.y == r.y) = true := beq_iff_eq.2 e.2.1
        have q2 : (q.m == r.m) = true := beq_iff_eq.2 e.2.2.1
        have q3 : (q.d == r.d) = true := beq_iff_eq.2 e.2.2.2
        clear e
        go_wp2
        refine wp_region_quiet_below (by kernel_rfl) (by kernel_rfl) ?_
        repeat (first | go_big_quiet_step (first | (go_at_call_of 36 (Value.string q.cat); exact c1 _ _ _) | (go_at_call_of 36 (Value.string r.cat); exact c2 _ _ _)) | quiet_step (first | (go_at_call_of 36 (Value.string q.cat); exact c1 _ _ _) | (go_at_call_of 36 (Value.string r.cat); exact c2 _ _ _)))
        refine wpQuiet_nil ?_
        intro _ hw'
        obtain ⟨⟨dq, osq⟩, hw''⟩ := hw'
        subst hw''
        have HBv := Lib.hid (bchain HBW.out (below_regrown W dq osq))
        go_wp2
        go_ret
        exact ⟨ret_bool (by rw [← HK.out, HSt.out, HS.out]; rfl), bchain HW.out HBv.out⟩
      · have HS : Hid (Vt.sameB r q = false) := Lib.hid (Vt.same_no (by
          by_cases e0 : q.cat = r.cat
          · by_cases e1 : q.y = r.y
            · by_cases e2 : q.m = r.m
              · exact .inr (.inr (.inr fun e3 => e ⟨e0, e1, e2, e3⟩))
              · exact .inr (.inr (.inl e2))
            · exact .inr (.inl e1)
          · exact .inl e0))
        have hq : (q.cat.toList == r.cat.toList) = false ∨ ((q.cat.toList == r.cat.toList) = true ∧ (q.y == r.y) = false) ∨ ((q.cat.toList == r.cat.toList) = true ∧ (q.y == r.y) = true ∧ (q.m == r.m) = false) ∨ ((q.cat.toList == r.cat.toList) = true ∧ (q.y == r.y) = true ∧ (q.m == r.m) = true ∧ (q.d == r.d) = false) := by
          by_cases e0 : q.cat = r.cat
          · have h0 : (q.cat.toList == r.cat.toList) = true := beq_iff_eq.2 (by rw [e0])
            by_cases e1 : q.y = r.y
            · by_cases e2 : q.m = r.m
              · exact .inr (.inr (.inr ⟨h0, beq_iff_eq.2 e1, beq_iff_eq.2 e2, beq_eq_false_iff_ne.2 fun e3 => e ⟨e0, e1, e2, e3⟩⟩))
              · exact .inr (.inr (.inl ⟨h0, beq_iff_eq.2 e1, beq_eq_false_iff_ne.2 e2⟩))
            · exact .inr (.inl ⟨h0, beq_eq_false_iff_ne.2 e1⟩)
          · exact .inl (beq_eq_false_iff_ne.2 fun k => e0 (Vt.cat_ext k))
        clear e
        rcases hq with q0 | ⟨q0, q1⟩ | ⟨q0, q1, q2⟩ | ⟨q0, q1, q2, q3⟩
        all_goals
          go_wp2
          refine wp_region_quiet_below (by kernel_rfl) (by kernel_rfl) ?_
          repeat (first | go_big_quiet_step (first | (go_at_call_of 36 (Value.string q.cat); exact c1 _ _ _) | (go_at_call_of 36 (Value.string r.cat); exact c2 _ _ _)) | quiet_step (first | (go_at_call_of 36 (Value.string q.cat); exact c1 _ _ _) | (go_at_call_of 36 (Value.string r.cat); exact c2 _ _ _)))
          refine wpQuiet_nil ?_
          intro _ hw'
          obtain ⟨⟨dq, osq⟩, hw''⟩ := hw'
          subst hw''
          have HBv := Lib.hid (bchain HBW.out (below_regrown W dq osq))
          have HCv := Lib.hid (HCW.out.below (below_regrown W dq osq))
          go_wp2
          go_roundw
          case rel => exact ⟨k + 1, by omega, by go_num, Lib.hid (by rw [← HK.out, HSt.out, HS.out, Bool.false_or]), HBv, HCv⟩
          case measure => simp [intOf]; omega
    · obtain rfl : k = n := by omega
      go_wp2
      go_ret
      exact ⟨ret_bool (by rw [← HK.out, List.drop_eq_nil_of_le (Nat.le_of_eq HN.out.symm)]; rfl), bchain HW.out HB.out⟩
end Go.Proofs.Ytgcjhlnolmjdeaa
