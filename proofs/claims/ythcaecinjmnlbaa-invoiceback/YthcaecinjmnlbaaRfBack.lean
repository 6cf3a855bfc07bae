/- THE DOCUMENT's OWN ANSWER: impostref8's Back. (By genrback.py.) -/
import Derived.Test.YthcaecinjmnlbaaHc
import Derived.Test.YthcaecinjmnlbaaHi
namespace Go.Proofs.Ythcaecinjmnlbaa
open Go.RowKit
open Mem

/-- what the walk carries from round to round -/
structure BSt (w wr : World) (g : Nat) (t : Iv.Tot) (ao : Option Addr) (p cap : Nat) (vo : Option Addr) (q vc k : Nat) : Prop where
  gw : w.heap.size = g
  bel : Below w.heap.size w wr
  a1 : Tt.At wr g t.net t.tax t.gross (.slice ao p cap)
  a2 : Tt.At wr (g + 1) 0 0 0 (.slice none 0 0)
  a3 : Tt.At wr (g + 1 + 1) (-t.net) (-t.tax) (-t.gross) (.slice vo q vc)
  own : Pt.Own wr (g + 3) (.slice vo q vc) ((t.parts.take k).map Iv.negP)
  ok : ∀ r ∈ t.parts.take k, Iv.badP r = false
theorem BSt.below {w wr v : World} {g : Nat} {t : Iv.Tot} {ao : Option Addr} {p cap : Nat} {vo : Option Addr} {q vc k : Nat} (h : BSt w wr g t ao p cap vo q vc k) (b : Below wr.heap.size wr v) : BSt w v g t ao p cap vo q vc k :=
  ⟨h.gw, bchain h.bel b, h.a1.below b, h.a2.below b, h.a3.below b, Pt.own_below h.own b, h.ok⟩
theorem neg_short {r : Pt.T} (h : Pt.Short r) (hb : Iv.badP r = false) : Pt.Short (Iv.negP r) := by
  unfold Iv.badP at hb
  rw [decide_eq_false_iff_not] at hb
  have h1 : Mn.err (-r.net) = 0 := by
    by_cases k : Mn.err (-r.net) = 0
    · exact k
    · exact absurd (.inl k) hb
  have h2 : Mn.err (-r.tax) = 0 := by
    by_cases k : Mn.err (-r.tax) = 0
    · exact k
    · exact absurd (.inr k) hb
  have e1 := Iv.err_0 h1
  have e2 := Iv.err_0 h2
  unfold Mn.Fit at e1 e2
  refine ⟨h.1, h.2.1, ?_, ?_⟩
  · show -9223372036854775808 ≤ -r.net ∧ -r.net ≤ 9223372036854775807
    omega
  · show -9223372036854775808 ≤ -r.tax ∧ -r.tax ≤ 9223372036854775807
    omega
theorem refSub0 (x : Int) (w : World) (hx : Fit x) : Calls Try.prog 39 #[.int .i64 0, .int .i64 x] w fun e w' => e = both (Mn.amt (-x)) (Mn.err (-x)) ∧ w' = w := by
  have h := refSub_any 0 x w (by decide) hx
  rw [Int.zero_sub] at h
  exact h
set_option maxHeartbeats 4000000 in
theorem rback_any (t : Iv.Tot) (ao : Option Addr) (p cap : Nat) (w : World) (hL : Pt.Ls w ao p cap t.parts) (hn : Fit t.net) (ht : Fit t.tax) (hg : Fit t.gross) (hp : p ≤ 1000) :
    Calls Try.prog 21 #[Tt.val t.net t.tax t.gross (.slice ao p cap)] w (Tt.Ans w (Iv.backE t) (Iv.backT t)) := by
  have HL := Lib.hid hL
  have HLn := Lib.hid hL.len
  have HF := Lib.hid (And.intro hn (And.intro ht hg))
  have hcap := hL.reach
  have hfit := hL.fits
  clear hL hn ht hg
  have hA1 := Tt.at_box w t.net t.tax t.gross (.slice ao p cap)
  have hA2 := Tt.at_box (Tt.box w t.net t.tax t.gross (.slice ao p cap)) 0 0 0 (.slice none 0 0)
  have hb1 := Tt.below_own w t.net t.tax t.gross (.slice ao p cap)
  have hb2 := Tt.below_own (Tt.box w t.net t.tax t.gross (.slice ao p cap)) 0 0 0 (.slice none 0 0)
  rw [Tt.box_size] at hA2
  have hs2 : (Tt.box (Tt.box w t.net t.tax t.gross (.slice ao p cap)) 0 0 0 (.slice none 0 0)).heap.size = w.heap.size + 1 + 1 := by rw [Tt.box_size, Tt.box_size]
  have HA1 := Lib.hid (hA1.below hb2)
  have HA2 := Lib.hid hA2
  have HB := Lib.hid (bchain hb1 hb2)
  clear hA1 hA2 hb1 hb2
  unfold Tt.val
  go_enter Try.func21, Try.ntmps21
  obtain ⟨a0, a1, a2, a3⟩ := HA1.out.cells
  go_wp2_with fail
  refine (refSub0 t.net _ HF.out.1).mono ?_
  rintro e w1 ⟨rfl, hw1⟩
  subst hw1
  unfold both
  go_wp2_with fail
  refine (refSub0 t.tax _ HF.out.2.1).mono ?_
  rintro e w1 ⟨rfl, hw1⟩
  subst hw1
  unfold both
  go_wp2_with fail
  refine (refSub0 t.gross _ HF.out.2.2).mono ?_
  rintro e w1 ⟨rfl, hw1⟩
  unfold both
  have hw2 : Tt.box (Tt.box w t.net t.tax t.gross (.slice ao p cap)) 0 0 0 (.slice none 0 0) = w1 := hw1.symm
  rw [hw2] at HA1 HA2 HB hs2
  clear hw1 hw2 a0 a1 a2 a3
  obtain ⟨z0, z1, z2, z3⟩ := HA2.out.cells
  have f0 := HA2.out.frozen 0
  have f1 := HA2.out.frozen 1
  have f2 := HA2.out.frozen 2
  have f3 := HA2.out.frozen 3
  rcases Mn.err_two (-t.net) with h1 | h1
  · rcases Mn.err_two (-t.tax) with h2 | h2
    · rcases Mn.err_two (-t.gross) with h3 | h3
      · have HE1 := Lib.hid h1
        have HE2 := Lib.hid h2
        have HE3 := Lib.hid h3
        rw [h1, h2, h3, Iv.amt_0 h1, Iv.amt_0 h2, Iv.amt_0 h3]
        have HS : Hid (BSt w (Tt.box w1 (-t.net) (-t.tax) (-t.gross) (.slice none 0 0)) w.heap.size t ao p cap none 0 0 0) := by
          have hb3 := Tt.below_own w1 (-t.net) (-t.tax) (-t.gross) (.slice none 0 0)
          have hA3 := Tt.at_box w1 (-t.net) (-t.tax) (-t.gross) (.slice none 0 0)
          rw [hs2] at hA3
          exact ⟨rfl, bchain HB.out hb3, HA1.out.below hb3, HA2.out.below hb3, hA3, Pt.own_nil _ _, by simp⟩
        clear h1 h2 h3 z0 z1 z2 z3 f0 f1 f2 f3 HA1 HA2
        go_wp2_with fail
        rw [show w1.alloc (.cells #[.int .i64 (-t.net), .int .i64 (-t.tax), .int .i64 (-t.gross), .slice none 0 0] 30) = Tt.box w1 (-t.net) (-t.tax) (-t.gross) (.slice none 0 0) from rfl]
        try rw [hs2]
        generalize Tt.box w1 (-t.net) (-t.tax) (-t.gross) (.slice none 0 0) = U at *
        go_loopw [11, 12, 13, 14, 15, 16] (fun i _ _ _ _ _ wr => ∃ (k : Nat) (vo : Option Addr) (q vc : Nat), k ≤ p ∧ i = .int .i64 k ∧ Hid (BSt w wr w.heap.size t ao p cap vo q vc k)) (fun i _ _ _ _ _ _ => p - (intOf i).toNat)
        case atStart => exact ⟨0, none, 0, 0, by omega, rfl, HS⟩
        case round =>
          clear HS HB hs2
          rename World => wz
          obtain ⟨k, vo, q, vc, hk, rfl, H⟩ := hrel
          obtain ⟨a0, a1, a2, a3⟩ := H.out.a1.cells
          by_cases hlt : k < p
          · obtain ⟨b, off, rfl⟩ := HL.out.at (by omega)
            have hkl : k < t.parts.length := HLn.out ▸ hlt
            have hrow := (HL.out.row k hkl).below H.out.bel
            have HSh := Lib.hid (HL.out.short _ (List.getElem_mem hkl))
            obtain ⟨r, hr⟩ : ∃ r, t.parts[k] = r := ⟨_, rfl⟩
            have HMem : Hid (r ∈ t.parts) := Lib.hid (hr ▸ List.getElem_mem hkl)
            have HTk : Hid (t.parts.take (k + 1) = t.parts.take k ++ [r]) := Lib.hid (by rw [List.take_succ_eq_append_getElem hkl, hr])
            rw [hr] at hrow HSh
            clear hr
            obtain ⟨g0, g1, g2, g3⟩ := hrow
            have hbx := Pt.below_own wz r
            have HCx := Lib.hid (Pt.c_box wz r)
            have H1 := Lib.hid (H.out.below hbx)
            have hC := HCx.out
            unfold Pt.C at hC
            rw [show Pt.box wz r = wz.alloc (.cells #[.string r.cat, .int .i64 r.bp, .int .i64 r.net, .int .i64 r.tax] 39) from rfl] at hC
            obtain ⟨x0, x1, x2, x3⟩ := hC
            clear hbx
            go_wp2_with fail
            refine (refSub0 r.net _ HSh.out.2.2.1).mono ?_
            rintro e w2 ⟨rfl, hw2⟩
            subst hw2
            unfold both
            go_wp2_with fail
            refine (refSub0 r.tax _ HSh.out.2.2.2).mono ?_
            rintro e w2 ⟨rfl, hw2⟩
            unfold both
            have hw3 : Pt.box wz r = w2 := hw2.symm
            rw [hw3] at H1 HCx
            have hC := HCx.out
            unfold Pt.C at hC
            clear hw2 hw3 x0 x1 x2 x3 a0 a1 a2 a3 g0 g1 g2 g3 H
            obtain ⟨x0, x1, x2, x3⟩ := hC
            obtain ⟨y0, y1, y2, y3⟩ := H1.out.a3.cells
            obtain ⟨z0, z1, z2, z3⟩ := H1.out.a2.cells
            have f0 := H1.out.a2.frozen 0
            have f1 := H1.out.a2.frozen 1
            have f2 := H1.out.a2.frozen 2
            have f3 := H1.out.a2.frozen 3
            have f4 := H1.out.a3.frozen 3
            rcases Mn.err_two (-r.net) with e1 | e1
            · rcases Mn.err_two (-r.tax) with e2 | e2
              · have HBd := Lib.hid (Iv.bad_no e1 e2)
                rw [e1, e2, Iv.amt_0 e1, Iv.amt_0 e2]
                clear e1 e2
                obtain ⟨M, hM⟩ : ∃ M, (t.parts.take k).map Iv.negP = M := ⟨_, rfl⟩
                have HM := Lib.hid hM
                have HOw : Hid (∀ o, Pt.Own (w2.alloc o) (w.heap.size + 3) (.slice vo q vc) M) := fun o => hM ▸ Pt.own_alloc H1.out.own o
                have hsz : w.heap.size + 3 ≤ w2.heap.size := by have := H1.out.a3.lt; omega
                have HQl : Hid (M.length = k) := Lib.hid (by rw [← hM, List.length_map, List.length_take]; omega)
                have HShM : Hid (∀ x ∈ M ++ [Iv.negP r], Pt.Short x) := Lib.hid fun x hx => by
                  rcases List.mem_append.1 hx with hx | hx
                  · rw [← hM] at hx
                    obtain ⟨y, hy, rfl⟩ := List.mem_map.1 hx
                    exact neg_short (HL.out.short y (List.mem_of_mem_take hy)) (H1.out.ok y hy)
                  · obtain rfl := List.mem_singleton.1 hx
                    exact neg_short HSh.out HBd.out
                clear hM
                go_wp2_with (at_builtin; go_must (refine Pt.wpList_append _ rfl (.tmp 82) (.tmp 90) rfl (w.heap.size + 3) (.slice vo q vc) M rfl (HOw.out _) (some ⟨w2.heap.size, 0, none⟩) 1 1 [Iv.negP r] rfl rfl (fun h => by cases h) (Pt.seg_block (heap_alloc_new w2 _)) (by rw [HQl.out]; omega) (by simp; omega) ?_))
                intro v1 u1 o1 gr1 _
                have hbu := ((Below.refl w2.heap.size w2).alloc (Nat.le_refl _) (Pt.block (Iv.negP r)))
                have hgB : Below (w.heap.size + 3) w2 u1 := ((Below.refl (w.heap.size + 3) w2).alloc (by omega) (Pt.block (Iv.negP r))).grown gr1 (by simp; omega) (Pt.own_ge (HOw.out (Pt.block (Iv.negP r))))
                have hOk : ∀ x ∈ t.parts.take k ++ [r], Iv.badP x = false := fun x hx => by
                  rcases List.mem_append.1 hx with hx | hx
                  · exact H1.out.ok x hx
                  · obtain rfl := List.mem_singleton.1 hx
                    exact HBd.out
                obtain ⟨uo, uc, rfl, hU, _⟩ := Pt.own_ls o1 HShM.out
                have hBl : Below w.heap.size w u1 := H1.out.bel.trans (hgB.mono (by omega))
                have e1' : Tt.At u1 w.heap.size t.net t.tax t.gross (.slice (some ⟨b, off, none⟩) p cap) := (hgB.block _ (by omega)).trans H1.out.a1
                have e2' : Tt.At u1 (w.heap.size + 1) 0 0 0 (.slice none 0 0) := (hgB.block _ (by omega)).trans H1.out.a2
                have e3' : Tt.At u1 (w.heap.size + 1 + 1) (-t.net) (-t.tax) (-t.gross) (.slice vo q vc) := (hgB.block _ (by omega)).trans H1.out.a3
                generalize (M ++ [Iv.negP r]).length = q2 at *
                have HN : Hid (BSt w (u1.setCell ⟨w.heap.size + 1 + 1, 3, none⟩ (.slice uo q2 uc)) w.heap.size t (some ⟨b, off, none⟩) p cap uo q2 uc (k + 1)) := by
                  refine ⟨rfl, bset hBl (by omega) _ _, e1'.far (by omega) _ _, e2'.far (by omega) _ _, e3'.set3 _, ?_, ?_⟩
                  · rw [HTk.out, List.map_append, HM.out]
                    exact Pt.own_far o1 (Nat.lt_succ_self _) _ _
                  · rw [HTk.out]
                    exact hOk
                obtain ⟨y0, y1, y2, y3⟩ := e3'.cells
                have f4 := e3'.frozen 3
                clear hOk hU hBl e1' e2' e3' hgB hbu o1 gr1
                go_wp2_with fail
                go_roundw
                case rel => exact ⟨k + 1, uo, q2, uc, by omega, by go_num, HN⟩
                case measure => simp [intOf]; omega
              · have HP := Lib.hid (Iv.back_part HE1.out HE2.out HE3.out HMem.out (Iv.bad_yes (.inr (by rw [e2]; omega))))
                rw [e1, e2]
                have HB := Lib.hid H1.out.bel
                go_wp2_with fail
                exact bodyPost_ret (v := .tuple #[Tt.val 0 0 0 (.slice none 0 0), .int .i64 7]) (by simp [results, Tt.val, Try.results21, go_sem, z0, z1, z2, z3]) rfl ⟨_, by rw [HP.out.1, HP.out.2]; rfl, by rw [HP.out.2]; exact Pt.own_nil _ _, bset (bset (bset (bset HB.out (by omega) _ _) (by omega) _ _) (by omega) _ _) (by omega) _ _⟩
            · have HP := Lib.hid (Iv.back_part HE1.out HE2.out HE3.out HMem.out (Iv.bad_yes (.inl (by rw [e1]; omega))))
              rw [e1]
              have HB := Lib.hid H1.out.bel
              go_wp2_with fail
              exact bodyPost_ret (v := .tuple #[Tt.val 0 0 0 (.slice none 0 0), .int .i64 7]) (by simp [results, Tt.val, Try.results21, go_sem, z0, z1, z2, z3]) rfl ⟨_, by rw [HP.out.1, HP.out.2]; rfl, by rw [HP.out.2]; exact Pt.own_nil _ _, bset (bset (bset (bset HB.out (by omega) _ _) (by omega) _ _) (by omega) _ _) (by omega) _ _⟩
          · obtain rfl : k = p := by omega
            obtain ⟨y0, y1, y2, y3⟩ := H.out.a3.cells
            obtain ⟨z0, z1, z2, z3⟩ := H.out.a2.cells
            have f0 := H.out.a2.frozen 0
            have f1 := H.out.a2.frozen 1
            have f2 := H.out.a2.frozen 2
            have f3 := H.out.a2.frozen 3
            have HTk : Hid (t.parts.take k = t.parts) := Lib.hid (List.take_of_length_le (by rw [HLn.out]; exact Nat.le_refl _))
            have HP := Lib.hid (Iv.back_ok HE1.out HE2.out HE3.out (fun x hx => H.out.ok x (by rw [HTk.out]; exact hx)))
            have HB := Lib.hid H.out.bel
            go_wp2_with fail
            refine bodyPost_ret (v := .tuple #[Tt.val (-t.net) (-t.tax) (-t.gross) (.slice vo q vc), .int .i64 0]) (by simp [results, Tt.val, Try.results21, go_sem, z0, z1, z2, z3]) rfl ⟨.slice vo q vc, by rw [HP.out.1, HP.out.2]; rfl, ?_, bset (bset (bset (bset HB.out (by omega) _ _) (by omega) _ _) (by omega) _ _) (by omega) _ _⟩
            rw [HP.out.2]
            have ho := H.out.own
            rw [HTk.out] at ho
            exact Pt.own_mono (Pt.own_far (Pt.own_far (Pt.own_far (Pt.own_far ho (by omega) _ _) (by omega) _ _) (by omega) _ _) (by omega) _ _) (by omega)
      · have HP := Lib.hid (Iv.back_head (t := t) (.inr (.inr (by rw [h3]; omega))))
        rw [h1, h2, h3]
        go_wp2_with fail
        exact bodyPost_ret (v := .tuple #[Tt.val 0 0 0 (.slice none 0 0), .int .i64 7]) (by simp [results, Tt.val, Try.results21, go_sem, z0, z1, z2, z3]) rfl ⟨_, by rw [HP.out.1, HP.out.2]; rfl, by rw [HP.out.2]; exact Pt.own_nil _ _, bset (bset (bset (bset HB.out (by omega) _ _) (by omega) _ _) (by omega) _ _) (by omega) _ _⟩
    · have HP := Lib.hid (Iv.back_head (t := t) (.inr (.inl (by rw [h2]; omega))))
      rw [h1, h2]
      go_wp2_with fail
      exact bodyPost_ret (v := .tuple #[Tt.val 0 0 0 (.slice none 0 0), .int .i64 7]) (by simp [results, Tt.val, Try.results21, go_sem, z0, z1, z2, z3]) rfl ⟨_, by rw [HP.out.1, HP.out.2]; rfl, by rw [HP.out.2]; exact Pt.own_nil _ _, bset (bset (bset (bset HB.out (by omega) _ _) (by omega) _ _) (by omega) _ _) (by omega) _ _⟩
  · have HP := Lib.hid (Iv.back_head (t := t) (.inl (by rw [h1]; omega)))
    rw [h1]
    go_wp2_with fail
    exact bodyPost_ret (v := .tuple #[Tt.val 0 0 0 (.slice none 0 0), .int .i64 7]) (by simp [results, Tt.val, Try.results21, go_sem, z0, z1, z2, z3]) rfl ⟨_, by rw [HP.out.1, HP.out.2]; rfl, by rw [HP.out.2]; exact Pt.own_nil _ _, bset (bset (bset (bset HB.out (by omega) _ _) (by omega) _ _) (by omega) _ _) (by omega) _ _⟩
end Go.Proofs.Ythcaecinjmnlbaa
