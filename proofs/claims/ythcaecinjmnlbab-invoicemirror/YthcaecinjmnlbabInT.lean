/- CONTRACTS OF PACKAGE invoice: Total. -/
import Derived.Test.YthcaecinjmnlbabInC
set_option linter.unusedVariables false
namespace Go.Proofs.Ythcaecinjmnlbab
open Go.RowKit
open Vt (Rt)
open Go.Sort (grow)

/-- make([]api.Part, 0, n) -/
theorem Pt.make_room (n : Nat) (hn : n ≤ 1000) (u : World) : (Instr.makeSlice 32 (.int .i64 0) (.int .i64 (n : Int))).run Try.prog u =
    .ok (.slice (some ⟨u.heap.size, 0, none⟩) 0 n) (u.alloc (.cells (Pt.zeros n) 55)) := by
  obtain ⟨i0, hi, hz0, hz1, hz2⟩ := info_parts Pt.info
  have h := run_make (P := Try.prog) u 32 55 i0 Pt.zeroV Try.underlying32 hi hz0 .i64 .i64 0 (n : Int) (by omega) (by omega) (by rw [hz2]; omega) (by omega)
  rw [hz1, Int.toNat_natCast, Pt.made] at h
  exact h
/-- what the walk carries from round to round -/
structure TSt (w wr : World) (g q c : Nat) (y m d : Int) (ps Z : List Pt.T) : Prop where
  gw : w.heap.size = g
  lo : g + 2 ≤ q
  bel : Below w.heap.size w wr
  day : DayC wr g y m d
  res : Tt.At wr (g + 1) 0 0 0 (.slice none 0 0)
  blk : Pt.Block wr q (ps ++ Z)
  len : c = (ps ++ Z).length
  sh : ∀ r ∈ ps, Pt.Short r
section
variable {w wr v : World} {g q c : Nat} {y m d : Int} {ps Z : List Pt.T}
theorem TSt.below (H : TSt w wr g q c y m d ps Z) (b : Below wr.heap.size wr v) : TSt w v g q c y m d ps Z :=
  ⟨H.gw, H.lo, bchain H.bel b, H.day.below b, H.res.below b, H.blk.below b, H.len, H.sh⟩
theorem DayC.under {u v : World} {b B : Nat} {y m d : Int} (h : DayC u b y m d) (k : Below B u v) (hb : b < B) : DayC v b y m d := by
  obtain ⟨h0, h1, h2⟩ := h
  unfold DayC
  rw [k.cell (p := ⟨b, 0, none⟩) hb, k.cell (p := ⟨b, 1, none⟩) hb, k.cell (p := ⟨b, 2, none⟩) hb]
  exact ⟨h0, h1, h2⟩
/-- the parts are others -/
theorem TSt.parts (H : TSt w wr g q c y m d ps Z) {qs Y : List Pt.T} (b : Below q wr v) (hB : Pt.Block v q (qs ++ Y)) (hc : c = (qs ++ Y).length) (hs : ∀ r ∈ qs, Pt.Short r) : TSt w v g q c y m d qs Y := by
  have e := H.gw
  have lo := H.lo
  exact ⟨e, lo, H.bel.trans (b.mono (by omega)), H.day.under b (by omega), (b.block _ (by omega)).trans H.res, hB, hc, hs⟩
end
theorem Pt.own_slice {w : World} {B : Nat} {v : Value} {M : List Pt.T} (h : Pt.Own w B v M) : ∃ ao n c, v = .slice ao n c := by
  rcases h.2 with ⟨h', _⟩ | ⟨g, cap, cur, h', _⟩
  · exact ⟨_, _, _, h'⟩
  · exact ⟨_, _, _, h'⟩
theorem enter_short {c : ByteArray} {bp n : Int} (hc : c.size ≤ 140737488355328) (hb : Fit bp) {ps : List Pt.T} (hs : ∀ r ∈ ps, Pt.Short r) (he : Iv.enterE c bp n ps = 0) : ∀ r ∈ Iv.enter c bp n ps, Pt.Short r := by
  have h1 := ins_short hc hb hs
  have h2 := part_short hc hb hs
  have h3 := Iv.err_0 he
  intro r hr
  unfold Iv.enter at hr
  obtain ⟨j, hj, e'⟩ := List.getElem_of_mem hr
  rw [List.getElem_set] at e'
  split at e'
  · rw [← e']
    exact ⟨h2.1, h2.2.1, h3, h2.2.2.2⟩
  · exact h1 r (e' ▸ List.getElem_mem _)
set_option maxHeartbeats 8000000 in
theorem inv_total (rs : List Rt) (ls : List Ln.T) (ao bo : Option Addr) (n ca k0 cb : Nat) (y m d : Int) (w : World) (hR : Rts w ao n ca rs) (hL : Ln.Ls w bo k0 cb ls) (hy : Fit y) (hm : Fit m) (hd : Fit d) :
    Calls Try.prog 7 #[.slice ao n ca, dayV y m d, .slice bo k0 cb] w (Tt.Ans w (Iv.totE rs y m d ls) (Iv.totT rs y m d ls)) := by
  have HR := Lib.hid hR
  have HL := Lib.hid hL
  have HLn := Lib.hid hL.len
  have HFt := Lib.hid (And.intro hy (And.intro hm hd))
  have hcb := hL.reach
  have hfb := hL.fits
  clear hR hL hy hm hd
  obtain ⟨U, hU⟩ : ∃ U, (w.alloc (.cells #[.int .i64 y, .int .i64 m, .int .i64 d] 24)).alloc (.cells #[.int .i64 0, .int .i64 0, .int .i64 0, .slice none 0 0] 34) = U := ⟨_, rfl⟩
  have HP0 : Hid (PSt w U w.heap.size y m d) := by
    have b1 : Below w.heap.size w (w.alloc (.cells #[.int .i64 y, .int .i64 m, .int .i64 d] 24)) := (Below.refl _ _).alloc (Nat.le_refl _) _
    have b2 := Tt.below_own (w.alloc (.cells #[.int .i64 y, .int .i64 m, .int .i64 d] 24)) 0 0 0 (.slice none 0 0)
    have hA := Tt.at_box (w.alloc (.cells #[.int .i64 y, .int .i64 m, .int .i64 d] 24)) 0 0 0 (.slice none 0 0)
    rw [show (w.alloc (.cells #[.int .i64 y, .int .i64 m, .int .i64 d] 24)).heap.size = w.heap.size + 1 by simp] at hA
    exact hU ▸ ⟨rfl, bchain b1 b2, (dayC_box w y m d).below b2, hA⟩
  obtain ⟨g, hg⟩ : ∃ g, w.heap.size = g := ⟨_, rfl⟩
  have HUs : Hid (U = (w.alloc (.cells #[.int .i64 y, .int .i64 m, .int .i64 d] 24)).alloc (.cells #[.int .i64 0, .int .i64 0, .int .i64 0, .slice none 0 0] 34)) := Lib.hid hU.symm
  have HUz : Hid (U.heap.size = w.heap.size + 2) := Lib.hid (by rw [← hU]; simp)
  rw [hg] at HP0 HUz
  clear hU
  have hday := HP0.out.day
  unfold DayC at hday
  rw [HUs.out, ← hg] at hday
  obtain ⟨d0, d1, d2⟩ := hday
  unfold dayV
  go_enter Try.func7, Try.ntmps7
  go_wp2_with fail
  rw [← HUs.out]
  try rw [hg]
  clear d0 d1 d2 HUs hg
  refine (inv_ask rs ls ao n ca k0 y m d U _ (Below.refl _ _) (HR.out.below HP0.out.bel) HFt.out.1 HFt.out.2.1 HFt.out.2.2 HLn.out (by omega)).mono ?_
  rintro e w1 ⟨rfl, b1⟩
  have H1 := Lib.hid (HP0.out.below b1)
  have HR1 := Lib.hid (HR.out.below (bchain HP0.out.bel b1))
  clear b1
  by_cases hH : Iv.headE rs y m d ls = 0
  · rw [hH]
    have HH := Lib.hid hH
    have hk12 : 1 ≤ k0 ∧ k0 ≤ 12 := by
      have h1 := hH
      unfold Iv.headE at h1
      rw [← HLn.out] at h1
      split at h1
      · omega
      · split at h1
        · omega
        · split at h1
          · omega
          · split at h1
            · omega
            · omega
    obtain ⟨hk1, hk2⟩ := hk12
    have hmk := Pt.make_room k0 (by omega)
    have HS : Hid (TSt w (w1.alloc (.cells (Pt.zeros k0) 55)) g w1.heap.size k0 y m d [] (List.replicate k0 Pt.zero)) := Lib.hid (by
      have b2 : Below w1.heap.size w1 (w1.alloc (.cells (Pt.zeros k0) 55)) := (Below.refl _ _).alloc (Nat.le_refl _) _
      have h2 := H1.out.below b2
      exact ⟨h2.gw, H1.out.res.lt, h2.bel, h2.day, h2.res, Pt.block_made w1 k0, by simp, by simp⟩)
    clear hH
    go_wp2_with fail
    generalize w1.alloc (.cells (Pt.zeros k0) 55) = V at *
    generalize w1.heap.size = q at *
    clear H1 HR1 HP0 HUz hmk
    go_loopw [9, 11, 12, 13, 28] (fun p _ _ _ i wr => ∃ (k np : Nat) (ps Z : List Pt.T), k ≤ k0 ∧ i = .int .i64 k ∧ p = .slice (some ⟨q, 0, none⟩) np k0 ∧ Hid (TSt w wr g q k0 y m d ps Z) ∧ Hid (Iv.goE rs y m d (ls.drop k) ps = Iv.goE rs y m d ls [] ∧ Iv.goL rs y m d (ls.drop k) ps = Iv.goL rs y m d ls [] ∧ ps.length ≤ k ∧ np = ps.length)) (fun _ _ _ _ i _ => k0 - (intOf i).toNat)
    case atStart => exact ⟨0, 0, [], _, by omega, rfl, rfl, HS, Lib.hid ⟨rfl, rfl, Nat.le_refl _, rfl⟩⟩
    case round =>
      clear HS
      rename World => wz
      obtain ⟨k, np, ps, Z, hk, rfl, rfl, H, HG⟩ := hrel
      by_cases hlt : k < k0
      · obtain ⟨b, off, rfl⟩ := HL.out.at (by omega)
        have hkl : k < ls.length := HLn.out ▸ hlt
        have hrow := (HL.out.row k hkl).below H.out.bel
        have HSh := Lib.hid (HL.out.short _ (List.getElem_mem hkl))
        have HG1 := Lib.hid (Iv.goE_at rs y m d ls ps k hkl)
        have HG2 := Lib.hid (Iv.goL_at rs y m d ls ps k hkl)
        obtain ⟨x, hx⟩ : ∃ x, ls[k] = x := ⟨_, rfl⟩
        rw [hx] at hrow HSh HG1 HG2
        clear hx
        obtain ⟨g0, g1, g2, g3⟩ := hrow
        obtain ⟨W, hW, hbW, hC⟩ := Ln.boxed1 wz x
        have H1 := Lib.hid (H.out.below hbW)
        have HC := Lib.hid hC
        unfold Ln.C at hC
        obtain ⟨a0, a1, a2, a3⟩ := hC
        have hD := H1.out.day
        unfold DayC at hD
        obtain ⟨d0, d1, d2⟩ := hD
        clear hbW H
        go_wp2_with fail
        refine (inv_find rs x ao n ca y m d _ (HR.out.below H1.out.bel) HFt.out.1 HFt.out.2.1 HFt.out.2.2 HSh.out).mono ?_
        rintro e w2 ⟨rfl, b2⟩
        have H2 := Lib.hid (H1.out.below b2)
        have hC := HC.out.below b2
        unfold Ln.C at hC
        clear b2 hW a0 a1 a2 a3 d0 d1 d2 g0 g1 g2 g3 HC H1
        obtain ⟨a0, a1, a2, a3⟩ := hC
        have HAl := Lib.hid (Iv.ask_line (rs := rs) (y := y) (m := m) (d := d) (x := x))
        by_cases hA : Iv.askE rs y m d x = 0
        · have hV : Iv.askV rs y m d x = (Vt.find rs x.category y m d).1 := if_pos hA
          rw [if_pos hA] at HAl
          rw [hA, hV]
          have HFb := Lib.hid (find_fit HR.out.short x.category y m d)
          obtain ⟨bp, hbp⟩ : ∃ bp, (Vt.find rs x.category y m d).1 = bp := ⟨_, rfl⟩
          rw [hbp] at HFb HG1 HG2 ⊢
          clear hbp hA hV
          obtain ⟨z, Z', hZ⟩ : ∃ z Z', Z = z :: Z' := by
            cases Z with
            | nil =>
              have h1 := H2.out.len
              have h2 := HG.out.2.2.1
              rw [List.append_nil] at h1
              omega
            | cons z Z' => exact ⟨z, Z', rfl⟩
          subst hZ
          go_wp2_with fail
          refine (inv_with ps Z' z x bp q np k0 _ H2.out.blk HG.out.2.2.2 H2.out.len (by omega) HSh.out HFb.out H2.out.sh).mono ?_
          rintro e w3 ⟨b3, h3⟩
          rcases h3 with ⟨e1, e2, Y, rfl, hB, hY⟩ | ⟨e1, v, rfl⟩
          · have H3 := Lib.hid (H2.out.parts b3 hB hY (enter_short HSh.out.2.1 HFb.out H2.out.sh e2))
            rw [HAl.out, e1, if_neg (by simp), e2, if_neg (by simp)] at HG1
            obtain ⟨qs, hqs⟩ : ∃ qs, Iv.enter x.category bp (x.count * x.price) ps = qs := ⟨_, rfl⟩
            have HQl : Hid (qs.length ≤ k + 1) := Lib.hid (by rw [← hqs]; exact Nat.le_trans (Iv.enter_len ps) (by have := HG.out.2.2.1; omega))
            rw [hqs] at H3 HG1 HG2 ⊢
            obtain ⟨nq, hnq⟩ : ∃ nq, qs.length = nq := ⟨_, rfl⟩
            have HNq := Lib.hid hnq
            rw [hnq]
            clear hqs hnq b3 hB hY e1 e2 H2 a0 a1 a2 a3
            go_wp2_with fail
            go_roundw
            case rel => exact ⟨k + 1, nq, qs, Y, by omega, by go_num, rfl, H3, Lib.hid ⟨by rw [← HG1.out]; exact HG.out.1, by rw [← HG2.out]; exact HG.out.2.1, HQl.out, HNq.out.symm⟩⟩
            case measure => simp [intOf]; omega
          · have hE7 : Iv.goE rs y m d (ls.drop k) ps = 7 := by
              rw [HG1.out, HAl.out]
              rcases Mn.err_two (x.count * x.price) with e3 | e3
              · rw [e3] at e1 ⊢
                rw [if_neg (by simp), if_pos (e1.resolve_left (by simp))]
              · rw [e3]
                rfl
            have HP := Lib.hid (Iv.tot_line HH.out (by rw [← HG.out.1, hE7]; omega))
            rw [← HG.out.1, hE7] at HP
            have lo := H2.out.lo
            have HRs : Hid (PSt w w3 g y m d) := Lib.hid ⟨H2.out.gw, H2.out.bel.trans (b3.mono (by have := H2.out.gw; omega)), H2.out.day.under b3 (by omega), (b3.block _ (by omega)).trans H2.out.res⟩
            clear hE7 e1 b3 H2 a0 a1 a2 a3 lo
            obtain ⟨z0, z1, z2, z3⟩ := HRs.out.res.cells
            have f0 := HRs.out.res.frozen 0
            have f1 := HRs.out.res.frozen 1
            have f2 := HRs.out.res.frozen 2
            have f3 := HRs.out.res.frozen 3
            have HBe := Lib.hid (And.intro HRs.out.bel HRs.out.gw)
            go_wp2_with fail
            exact bodyPost_ret (v := .tuple #[Tt.val 0 0 0 (.slice none 0 0), .int .i64 7]) (by simp [results, Tt.val, Try.results7, go_sem, z0, z1, z2, z3]) rfl ⟨_, by rw [HP.out.1, HP.out.2]; rfl, by rw [HP.out.2]; exact Pt.own_nil _ _, Mem.bset (Mem.bset (Mem.bset (Mem.bset HBe.out.1 (by have := HBe.out.2; omega) _ _) (by have := HBe.out.2; omega) _ _) (by have := HBe.out.2; omega) _ _) (by have := HBe.out.2; omega) _ _⟩
        · rw [if_neg hA] at HAl
          obtain ⟨E, hE⟩ : ∃ E, Iv.askE rs y m d x = E := ⟨_, rfl⟩
          rw [hE] at HAl hA ⊢
          obtain ⟨bv, hbv⟩ : ∃ bv, Iv.askV rs y m d x = bv := ⟨_, rfl⟩
          rw [hbv]
          have hE7 : Iv.goE rs y m d (ls.drop k) ps = E := by
            rw [HG1.out, HAl.out, if_pos hA]
          have HP := Lib.hid (Iv.tot_line HH.out (by rw [← HG.out.1, hE7]; exact hA))
          rw [← HG.out.1, hE7] at HP
          have hne : (E != 0) = true := bne_iff_ne.2 hA
          clear hE hbv hE7 hA a0 a1 a2 a3
          obtain ⟨z0, z1, z2, z3⟩ := H2.out.res.cells
          have f0 := H2.out.res.frozen 0
          have f1 := H2.out.res.frozen 1
          have f2 := H2.out.res.frozen 2
          have f3 := H2.out.res.frozen 3
          have HBe := Lib.hid (And.intro H2.out.bel H2.out.gw)
          go_wp2_with fail
          exact bodyPost_ret (v := .tuple #[Tt.val 0 0 0 (.slice none 0 0), .int .i64 E]) (by simp [results, Tt.val, Try.results7, go_sem, z0, z1, z2, z3]) rfl ⟨_, by rw [HP.out.1, HP.out.2]; rfl, by rw [HP.out.2]; exact Pt.own_nil _ _, Mem.bset (Mem.bset (Mem.bset (Mem.bset HBe.out.1 (by have := HBe.out.2; omega) _ _) (by have := HBe.out.2; omega) _ _) (by have := HBe.out.2; omega) _ _) (by have := HBe.out.2; omega) _ _⟩
      · obtain rfl : k = k0 := by omega
        have HGo : Hid (Iv.goE rs y m d ls [] = 0 ∧ Iv.goL rs y m d ls [] = ps) := Lib.hid (by
          have h := HG.out
          rw [List.drop_eq_nil_of_le (Nat.le_of_eq HLn.out.symm)] at h
          exact ⟨h.1.symm, h.2.1.symm⟩)
        have HSum := Lib.hid (Iv.tot_sum HH.out HGo.out.1)
        rw [HGo.out.2] at HSum
        go_wp2_with fail
        refine (inv_whole ps Z q np k _ H.out.blk HG.out.2.2.2 H.out.len (by omega) H.out.sh).mono ?_
        rintro e w3 ⟨v, rfl, hO, b3⟩
        have lo := H.out.lo
        have HRs : Hid (PSt w w3 g y m d) := Lib.hid ⟨H.out.gw, H.out.bel.trans (b3.mono (by have := H.out.gw; omega)), H.out.day.under b3 (by omega), (b3.block _ (by omega)).trans H.out.res⟩
        have HO := Lib.hid (Pt.own_mono hO (show g + 2 ≤ q from lo))
        have HT : Hid (Iv.totE rs y m d ls = Iv.sumE ps ∧ Iv.totT rs y m d ls = Iv.sumW ps) := Lib.hid HSum.out
        obtain ⟨E, hE⟩ : ∃ E, Iv.sumE ps = E := ⟨_, rfl⟩
        obtain ⟨T, hT⟩ : ∃ T, Iv.sumW ps = T := ⟨_, rfl⟩
        rw [hE, hT] at HT ⊢
        rw [hT] at HO
        obtain ⟨N, X, G, qs⟩ := T
        clear hE hT hO b3 lo HSum H
        unfold Tt.val
        obtain ⟨z0, z1, z2, z3⟩ := HRs.out.res.cells
        have f0 := HRs.out.res.frozen 0
        have f1 := HRs.out.res.frozen 1
        have f2 := HRs.out.res.frozen 2
        have f3 := HRs.out.res.frozen 3
        have HBe := Lib.hid (And.intro HRs.out.bel HRs.out.gw)
        obtain ⟨vo, vn, vc, rfl⟩ := Pt.own_slice HO.out
        go_wp2_with fail
        refine bodyPost_ret (v := .tuple #[Tt.val N X G (.slice vo vn vc), .int .i64 E]) (by simp [results, Tt.val, Try.results7, go_sem, z0, z1, z2, z3]) rfl ⟨.slice vo vn vc, by rw [HT.out.1, HT.out.2], ?_, Mem.bset (Mem.bset (Mem.bset (Mem.bset HBe.out.1 (by have := HBe.out.2; omega) _ _) (by have := HBe.out.2; omega) _ _) (by have := HBe.out.2; omega) _ _) (by have := HBe.out.2; omega) _ _⟩
        rw [HT.out.2]
        have ho : Pt.Own _ (g + 2) (.slice vo vn vc) qs := Pt.own_far (Pt.own_far (Pt.own_far (Pt.own_far HO.out (b := g + 1) (by omega) 0 (.int .i64 N)) (b := g + 1) (by omega) 1 (.int .i64 X)) (b := g + 1) (by omega) 2 (.int .i64 G)) (b := g + 1) (by omega) 3 (.slice vo vn vc)
        exact Pt.own_mono ho (by have := HBe.out.2; omega)
  · have HP := Lib.hid (Iv.tot_head hH)
    obtain ⟨E, hE⟩ : ∃ E, Iv.headE rs y m d ls = E := ⟨_, rfl⟩
    rw [hE] at HP hH ⊢
    have hne : (E != 0) = true := bne_iff_ne.2 hH
    clear hE hH
    obtain ⟨z0, z1, z2, z3⟩ := H1.out.res.cells
    have f0 := H1.out.res.frozen 0
    have f1 := H1.out.res.frozen 1
    have f2 := H1.out.res.frozen 2
    have f3 := H1.out.res.frozen 3
    have HBe := Lib.hid (And.intro H1.out.bel H1.out.gw)
    go_wp2_with fail
    exact bodyPost_ret (v := .tuple #[Tt.val 0 0 0 (.slice none 0 0), .int .i64 E]) (by simp [results, Tt.val, Try.results7, go_sem, z0, z1, z2, z3]) rfl ⟨_, by rw [HP.out.1, HP.out.2]; rfl, by rw [HP.out.2]; exact Pt.own_nil _ _, Mem.bset (Mem.bset (Mem.bset (Mem.bset HBe.out.1 (by have := HBe.out.2; omega) _ _) (by have := HBe.out.2; omega) _ _) (by have := HBe.out.2; omega) _ _) (by have := HBe.out.2; omega) _ _⟩
end Go.Proofs.Ythcaecinjmnlbab
