/- THE DOCUMENT's OWN ANSWER: impostref8's Total. (By genrtot.py.) -/
import Derived.Test.YthcaecinjmnlbaaRtS
import Derived.Test.YthcaecinjmnlbaaHi
import Derived.Test.YthcaecinjmnlbaaHc
import Derived.Test.YthcaecinjmnlbaaAnyP
import Derived.Deep.RegionHeld3
import Derived.Deep.RegionLaw
import Derived.Deep.DeepCutAuto
import Derived.Deep.CutBlock
set_option maxRecDepth 100000
namespace Go.Proofs.Ythcaecinjmnlbaa
open Go.RowKit
open Vt (Rt)
open Go.Sort (grow)

set_option maxHeartbeats 8000000 in
theorem rtotal_any (rs : List Rt) (ls : List Ln.T) (ao bo : Option Addr) (n ca k0 cb : Nat) (y m d : Int) (w : World) (hR : Rts w ao n ca rs) (hL : Ln.Ls w bo k0 cb ls) :
    Calls Try.prog 15 #[.slice ao n ca, dayV y m d, .slice bo k0 cb] w (Tt.Ans w (Iv.totE rs y m d ls) (Iv.totT rs y m d ls)) := by
  have HR := Lib.hid hR
  have HL := Lib.hid hL
  have HLn := Lib.hid hL.len
  have hcb := hL.reach
  have hfb := hL.fits
  clear hR hL
  obtain ⟨U, hU⟩ : ∃ U, (w.alloc (.cells #[.int .i64 y, .int .i64 m, .int .i64 d] 23)).alloc (.cells #[.int .i64 0, .int .i64 0, .int .i64 0, .slice none 0 0] 30) = U := ⟨_, rfl⟩
  have HP0 : Hid (PSt w U w.heap.size y m d) := by
    have b1 : Below w.heap.size w (w.alloc (.cells #[.int .i64 y, .int .i64 m, .int .i64 d] 23)) := (Below.refl _ _).alloc (Nat.le_refl _) _
    have b2 := Tt.below_own (w.alloc (.cells #[.int .i64 y, .int .i64 m, .int .i64 d] 23)) 0 0 0 (.slice none 0 0)
    have hA := Tt.at_box (w.alloc (.cells #[.int .i64 y, .int .i64 m, .int .i64 d] 23)) 0 0 0 (.slice none 0 0)
    rw [show (w.alloc (.cells #[.int .i64 y, .int .i64 m, .int .i64 d] 23)).heap.size = w.heap.size + 1 by simp] at hA
    rw [← hU]
    exact ⟨rfl, bchain b1 b2, (dayC_box w y m d).below b2, hA⟩
  unfold dayV
  go_enter Try.func15, Try.ntmps15
  go_wp2_with fail
  clear hU
  refine (refTable_any rs ao n ca U _ (Below.refl _ _) (HR.out.below HP0.out.bel)).mono ?_
  rintro e w1 ⟨rfl, b1⟩
  have HP1 := Lib.hid (HP0.out.below b1)
  clear b1 HP0
  cases hT : Vt.tableB rs
  · have HP := Lib.hid (Iv.tot_head (rs := rs) (y := y) (m := m) (d := d) (ls := ls) (by rw [head_1 hT]; omega))
    rw [head_1 hT] at HP
    clear hT
    obtain ⟨z0, z1, z2, z3⟩ := HP1.out.res.cells
    have f0 := HP1.out.res.frozen 0
    have f1 := HP1.out.res.frozen 1
    have f2 := HP1.out.res.frozen 2
    have f3 := HP1.out.res.frozen 3
    have HBe := Lib.hid (And.intro HP1.out.bel HP1.out.gw)
    go_wp2_with fail
    exact bodyPost_ret (v := .tuple #[Tt.val 0 0 0 (.slice none 0 0), .int .i64 1]) (by simp [results, Tt.val, Try.results15, go_sem, z0, z1, z2, z3]) rfl ⟨_, by rw [HP.out.1, HP.out.2]; rfl, by rw [HP.out.2]; exact Pt.own_nil _ _, Mem.bset (Mem.bset (Mem.bset (Mem.bset HBe.out.1 (by have := HBe.out.2; omega) _ _) (by have := HBe.out.2; omega) _ _) (by have := HBe.out.2; omega) _ _) (by have := HBe.out.2; omega) _ _⟩
  · have HTT := Lib.hid hT
    have hC := HP1.out.day
    unfold DayC at hC
    obtain ⟨d0, d1, d2⟩ := hC
    clear hT
    go_wp2_with fail
    refine (refRight_any y m d w1 _ (Below.refl _ _)).mono ?_
    rintro e w2 ⟨rfl, b2⟩
    have HP2 := Lib.hid (HP1.out.below b2)
    clear b2 HP1 d0 d1 d2
    cases hD : Dt.rightB y m d
    · have HP := Lib.hid (Iv.tot_head (rs := rs) (y := y) (m := m) (d := d) (ls := ls) (by rw [head_9 HTT.out hD]; omega))
      rw [head_9 HTT.out hD] at HP
      clear hD
      obtain ⟨z0, z1, z2, z3⟩ := HP2.out.res.cells
      have f0 := HP2.out.res.frozen 0
      have f1 := HP2.out.res.frozen 1
      have f2 := HP2.out.res.frozen 2
      have f3 := HP2.out.res.frozen 3
      have HBe := Lib.hid (And.intro HP2.out.bel HP2.out.gw)
      go_wp2_with fail
      exact bodyPost_ret (v := .tuple #[Tt.val 0 0 0 (.slice none 0 0), .int .i64 9]) (by simp [results, Tt.val, Try.results15, go_sem, z0, z1, z2, z3]) rfl ⟨_, by rw [HP.out.1, HP.out.2]; rfl, by rw [HP.out.2]; exact Pt.own_nil _ _, Mem.bset (Mem.bset (Mem.bset (Mem.bset HBe.out.1 (by have := HBe.out.2; omega) _ _) (by have := HBe.out.2; omega) _ _) (by have := HBe.out.2; omega) _ _) (by have := HBe.out.2; omega) _ _⟩
    · have HDD := Lib.hid hD
      clear hD
      by_cases hk0 : k0 = 0
      · have hq : ((k0 : Int) == 0) = true := beq_iff_eq.2 (by omega)
        have HP := Lib.hid (Iv.tot_head (rs := rs) (y := y) (m := m) (d := d) (ls := ls) (by rw [head_11 HTT.out HDD.out (by rw [← HLn.out]; exact hk0)]; omega))
        rw [head_11 HTT.out HDD.out (by rw [← HLn.out]; exact hk0)] at HP
        clear hk0
        obtain ⟨z0, z1, z2, z3⟩ := HP2.out.res.cells
        have f0 := HP2.out.res.frozen 0
        have f1 := HP2.out.res.frozen 1
        have f2 := HP2.out.res.frozen 2
        have f3 := HP2.out.res.frozen 3
        have HBe := Lib.hid (And.intro HP2.out.bel HP2.out.gw)
        go_wp2_with fail
        exact bodyPost_ret (v := .tuple #[Tt.val 0 0 0 (.slice none 0 0), .int .i64 1]) (by simp [results, Tt.val, Try.results15, go_sem, z0, z1, z2, z3]) rfl ⟨_, by rw [HP.out.1, HP.out.2]; rfl, by rw [HP.out.2]; exact Pt.own_nil _ _, Mem.bset (Mem.bset (Mem.bset (Mem.bset HBe.out.1 (by have := HBe.out.2; omega) _ _) (by have := HBe.out.2; omega) _ _) (by have := HBe.out.2; omega) _ _) (by have := HBe.out.2; omega) _ _⟩
      · have hq : ((k0 : Int) == 0) = false := beq_eq_false_iff_ne.2 (by omega)
        have hk0' : ls.length ≠ 0 := by rw [← HLn.out]; exact hk0
        by_cases h12 : 12 < k0
        · have HP := Lib.hid (Iv.tot_head (rs := rs) (y := y) (m := m) (d := d) (ls := ls) (by rw [head_2 HTT.out HDD.out hk0' (by rw [← HLn.out]; exact h12)]; omega))
          rw [head_2 HTT.out HDD.out hk0' (by rw [← HLn.out]; exact h12)] at HP
          clear hk0'
          obtain ⟨z0, z1, z2, z3⟩ := HP2.out.res.cells
          have f0 := HP2.out.res.frozen 0
          have f1 := HP2.out.res.frozen 1
          have f2 := HP2.out.res.frozen 2
          have f3 := HP2.out.res.frozen 3
          have HBe := Lib.hid (And.intro HP2.out.bel HP2.out.gw)
          go_wp2_with fail
          exact bodyPost_ret (v := .tuple #[Tt.val 0 0 0 (.slice none 0 0), .int .i64 2]) (by simp [results, Tt.val, Try.results15, go_sem, z0, z1, z2, z3]) rfl ⟨_, by rw [HP.out.1, HP.out.2]; rfl, by rw [HP.out.2]; exact Pt.own_nil _ _, Mem.bset (Mem.bset (Mem.bset (Mem.bset HBe.out.1 (by have := HBe.out.2; omega) _ _) (by have := HBe.out.2; omega) _ _) (by have := HBe.out.2; omega) _ _) (by have := HBe.out.2; omega) _ _⟩
        · have HH := Lib.hid (head_0 (ls := ls) HTT.out HDD.out hk0' (by rw [← HLn.out]; exact h12))
          clear hk0'
          have HS : Hid (RSt w (Tt.box w2 0 0 0 (.slice none 0 0)) w.heap.size w2.heap.size y m d 0 0 none 0 0 []) := by
            have hl := HP2.out.res.lt
            exact ⟨HP2.out.below (Tt.below_own w2 0 0 0 (.slice none 0 0)), by omega, Tt.at_box w2 0 0 0 (.slice none 0 0), Pt.own_nil _ _, by simp⟩
          go_wp2_with fail
          rw [show w2.alloc (.cells #[.int .i64 0, .int .i64 0, .int .i64 0, .slice none 0 0] 30) = Tt.box w2 0 0 0 (.slice none 0 0) from rfl]
          clear HP2
          generalize Tt.box w2 0 0 0 (.slice none 0 0) = V at *
          generalize w2.heap.size = g2 at *
          obtain ⟨g, hg⟩ : ∃ g, w.heap.size = g := ⟨_, rfl⟩
          have HGw := Lib.hid hg
          rw [hg] at HS
          rw [hg]
          clear hg
          go_loopw [9, 10, 11, 12, 13, 14, 15] (fun i _ _ _ _ _ _ wr => ∃ (k : Nat) (vo : Option Addr) (q vc : Nat) (ps : List Pt.T), k ≤ k0 ∧ i = .int .i64 k ∧ Hid (RSt w wr g g2 y m d 0 0 vo q vc ps) ∧ Hid (Iv.goE rs y m d (ls.drop k) ps = Iv.goE rs y m d ls [] ∧ Iv.goL rs y m d (ls.drop k) ps = Iv.goL rs y m d ls [] ∧ ps.length ≤ k)) (fun i _ _ _ _ _ _ _ => k0 - (intOf i).toNat)
          case atStart => exact ⟨0, none, 0, 0, [], by omega, rfl, HS, Lib.hid ⟨rfl, rfl, Nat.le_refl _⟩⟩
          case round =>
            clear HS
            rename World => wz
            obtain ⟨k, vo, q, vc, ps, hk, rfl, H, HG⟩ := hrel
            by_cases hlt : k < k0
            · obtain ⟨b, off, rfl⟩ := HL.out.at (by omega)
              have hkl : k < ls.length := HLn.out ▸ hlt
              have hrow := (HL.out.row k hkl).below H.out.pst.bel
              have HSh := Lib.hid (HL.out.short _ (List.getElem_mem hkl))
              have HG1 := Lib.hid (Iv.goE_at rs y m d ls ps k hkl)
              have HG2 := Lib.hid (Iv.goL_at rs y m d ls ps k hkl)
              generalize ls[k] = x at *
              obtain ⟨g0, g1, g2', g3⟩ := hrow
              have HC := Lib.hid (Ln.c_box wz x)
              have H1 := Lib.hid (H.out.below (Ln.below_own wz x))
              have hC := HC.out
              unfold Ln.C at hC
              rw [show Ln.box wz x = wz.alloc (.cells #[.string x.text, .string x.category, .int .i64 x.count, .int .i64 x.price] 35) from rfl] at hC
              obtain ⟨x0, x1, x2, x3⟩ := hC
              clear H
              by_cases h64 : 64 < x.text.size
              · have hE := line_2 (rs := rs) (y := y) (m := m) (d := d) h64
                have HP := Lib.hid (Iv.tot_line HH.out (by rw [← HG.out.1, HG1.out, hE]; simp))
                rw [← HG.out.1, HG1.out, hE, if_pos (by omega)] at HP
                clear hE
                rw [show Ln.box wz x = wz.alloc (.cells #[.string x.text, .string x.category, .int .i64 x.count, .int .i64 x.price] 35) from rfl] at H1
                obtain ⟨z0, z1, z2, z3⟩ := H1.out.pst.res.cells
                have f0 := H1.out.pst.res.frozen 0
                have f1 := H1.out.pst.res.frozen 1
                have f2 := H1.out.pst.res.frozen 2
                have f3 := H1.out.pst.res.frozen 3
                have HBe := Lib.hid (And.intro H1.out.pst.bel H1.out.pst.gw)
                go_wp2_with fail
                exact bodyPost_ret (v := .tuple #[Tt.val 0 0 0 (.slice none 0 0), .int .i64 2]) (by simp [results, Tt.val, Try.results15, go_sem, z0, z1, z2, z3]) rfl ⟨_, by rw [HP.out.1, HP.out.2]; rfl, by rw [HP.out.2]; exact Pt.own_nil _ _, Mem.bset (Mem.bset (Mem.bset (Mem.bset HBe.out.1 (by have := HBe.out.2; omega) _ _) (by have := HBe.out.2; omega) _ _) (by have := HBe.out.2; omega) _ _) (by have := HBe.out.2; omega) _ _⟩
              · have H64 := Lib.hid h64
                go_wp2_with fail
                rw [show wz.alloc (.cells #[.string x.text, .string x.category, .int .i64 x.count, .int .i64 x.price] 35) = Ln.box wz x from rfl]
                clear x0 x1 x2 x3 g0 g1 g2' g3
                generalize Ln.box wz x = X1 at *
                generalize wz.heap.size = gx at *
                refine (refName_gen x.category X1 _ (Below.refl _ _) HSh.out.2.1).mono ?_
                rintro e w3 ⟨rfl, b3⟩
                have H2 := Lib.hid (H1.out.below b3)
                have HC2 := Lib.hid (HC.out.below b3)
                clear b3 H1 HC
                have hC := HC2.out
                unfold Ln.C at hC
                obtain ⟨x0, x1, x2, x3⟩ := hC
                cases hn : Rn.name (txt x.category)
                · have hE := line_8 (rs := rs) (y := y) (m := m) (d := d) H64.out hn
                  have HP := Lib.hid (Iv.tot_line HH.out (by rw [← HG.out.1, HG1.out, hE]; simp))
                  rw [← HG.out.1, HG1.out, hE, if_pos (by omega)] at HP
                  clear hE hn
                  obtain ⟨z0, z1, z2, z3⟩ := H2.out.pst.res.cells
                  have f0 := H2.out.pst.res.frozen 0
                  have f1 := H2.out.pst.res.frozen 1
                  have f2 := H2.out.pst.res.frozen 2
                  have f3 := H2.out.pst.res.frozen 3
                  have HBe := Lib.hid (And.intro H2.out.pst.bel H2.out.pst.gw)
                  go_wp2_with fail
                  exact bodyPost_ret (v := .tuple #[Tt.val 0 0 0 (.slice none 0 0), .int .i64 8]) (by simp [results, Tt.val, Try.results15, go_sem, z0, z1, z2, z3]) rfl ⟨_, by rw [HP.out.1, HP.out.2]; rfl, by rw [HP.out.2]; exact Pt.own_nil _ _, Mem.bset (Mem.bset (Mem.bset (Mem.bset HBe.out.1 (by have := HBe.out.2; omega) _ _) (by have := HBe.out.2; omega) _ _) (by have := HBe.out.2; omega) _ _) (by have := HBe.out.2; omega) _ _⟩
                · have HNm := Lib.hid hn
                  clear hn
                  by_cases hc1 : x.count < 1
                  · have hE := line_1 (rs := rs) (y := y) (m := m) (d := d) H64.out HNm.out (.inl hc1)
                    have HP := Lib.hid (Iv.tot_line HH.out (by rw [← HG.out.1, HG1.out, hE]; simp))
                    rw [← HG.out.1, HG1.out, hE, if_pos (by omega)] at HP
                    clear hE
                    obtain ⟨z0, z1, z2, z3⟩ := H2.out.pst.res.cells
                    have f0 := H2.out.pst.res.frozen 0
                    have f1 := H2.out.pst.res.frozen 1
                    have f2 := H2.out.pst.res.frozen 2
                    have f3 := H2.out.pst.res.frozen 3
                    have HBe := Lib.hid (And.intro H2.out.pst.bel H2.out.pst.gw)
                    go_wp2_with fail
                    exact bodyPost_ret (v := .tuple #[Tt.val 0 0 0 (.slice none 0 0), .int .i64 1]) (by simp [results, Tt.val, Try.results15, go_sem, z0, z1, z2, z3]) rfl ⟨_, by rw [HP.out.1, HP.out.2]; rfl, by rw [HP.out.2]; exact Pt.own_nil _ _, Mem.bset (Mem.bset (Mem.bset (Mem.bset HBe.out.1 (by have := HBe.out.2; omega) _ _) (by have := HBe.out.2; omega) _ _) (by have := HBe.out.2; omega) _ _) (by have := HBe.out.2; omega) _ _⟩
                  · by_cases hc2 : 1048576 < x.count
                    · have hE := line_1 (rs := rs) (y := y) (m := m) (d := d) H64.out HNm.out (.inr hc2)
                      have HP := Lib.hid (Iv.tot_line HH.out (by rw [← HG.out.1, HG1.out, hE]; simp))
                      rw [← HG.out.1, HG1.out, hE, if_pos (by omega)] at HP
                      clear hE
                      obtain ⟨z0, z1, z2, z3⟩ := H2.out.pst.res.cells
                      have f0 := H2.out.pst.res.frozen 0
                      have f1 := H2.out.pst.res.frozen 1
                      have f2 := H2.out.pst.res.frozen 2
                      have f3 := H2.out.pst.res.frozen 3
                      have HBe := Lib.hid (And.intro H2.out.pst.bel H2.out.pst.gw)
                      go_wp2_with fail
                      exact bodyPost_ret (v := .tuple #[Tt.val 0 0 0 (.slice none 0 0), .int .i64 1]) (by simp [results, Tt.val, Try.results15, go_sem, z0, z1, z2, z3]) rfl ⟨_, by rw [HP.out.1, HP.out.2]; rfl, by rw [HP.out.2]; exact Pt.own_nil _ _, Mem.bset (Mem.bset (Mem.bset (Mem.bset HBe.out.1 (by have := HBe.out.2; omega) _ _) (by have := HBe.out.2; omega) _ _) (by have := HBe.out.2; omega) _ _) (by have := HBe.out.2; omega) _ _⟩
                    · have HCt : Hid (¬ (x.count < 1 ∨ 1048576 < x.count)) := Lib.hid (by omega)
                      have hC := H2.out.pst.day
                      unfold DayC at hC
                      obtain ⟨d0, d1, d2⟩ := hC
                      go_wp2_with fail
                      refine (refFind_any rs ao n ca x.category y m d w3 _ (Below.refl _ _) (HR.out.below H2.out.pst.bel)).mono ?_
                      rintro e w4 ⟨rfl, b4⟩
                      have HBp := Lib.hid (find_fit HR.out.short x.category y m d)
                      have H3 := Lib.hid (H2.out.below b4)
                      have HC3 := Lib.hid (HC2.out.below b4)
                      clear b4 H2 HC2 x0 x1 x2 x3 d0 d1 d2
                      obtain ⟨⟨bp, f⟩, hf⟩ : ∃ r, Vt.find rs x.category y m d = r := ⟨_, rfl⟩
                      have HF := Lib.hid hf
                      rw [hf] at HBp HG1 HG2
                      rw [hf]
                      clear hf
                      unfold foundE
                      dsimp only at HBp HG1 HG2 ⊢
                      have hC := HC3.out
                      unfold Ln.C at hC
                      obtain ⟨x0, x1, x2, x3⟩ := hC
                      cases f
                      · have hE := line_10 H64.out HNm.out HCt.out (by rw [HF.out])
                        have HP := Lib.hid (Iv.tot_line HH.out (by rw [← HG.out.1, HG1.out, hE]; simp))
                        rw [← HG.out.1, HG1.out, hE, if_pos (by omega)] at HP
                        clear hE
                        obtain ⟨z0, z1, z2, z3⟩ := H3.out.pst.res.cells
                        have f0 := H3.out.pst.res.frozen 0
                        have f1 := H3.out.pst.res.frozen 1
                        have f2 := H3.out.pst.res.frozen 2
                        have f3 := H3.out.pst.res.frozen 3
                        have HBe := Lib.hid (And.intro H3.out.pst.bel H3.out.pst.gw)
                        go_wp2_with fail
                        exact bodyPost_ret (v := .tuple #[Tt.val 0 0 0 (.slice none 0 0), .int .i64 10]) (by simp [results, Tt.val, Try.results15, go_sem, z0, z1, z2, z3]) rfl ⟨_, by rw [HP.out.1, HP.out.2]; rfl, by rw [HP.out.2]; exact Pt.own_nil _ _, Mem.bset (Mem.bset (Mem.bset (Mem.bset HBe.out.1 (by have := HBe.out.2; omega) _ _) (by have := HBe.out.2; omega) _ _) (by have := HBe.out.2; omega) _ _) (by have := HBe.out.2; omega) _ _⟩
                      · have HLe := Lib.hid (line_err H64.out HNm.out HCt.out (by rw [HF.out]))
                        go_wp2_with fail
                        refine (refMul_any x.count x.price _ HSh.out.2.2.1 HSh.out.2.2.2).mono ?_
                        rintro e w5 ⟨rfl, hw5⟩
                        subst hw5
                        unfold both
                        rcases Mn.err_two (x.count * x.price) with e1 | e1
                        · rw [e1, Mn.amt_fit (Iv.err_0 e1)]
                          have HN := Lib.hid (Iv.err_0 e1)
                          rw [HLe.out, e1, if_neg (by simp)] at HG1
                          clear e1 HLe hc1 hc2 h64
                          obtain ⟨nn, hnn⟩ : ∃ nn, x.count * x.price = nn := ⟨_, rfl⟩
                          rw [hnn] at HN HG1 HG2
                          rw [hnn]
                          clear hnn
                          obtain ⟨c, hc⟩ : ∃ c, x.category = c := ⟨_, rfl⟩
                          have HCs : Hid (c.size ≤ 140737488355328) := Lib.hid (hc ▸ HSh.out.2.1)
                          rw [hc] at x1 HG1 HG2
                          obtain ⟨hq1, hq2, hq3, hLs⟩ := H3.out.len
                          have HQ := Lib.hid hq1
                          have HLs := Lib.hid hLs
                          have HCc : Hid (w5.cell? ⟨gx, 1, none⟩ = some (.string c)) := Lib.hid x1
                          have hat := H3.out.tot.cells.2.2.2
                          clear hq1 hLs x0 x2 x3 hc
                          go_upto_block 3 with fail
                          go_cut [15] (fun s wx => s = .int .i64 ((Iv.spot c ps : Nat) : Int) ∧ Hid (Below w5.heap.size w5 wx))
                          case first =>
                            go_wp2_with fail
                            go_loopw [15] (fun i wr => ∃ j : Nat, j ≤ q ∧ i = .int .i64 j ∧ Hid (j + Iv.spot c (ps.drop j) = Iv.spot c ps) ∧ Hid (Below w5.heap.size w5 wr)) (fun i _ => q - (intOf i).toNat)
                            case atStart => exact ⟨0, by omega, rfl, Lib.hid (Nat.zero_add _), Lib.hid (Below.refl _ _)⟩
                            case round =>
                              rename World => wy
                              obtain ⟨j, hj, rfl, HK, HB⟩ := hrel
                              have t3 : wy.cell? ⟨g2, 3, none⟩ = some (.slice vo q vc) := by
                                rw [(bcell HB.out).1 _ _ (Mem.cell_lt hat)]
                                exact hat
                              have t1 : wy.cell? ⟨gx, 1, none⟩ = some (.string c) := by
                                rw [(bcell HB.out).1 _ _ (Mem.cell_lt x1)]
                                exact x1
                              have k3 := cell_regrown t3
                              have k1 := cell_regrown t1
                              by_cases hjq : j < q
                              · obtain ⟨b1, o1, rfl⟩ := HLs.out.at (by omega)
                                have hjp : j < ps.length := HQ.out ▸ hjq
                                have hrow := (HLs.out.row j hjp).below HB.out
                                have HSt := Lib.hid (Iv.spot_at c ps j hjp)
                                generalize ps[j] = p at *
                                obtain ⟨g0, g1, g2', g3⟩ := hrow
                                have k0' := cell_regrown g0
                                unfold Iv.lt at HSt
                                cases hqr : Op.bytesLess p.cat.toList c.toList
                                · rw [hqr, if_neg (by simp)] at HSt
                                  have HSp : Hid (Iv.spot c ps = j) := Lib.hid (by rw [← HK.out, HSt.out]; rfl)
                                  go_wp2
                                  refine wp_region_quiet_below (by kernel_rfl) (by kernel_rfl) ?_
                                  repeat (first | go_big_quiet_step (fail) | quiet_step (fail))
                                  refine wpQuiet_nil ?_
                                  intro _ hw'
                                  obtain ⟨⟨dq, osq⟩, hw''⟩ := hw'
                                  subst hw''
                                  have HX := Lib.hid (below_regrown wy dq osq)
                                  go_wp2
                                  go_meet
                                  exact ⟨by rw [HSp.out], Lib.hid (bchain HB.out HX.out)⟩
                                · rw [hqr, if_pos rfl] at HSt
                                  go_wp2
                                  refine wp_region_quiet_below (by kernel_rfl) (by kernel_rfl) ?_
                                  repeat (first | go_big_quiet_step (fail) | quiet_step (fail))
                                  refine wpQuiet_nil ?_
                                  intro _ hw'
                                  obtain ⟨⟨dq, osq⟩, hw''⟩ := hw'
                                  subst hw''
                                  have HX := Lib.hid (below_regrown wy dq osq)
                                  go_wp2
                                  go_wp2
                                  go_roundw
                                  case rel => exact ⟨j + 1, by omega, by go_num, Lib.hid (by rw [← HK.out, HSt.out]; omega), Lib.hid (bchain HB.out HX.out)⟩
                                  case measure => simp [intOf]; omega
                              · obtain rfl : j = q := by omega
                                have HSp : Hid (Iv.spot c ps = j) := Lib.hid (by rw [← HK.out, List.drop_eq_nil_of_le (Nat.le_of_eq HQ.out.symm)]; rfl)
                                go_wp2
                                refine wp_region_quiet_below (by kernel_rfl) (by kernel_rfl) ?_
                                repeat (first | go_big_quiet_step (fail) | quiet_step (fail))
                                refine wpQuiet_nil ?_
                                intro _ hw'
                                obtain ⟨⟨dq, osq⟩, hw''⟩ := hw'
                                subst hw''
                                have HX := Lib.hid (below_regrown wy dq osq)
                                go_wp2
                                go_meet
                                exact ⟨by rw [HSp.out], Lib.hid (bchain HB.out HX.out)⟩
                          case rest =>
                            obtain ⟨rfl, HX⟩ := hcut
                            rename World => wq
                            clear hat x1
                            have H4 := Lib.hid (H3.out.below HX.out)
                            have HL4 := Lib.hid (HLs.out.below HX.out)
                            have t3 := H4.out.tot.cells.2.2.2
                            have t1 : wq.cell? ⟨gx, 1, none⟩ = some (.string c) := by
                              rw [(bcell HX.out).1 _ _ (Mem.cell_lt HCc.out)]
                              exact HCc.out
                            have HC4 := Lib.hid t1
                            have HPs := Lib.hid (part_short HCs.out HBp.out H4.out.sh)
                            have HIn := Lib.hid (Iv.ins_at (c := c) (bp := bp) ps)
                            have HIl := Lib.hid (Iv.ins_lt (c := c) (bp := bp) ps)
                            have HSq : Hid (Iv.spot c ps ≤ q) := Lib.hid (by rw [HQ.out]; exact Iv.spot_le c ps)
                            have HHas := Lib.hid (Iv.has_spot c ps)
                            have HNew : Hid (Iv.has c ps = false → Iv.ins c bp ps = ps.take (Iv.spot c ps) ++ ⟨c, bp, 0, 0⟩ :: ps.drop (Iv.spot c ps)) := Lib.hid Iv.ins_new
                            obtain ⟨p, hp⟩ : ∃ p, Iv.part c bp ps = p := ⟨_, rfl⟩
                            have HPp := Lib.hid hp
                            rw [hp] at HPs HIn
                            clear hp HX H3 HC3 HLs
                            obtain ⟨s, hs⟩ : ∃ s, Iv.spot c ps = s := ⟨_, rfl⟩
                            have HSs := Lib.hid hs
                            rw [hs] at HIn HIl HSq HHas HNew
                            rw [hs]
                            clear hs
                            have k3 := cell_regrown t3
                            have k1 := cell_regrown t1
                            have hsq0 := HSq.out
                            go_wp2_with fail
                            go_cut [126] (fun f wx => f = .bool (!(Iv.has c ps)) ∧ Hid (Below wq.heap.size wq wx))
                            case first =>
                              by_cases hsq : s < q
                              · obtain ⟨b1, o1, rfl⟩ := HL4.out.at (by omega)
                                have hsp : s < ps.length := HQ.out ▸ hsq
                                have hrow := HL4.out.row s hsp
                                have HHs : Hid (Iv.has c ps = decide (ps[s].cat = c)) := Lib.hid (by rw [HHas.out, List.getElem?_eq_getElem hsp])
                                generalize ps[s] = pp at *
                                obtain ⟨g0, g1, g2', g3⟩ := hrow
                                have k0' := cell_regrown g0
                                have hq5 : ((s : Int) == (q : Int)) = false := beq_eq_false_iff_ne.2 (by omega)
                                by_cases hcc : pp.cat = c
                                · have qe : (pp.cat.toList == c.toList) = true := beq_iff_eq.2 (by rw [hcc])
                                  have HHt : Hid (Iv.has c ps = true) := Lib.hid (by rw [HHs.out]; exact decide_eq_true hcc)
                                  clear hcc
                                  go_wp2
                                  refine wp_region_quiet_below (by kernel_rfl) (by kernel_rfl) ?_
                                  repeat (first | go_big_quiet_step (fail) | quiet_step (fail))
                                  refine wpQuiet_nil ?_
                                  intro _ hw'
                                  obtain ⟨⟨dq, osq⟩, hw''⟩ := hw'
                                  subst hw''
                                  have HX := Lib.hid (below_regrown wq dq osq)
                                  go_wp2
                                  go_meet
                                  exact ⟨by rw [HHt.out]; rfl, HX⟩
                                · have qe : (pp.cat.toList == c.toList) = false := beq_eq_false_iff_ne.2 fun e => hcc (Vt.cat_ext e)
                                  have HHt : Hid (Iv.has c ps = false) := Lib.hid (by rw [HHs.out]; exact decide_eq_false hcc)
                                  clear hcc
                                  go_wp2
                                  refine wp_region_quiet_below (by kernel_rfl) (by kernel_rfl) ?_
                                  repeat (first | go_big_quiet_step (fail) | quiet_step (fail))
                                  refine wpQuiet_nil ?_
                                  intro _ hw'
                                  obtain ⟨⟨dq, osq⟩, hw''⟩ := hw'
                                  subst hw''
                                  have HX := Lib.hid (below_regrown wq dq osq)
                                  go_wp2
                                  go_meet
                                  exact ⟨by rw [HHt.out]; rfl, HX⟩
                              · obtain rfl : s = q := by omega
                                have HHt : Hid (Iv.has c ps = false) := Lib.hid (by rw [HHas.out, List.getElem?_eq_none (by rw [← HQ.out]; exact Nat.le_refl _)])
                                have hq5 : ((s : Int) == (s : Int)) = true := beq_self_eq_true _
                                go_wp2
                                refine wp_region_quiet_below (by kernel_rfl) (by kernel_rfl) ?_
                                repeat (first | go_big_quiet_step (fail) | quiet_step (fail))
                                refine wpQuiet_nil ?_
                                intro _ hw'
                                obtain ⟨⟨dq, osq⟩, hw''⟩ := hw'
                                subst hw''
                                have HX := Lib.hid (below_regrown wq dq osq)
                                go_wp2
                                go_meet
                                exact ⟨by rw [HHt.out]; rfl, HX⟩
                            case rest =>
                              obtain ⟨rfl, HX2⟩ := hcut
                              have H5 := Lib.hid (H4.out.below HX2.out)
                              clear k3 k1 t3 t1
                              cases hh : Iv.has c ps
                              · have hNew := HNew.out hh
                                have HNw := Lib.hid hNew
                                have hq12 : q ≤ 12 := by have h1 := HG.out.2.2; have h2 := HQ.out; omega
                                have HLx := Lib.hid (HL4.out.below HX2.out)
                                obtain ⟨hs1, hR1⟩ := HLx.out.to s hsq0
                                obtain ⟨ao2, cap2, hs2, hR2⟩ := HLx.out.from s hsq0
                                obtain ⟨j, hj⟩ : ∃ j, q - s = j := ⟨_, rfl⟩
                                rw [hj] at hs2 hR2
                                have HR1 := Lib.hid hR1
                                have HR2 := Lib.hid hR2
                                have hjb : j ≤ 12 := by omega
                                have hsb : s ≤ 12 := by omega
                                have HSh3 := Lib.hid (ins_short HCs.out HBp.out H5.out.sh)
                                have lx : ∀ v, Below wc.heap.size wc v → v.cell? ⟨g2, 3, none⟩ = some (.slice vo q vc) ∧ v.cell? ⟨gx, 1, none⟩ = some (.string c) := fun v hv => ⟨(H5.out.below hv).tot.cells.2.2.2, by
                                  rw [(bcell (bchain HX2.out hv)).1 _ _ (Mem.cell_lt HC4.out)]
                                  exact HC4.out⟩
                                obtain ⟨t3, t1⟩ := lx wc (Below.refl _ _)
                                have a3 : ∀ o, (wc.alloc o).cell? ⟨g2, 3, none⟩ = some (.slice vo q vc) := fun o => (lx _ (Mem.below_box (Below.refl _ _) o)).1
                                have a1 : ∀ o, (wc.alloc o).cell? ⟨gx, 1, none⟩ = some (.string c) := fun o => (lx _ (Mem.below_box (Below.refl _ _) o)).2
                                have c3 : ∀ o o', ((wc.alloc o).alloc o').cell? ⟨g2, 3, none⟩ = some (.slice vo q vc) := fun o o' => (lx _ (Mem.below_box (Mem.below_box (Below.refl _ _) o) o')).1
                                have c1 : ∀ o o', ((wc.alloc o).alloc o').cell? ⟨gx, 1, none⟩ = some (.string c) := fun o o' => (lx _ (Mem.below_box (Mem.below_box (Below.refl _ _) o) o')).2
                                clear hR1 hR2 hj hh hNew
                                go_wp2_with fail
                                go_cut [15] (fun f wx => f = .int .i64 (s : Int) ∧ ∃ (uo : Option Addr) (q2 uc : Nat), Hid (RSt w wx g g2 y m d 0 0 uo q2 uc (Iv.ins c bp ps)))
                                case first =>
                                  have HEq : Hid ([] ++ ps.take s ++ [(⟨c, bp, 0, 0⟩ : Pt.T)] ++ ps.drop s = Iv.ins c bp ps) := Lib.hid (by rw [HNw.out]; simp)
                                  have Hx := Lib.hid (H5.out.below (Below.refl _ _).drew)
                                  have HLd1 := Lib.hid (HR1.out.below (Below.refl _ _).drew)
                                  have HLd2 := Lib.hid (HR2.out.below (Below.refl _ _).drew)
                                  have ly : ∀ v, Below wc.drew.heap.size wc.drew v → v.cell? ⟨g2, 3, none⟩ = some (.slice vo q vc) ∧ v.cell? ⟨gx, 1, none⟩ = some (.string c) := fun v hv => lx v (bchain (Below.refl _ _).drew hv)
                                  refine region_x (x := 18) (n := 19) (S := fun u => u.cell? ⟨g2, 3, none⟩ = some (.slice vo q vc) ∧ u.cell? ⟨gx, 1, none⟩ = some (.string c)) (by kernel_rfl) (by kernel_rfl) ?_
                                  clear t3 t1 a3 a1 c3 c1 lx
                                  generalize wc.drew = x0 at *
                                  have hS := ly x0 (Below.refl _ _)
                                  refine anyX_take (i := 1) (oi := { dst := some 128, op := Op.fieldAddr 30 (Operand.tmp 8) 3, type := 0, pos := "ref.go:338", after := #[], guard := none }) rfl (by kernel_rfl) (by kernel_rfl) (by kernel_rfl) (by kernel_rfl) (fun _ _ _ h => h) (y_parts rfl rfl (g := g2) (by kernel_rfl)) hS ?_
                                  refine anyX_take (i := 2) (oi := { dst := some 129, op := Op.load 28 (Operand.tmp 128), type := 28, pos := "ref.go:338", after := #[{ on := 1, ground := Ground.data }], guard := none }) rfl (by kernel_rfl) (by kernel_rfl) (by kernel_rfl) (by kernel_rfl) (fun _ _ _ h => h) (y_load rfl rfl (g := g2) (vo := vo) (n := q) (c := vc) (by kernel_rfl) (fun _ h => h.1)) hS ?_
                                  refine anyX_take (i := 3) (oi := { dst := some 130, op := Op.move (Operand.tmp 15), type := 3, pos := "ref.go:338", after := #[], guard := none }) rfl (by kernel_rfl) (by kernel_rfl) (by kernel_rfl) (by kernel_rfl) (fun _ _ _ h => h) (y_move rfl rfl (v := .int .i64 (s : Int)) (by kernel_rfl)) hS ?_
                                  refine anyX_take (i := 4) (oi := { dst := some 131, op := Op.slice 28 (Operand.tmp 129) none (some (Operand.tmp 130)) none, type := 28, pos := "ref.go:338", after := #[{ on := 2, ground := Ground.data }, { on := 3, ground := Ground.data }], guard := none }) rfl (by kernel_rfl) (by kernel_rfl) (by kernel_rfl) (by kernel_rfl) (fun _ _ _ h => h) (y_to rfl rfl (vo := vo) (n := q) (c := vc) (s := (s : Int)) (by kernel_rfl) (by kernel_rfl) hs1) hS ?_
                                  refine anyX_take (i := 6) (oi := { dst := some 133, op := Op.fieldAddr 35 (Operand.tmp 10) 1, type := 0, pos := "ref.go:338", after := #[], guard := none }) rfl (by kernel_rfl) (by kernel_rfl) (by kernel_rfl) (by kernel_rfl) (fun _ _ _ h => h) (y_cat rfl rfl (g := gx) (by kernel_rfl)) hS ?_
                                  refine anyX_take (i := 7) (oi := { dst := some 134, op := Op.load 9 (Operand.tmp 133), type := 9, pos := "ref.go:338", after := #[{ on := 6, ground := Ground.data }], guard := none }) rfl (by kernel_rfl) (by kernel_rfl) (by kernel_rfl) (by kernel_rfl) (fun _ _ _ h => h) (y_text rfl rfl (g := gx) (c := c) (by kernel_rfl) (fun _ h => h.2)) hS ?_
                                  refine anyX_take (i := 8) (oi := { dst := some 135, op := Op.move (Operand.tmp 11), type := 3, pos := "ref.go:338", after := #[], guard := none }) rfl (by kernel_rfl) (by kernel_rfl) (by kernel_rfl) (by kernel_rfl) (fun _ _ _ h => h) (y_move rfl rfl (v := .int .i64 bp) (by kernel_rfl)) hS ?_
                                  refine anyX_take (i := 9) (oi := { dst := some 136, op := Op.build 39 #[(0, Operand.tmp 134), (1, Operand.tmp 135)], type := 39, pos := "ref.go:338", after := #[{ on := 7, ground := Ground.data }, { on := 8, ground := Ground.data }], guard := none }) rfl (by kernel_rfl) (by kernel_rfl) (by kernel_rfl) (by kernel_rfl) (fun _ _ _ h => h) (y_row rfl rfl (c := c) (bp := bp) (by kernel_rfl) (by kernel_rfl)) hS ?_
                                  refine anyX_take (i := 12) (oi := { dst := some 139, op := Op.fieldAddr 30 (Operand.tmp 8) 3, type := 0, pos := "ref.go:338", after := #[], guard := none }) rfl (by kernel_rfl) (by kernel_rfl) (by kernel_rfl) (by kernel_rfl) (fun _ _ _ h => h) (y_parts rfl rfl (g := g2) (by kernel_rfl)) hS ?_
                                  refine anyX_take (i := 13) (oi := { dst := some 140, op := Op.load 28 (Operand.tmp 139), type := 28, pos := "ref.go:338", after := #[{ on := 12, ground := Ground.data }], guard := none }) rfl (by kernel_rfl) (by kernel_rfl) (by kernel_rfl) (by kernel_rfl) (fun _ _ _ h => h) (y_load rfl rfl (g := g2) (vo := vo) (n := q) (c := vc) (by kernel_rfl) (fun _ h => h.1)) hS ?_
                                  refine anyX_take (i := 14) (oi := { dst := some 141, op := Op.move (Operand.tmp 15), type := 3, pos := "ref.go:338", after := #[], guard := none }) rfl (by kernel_rfl) (by kernel_rfl) (by kernel_rfl) (by kernel_rfl) (fun _ _ _ h => h) (y_move rfl rfl (v := .int .i64 (s : Int)) (by kernel_rfl)) hS ?_
                                  refine anyX_take (i := 15) (oi := { dst := some 142, op := Op.slice 28 (Operand.tmp 140) (some (Operand.tmp 141)) none none, type := 28, pos := "ref.go:338", after := #[{ on := 13, ground := Ground.data }, { on := 14, ground := Ground.data }], guard := none }) rfl (by kernel_rfl) (by kernel_rfl) (by kernel_rfl) (by kernel_rfl) (fun _ _ _ h => h) (y_from rfl rfl (vo := vo) (n := q) (c := vc) (s := (s : Int)) (by kernel_rfl) (by kernel_rfl) hs2) hS ?_
                                  refine anyX_two (i := 0) (j := 10) (o := { dst := some 127, op := Op.buildSlice 28 0 #[], type := 28, pos := "ref.go:338", after := #[], guard := none }) (o' := { dst := some 137, op := Op.buildSlice 28 1 #[(0, Operand.tmp 136)], type := 28, pos := "ref.go:338", after := #[{ on := 9, ground := Ground.data }], guard := none }) (by kernel_rfl) rfl rfl (fun K hK => ?_) (fun K hK => ?_)
                                  · refine step_empty rfl rfl (hK.out _ _ (.inr (ly _ (Mem.below_box (Below.refl _ _) _))) ?_)
                                    clear hK K

                                    refine anyX_two (i := 5) (j := 10) (o := { dst := some 132, op := Op.call { callee := Callee.builtin Builtin.append, args := #[Operand.tmp 127, Operand.tmp 131], argTypes := #[28, 28] }, type := 28, pos := "ref.go:338", after := #[{ on := 0, ground := Ground.data }, { on := 4, ground := Ground.data }], guard := none }) (o' := { dst := some 137, op := Op.buildSlice 28 1 #[(0, Operand.tmp 136)], type := 28, pos := "ref.go:338", after := #[{ on := 9, ground := Ground.data }], guard := none }) (by kernel_rfl) rfl rfl (fun K hK => ?_) (fun K hK => ?_)
                                    · refine Pt.step_append (x0.alloc (.cells #[] 39)) x0 (Mem.below_box (Below.refl _ _) _) rfl (.tmp 127) (.tmp 131) rfl (.slice (some ⟨x0.heap.size, 0, none⟩) 0 0) [] (by kernel_rfl) (Pt.own_empty (Nat.le_refl _) (heap_alloc_new x0 _)) vo s vc (ps.take s) (by kernel_rfl) HLd1.out.len HLd1.out.nil (HLd1.out.seg.below (Mem.below_box (Below.refl _ _) _)) (by simp; omega) (fun v1 y1 o1 gr1 b1 => hK.out _ _ (.inr (ly _ b1)) ?_)
                                      clear hK K
                                      refine anyX_one (i := 10) (o := { dst := some 137, op := Op.buildSlice 28 1 #[(0, Operand.tmp 136)], type := 28, pos := "ref.go:338", after := #[{ on := 9, ground := Ground.data }], guard := none }) (by kernel_rfl) rfl (fun K hK => ?_)
                                      refine step_one (c := c) (bp := bp) rfl rfl (by kernel_rfl) (hK.out _ _ (.inr (ly _ (Mem.below_box b1 _))) ?_)
                                      clear hK K

                                      refine anyX_one (i := 11) (o := { dst := some 138, op := Op.call { callee := Callee.builtin Builtin.append, args := #[Operand.tmp 132, Operand.tmp 137], argTypes := #[28, 28] }, type := 28, pos := "ref.go:338", after := #[{ on := 5, ground := Ground.data }, { on := 10, ground := Ground.data }, { on := 5, ground := Ground.chain }], guard := none }) (by kernel_rfl) rfl (fun K hK => ?_)
                                      refine Pt.step_append (y1.alloc (.cells #[.string c, .int .i64 bp, .int .i64 0, .int .i64 0] 39)) x0 (Mem.below_box b1 _) rfl (.tmp 132) (.tmp 137) rfl v1 ([] ++ ps.take s) (by kernel_rfl) (Pt.own_alloc o1 _) (some ⟨y1.heap.size, 0, none⟩) 1 1 [⟨c, bp, 0, 0⟩] (by kernel_rfl) rfl (fun h => by cases h) (Pt.seg_block (heap_alloc_new y1 _)) (by simp; omega) (fun v2 y2 o2 gr2 b2 => hK.out _ _ (.inr (ly _ b2)) ?_)
                                      clear hK K
                                      refine anyX_one (i := 16) (o := { dst := some 143, op := Op.call { callee := Callee.builtin Builtin.append, args := #[Operand.tmp 138, Operand.tmp 142], argTypes := #[28, 28] }, type := 28, pos := "ref.go:338", after := #[{ on := 11, ground := Ground.data }, { on := 15, ground := Ground.data }, { on := 11, ground := Ground.chain }], guard := none }) (by kernel_rfl) rfl (fun K hK => ?_)
                                      refine Pt.step_append y2 x0 b2 rfl (.tmp 138) (.tmp 142) rfl v2 ([] ++ ps.take s ++ [⟨c, bp, 0, 0⟩]) (by kernel_rfl) o2 ao2 j cap2 (ps.drop s) (by kernel_rfl) HLd2.out.len HLd2.out.nil (HLd2.out.seg.below b2) (by simp; omega) (fun v3 y3 o3 gr3 b3 => hK.out _ _ (.inr (ly _ b3)) ?_)
                                      clear hK K
                                      simp only [Act.put, List.setIfInBounds_toArray, List.set_cons_zero, List.set_cons_succ]
                                      rw [HEq.out] at o3
                                      obtain ⟨uo, uc, rfl, hU, _⟩ := Pt.own_ls o3 HSh3.out
                                      obtain ⟨s3, s1⟩ := ly _ b3
                                      have hf3 := (Hx.out.below b3).tot.frozen 3
                                      refine anyX_take (i := 17) (oi := { dst := some 144, op := Op.fieldAddr 30 (Operand.tmp 8) 3, type := 0, pos := "ref.go:338", after := #[{ on := 0, ground := Ground.phase }, { on := 1, ground := Ground.phase }, { on := 2, ground := Ground.phase }, { on := 3, ground := Ground.phase }, { on := 4, ground := Ground.phase }, { on := 5, ground := Ground.phase }, { on := 6, ground := Ground.phase }, { on := 7, ground := Ground.phase }, { on := 8, ground := Ground.phase }, { on := 9, ground := Ground.phase }, { on := 10, ground := Ground.phase }, { on := 11, ground := Ground.phase }, { on := 12, ground := Ground.phase }, { on := 13, ground := Ground.phase }, { on := 14, ground := Ground.phase }, { on := 15, ground := Ground.phase }, { on := 16, ground := Ground.phase }], guard := none }) rfl (by kernel_rfl) (by kernel_rfl) (by kernel_rfl) (by kernel_rfl) (fun _ _ _ h => h) (y_parts rfl rfl (g := g2) (by kernel_rfl)) (ly _ b3) ?_
                                      refine anyX_close (P := Try.prog) (md := Region.Mode.any) (n := 0) (o := { dst := none, op := Op.store 28 (Operand.tmp 144) (Operand.tmp 143), type := 0, pos := "ref.go:338", after := #[{ on := 17, ground := Ground.data }, { on := 16, ground := Ground.data }, { on := 16, ground := Ground.chain }, { on := 0, ground := Ground.phase }, { on := 1, ground := Ground.phase }, { on := 2, ground := Ground.phase }, { on := 3, ground := Ground.phase }, { on := 4, ground := Ground.phase }, { on := 5, ground := Ground.phase }, { on := 6, ground := Ground.phase }, { on := 7, ground := Ground.phase }, { on := 8, ground := Ground.phase }, { on := 9, ground := Ground.phase }, { on := 10, ground := Ground.phase }, { on := 11, ground := Ground.phase }, { on := 12, ground := Ground.phase }, { on := 13, ground := Ground.phase }, { on := 14, ground := Ground.phase }, { on := 15, ground := Ground.phase }, { on := 16, ground := Ground.phase }], guard := none }) ?_ ?_ ?_ ?_
                                      · kernel_rfl
                                      · rfl
                                      · kernel_rfl
                                      apply step_put (o := { dst := none, op := Op.store 28 (Operand.tmp 144) (Operand.tmp 143), type := 0, pos := "ref.go:338", after := #[{ on := 17, ground := Ground.data }, { on := 16, ground := Ground.data }, { on := 16, ground := Ground.chain }, { on := 0, ground := Ground.phase }, { on := 1, ground := Ground.phase }, { on := 2, ground := Ground.phase }, { on := 3, ground := Ground.phase }, { on := 4, ground := Ground.phase }, { on := 5, ground := Ground.phase }, { on := 6, ground := Ground.phase }, { on := 7, ground := Ground.phase }, { on := 8, ground := Ground.phase }, { on := 9, ground := Ground.phase }, { on := 10, ground := Ground.phase }, { on := 11, ground := Ground.phase }, { on := 12, ground := Ground.phase }, { on := 13, ground := Ground.phase }, { on := 14, ground := Ground.phase }, { on := 15, ground := Ground.phase }, { on := 16, ground := Ground.phase }], guard := none }) (p := .tmp 144) (q := .tmp 143) (g := g2) (vo := uo) (c := uc) (n := (Iv.ins c bp ps).length)
                                      · rfl
                                      · rfl
                                      · kernel_rfl
                                      · kernel_rfl
                                      · exact s3
                                      · exact hf3
                                      try simp only [Act.put, List.setIfInBounds_toArray, List.set_cons_zero, List.set_cons_succ]
                                      try go_wp2_with fail
                                      go_meet
                                      exact ⟨rfl, uo, _, uc, Lib.hid ((Hx.out.below b3).parts (Pt.own_mono o3 Hx.out.size) HSh3.out)⟩
                                    · refine step_one (c := c) (bp := bp) rfl rfl (by kernel_rfl) (hK.out _ _ (.inr (ly _ (Mem.below_box (Mem.below_box (Below.refl _ _) _) _))) ?_)
                                      clear hK K

                                      refine anyX_one (i := 5) (o := { dst := some 132, op := Op.call { callee := Callee.builtin Builtin.append, args := #[Operand.tmp 127, Operand.tmp 131], argTypes := #[28, 28] }, type := 28, pos := "ref.go:338", after := #[{ on := 0, ground := Ground.data }, { on := 4, ground := Ground.data }], guard := none }) (by kernel_rfl) rfl (fun K hK => ?_)
                                      refine Pt.step_append ((x0.alloc (.cells #[] 39)).alloc (.cells #[.string c, .int .i64 bp, .int .i64 0, .int .i64 0] 39)) x0 (Mem.below_box (Mem.below_box (Below.refl _ _) _) _) rfl (.tmp 127) (.tmp 131) rfl (.slice (some ⟨x0.heap.size, 0, none⟩) 0 0) [] (by kernel_rfl) (Pt.own_empty (Nat.le_refl _) (Mem.heap_old (heap_alloc_new x0 _))) vo s vc (ps.take s) (by kernel_rfl) HLd1.out.len HLd1.out.nil (HLd1.out.seg.below (Mem.below_box (Mem.below_box (Below.refl _ _) _) _)) (by simp; omega) (fun v1 y1 o1 gr1 b1 => hK.out _ _ (.inr (ly _ b1)) ?_)
                                      have F : y1.heap[(x0.alloc (.cells #[] 39)).heap.size]? = some (Pt.block ⟨c, bp, 0, 0⟩) := Mem.blk_keep gr1 (heap_alloc_new (x0.alloc (.cells #[] 39)) _) (by simp [Value.ownBlock])
                                      clear hK K
                                      refine anyX_one (i := 11) (o := { dst := some 138, op := Op.call { callee := Callee.builtin Builtin.append, args := #[Operand.tmp 132, Operand.tmp 137], argTypes := #[28, 28] }, type := 28, pos := "ref.go:338", after := #[{ on := 5, ground := Ground.data }, { on := 10, ground := Ground.data }, { on := 5, ground := Ground.chain }], guard := none }) (by kernel_rfl) rfl (fun K hK => ?_)
                                      refine Pt.step_append y1 x0 b1 rfl (.tmp 132) (.tmp 137) rfl v1 ([] ++ ps.take s) (by kernel_rfl) o1 (some ⟨(x0.alloc (.cells #[] 39)).heap.size, 0, none⟩) 1 1 [⟨c, bp, 0, 0⟩] (by kernel_rfl) rfl (fun h => by cases h) (Pt.seg_block F) (by simp; omega) (fun v2 y2 o2 gr2 b2 => hK.out _ _ (.inr (ly _ b2)) ?_)
                                      clear hK K
                                      refine anyX_one (i := 16) (o := { dst := some 143, op := Op.call { callee := Callee.builtin Builtin.append, args := #[Operand.tmp 138, Operand.tmp 142], argTypes := #[28, 28] }, type := 28, pos := "ref.go:338", after := #[{ on := 11, ground := Ground.data }, { on := 15, ground := Ground.data }, { on := 11, ground := Ground.chain }], guard := none }) (by kernel_rfl) rfl (fun K hK => ?_)
                                      refine Pt.step_append y2 x0 b2 rfl (.tmp 138) (.tmp 142) rfl v2 ([] ++ ps.take s ++ [⟨c, bp, 0, 0⟩]) (by kernel_rfl) o2 ao2 j cap2 (ps.drop s) (by kernel_rfl) HLd2.out.len HLd2.out.nil (HLd2.out.seg.below b2) (by simp; omega) (fun v3 y3 o3 gr3 b3 => hK.out _ _ (.inr (ly _ b3)) ?_)
                                      clear hK K
                                      simp only [Act.put, List.setIfInBounds_toArray, List.set_cons_zero, List.set_cons_succ]
                                      rw [HEq.out] at o3
                                      obtain ⟨uo, uc, rfl, hU, _⟩ := Pt.own_ls o3 HSh3.out
                                      obtain ⟨s3, s1⟩ := ly _ b3
                                      have hf3 := (Hx.out.below b3).tot.frozen 3
                                      refine anyX_take (i := 17) (oi := { dst := some 144, op := Op.fieldAddr 30 (Operand.tmp 8) 3, type := 0, pos := "ref.go:338", after := #[{ on := 0, ground := Ground.phase }, { on := 1, ground := Ground.phase }, { on := 2, ground := Ground.phase }, { on := 3, ground := Ground.phase }, { on := 4, ground := Ground.phase }, { on := 5, ground := Ground.phase }, { on := 6, ground := Ground.phase }, { on := 7, ground := Ground.phase }, { on := 8, ground := Ground.phase }, { on := 9, ground := Ground.phase }, { on := 10, ground := Ground.phase }, { on := 11, ground := Ground.phase }, { on := 12, ground := Ground.phase }, { on := 13, ground := Ground.phase }, { on := 14, ground := Ground.phase }, { on := 15, ground := Ground.phase }, { on := 16, ground := Ground.phase }], guard := none }) rfl (by kernel_rfl) (by kernel_rfl) (by kernel_rfl) (by kernel_rfl) (fun _ _ _ h => h) (y_parts rfl rfl (g := g2) (by kernel_rfl)) (ly _ b3) ?_
                                      refine anyX_close (P := Try.prog) (md := Region.Mode.any) (n := 0) (o := { dst := none, op := Op.store 28 (Operand.tmp 144) (Operand.tmp 143), type := 0, pos := "ref.go:338", after := #[{ on := 17, ground := Ground.data }, { on := 16, ground := Ground.data }, { on := 16, ground := Ground.chain }, { on := 0, ground := Ground.phase }, { on := 1, ground := Ground.phase }, { on := 2, ground := Ground.phase }, { on := 3, ground := Ground.phase }, { on := 4, ground := Ground.phase }, { on := 5, ground := Ground.phase }, { on := 6, ground := Ground.phase }, { on := 7, ground := Ground.phase }, { on := 8, ground := Ground.phase }, { on := 9, ground := Ground.phase }, { on := 10, ground := Ground.phase }, { on := 11, ground := Ground.phase }, { on := 12, ground := Ground.phase }, { on := 13, ground := Ground.phase }, { on := 14, ground := Ground.phase }, { on := 15, ground := Ground.phase }, { on := 16, ground := Ground.phase }], guard := none }) ?_ ?_ ?_ ?_
                                      · kernel_rfl
                                      · rfl
                                      · kernel_rfl
                                      apply step_put (o := { dst := none, op := Op.store 28 (Operand.tmp 144) (Operand.tmp 143), type := 0, pos := "ref.go:338", after := #[{ on := 17, ground := Ground.data }, { on := 16, ground := Ground.data }, { on := 16, ground := Ground.chain }, { on := 0, ground := Ground.phase }, { on := 1, ground := Ground.phase }, { on := 2, ground := Ground.phase }, { on := 3, ground := Ground.phase }, { on := 4, ground := Ground.phase }, { on := 5, ground := Ground.phase }, { on := 6, ground := Ground.phase }, { on := 7, ground := Ground.phase }, { on := 8, ground := Ground.phase }, { on := 9, ground := Ground.phase }, { on := 10, ground := Ground.phase }, { on := 11, ground := Ground.phase }, { on := 12, ground := Ground.phase }, { on := 13, ground := Ground.phase }, { on := 14, ground := Ground.phase }, { on := 15, ground := Ground.phase }, { on := 16, ground := Ground.phase }], guard := none }) (p := .tmp 144) (q := .tmp 143) (g := g2) (vo := uo) (c := uc) (n := (Iv.ins c bp ps).length)
                                      · rfl
                                      · rfl
                                      · kernel_rfl
                                      · kernel_rfl
                                      · exact s3
                                      · exact hf3
                                      try simp only [Act.put, List.setIfInBounds_toArray, List.set_cons_zero, List.set_cons_succ]
                                      try go_wp2_with fail
                                      go_meet
                                      exact ⟨rfl, uo, _, uc, Lib.hid ((Hx.out.below b3).parts (Pt.own_mono o3 Hx.out.size) HSh3.out)⟩
                                  · refine step_one (c := c) (bp := bp) rfl rfl (by kernel_rfl) (hK.out _ _ (.inr (ly _ (Mem.below_box (Below.refl _ _) _))) ?_)
                                    clear hK K

                                    refine anyX_one (i := 0) (o := { dst := some 127, op := Op.buildSlice 28 0 #[], type := 28, pos := "ref.go:338", after := #[], guard := none }) (by kernel_rfl) rfl (fun K hK => ?_)
                                    refine step_empty rfl rfl (hK.out _ _ (.inr (ly _ (Mem.below_box (Mem.below_box (Below.refl _ _) _) _))) ?_)
                                    clear hK K

                                    refine anyX_one (i := 5) (o := { dst := some 132, op := Op.call { callee := Callee.builtin Builtin.append, args := #[Operand.tmp 127, Operand.tmp 131], argTypes := #[28, 28] }, type := 28, pos := "ref.go:338", after := #[{ on := 0, ground := Ground.data }, { on := 4, ground := Ground.data }], guard := none }) (by kernel_rfl) rfl (fun K hK => ?_)
                                    refine Pt.step_append ((x0.alloc (.cells #[.string c, .int .i64 bp, .int .i64 0, .int .i64 0] 39)).alloc (.cells #[] 39)) x0 (Mem.below_box (Mem.below_box (Below.refl _ _) _) _) rfl (.tmp 127) (.tmp 131) rfl (.slice (some ⟨(x0.alloc (.cells #[.string c, .int .i64 bp, .int .i64 0, .int .i64 0] 39)).heap.size, 0, none⟩) 0 0) [] (by kernel_rfl) (Pt.own_empty (by simp) (heap_alloc_new (x0.alloc (.cells #[.string c, .int .i64 bp, .int .i64 0, .int .i64 0] 39)) _)) vo s vc (ps.take s) (by kernel_rfl) HLd1.out.len HLd1.out.nil (HLd1.out.seg.below (Mem.below_box (Mem.below_box (Below.refl _ _) _) _)) (by simp; omega) (fun v1 y1 o1 gr1 b1 => hK.out _ _ (.inr (ly _ b1)) ?_)
                                    have F : y1.heap[x0.heap.size]? = some (Pt.block ⟨c, bp, 0, 0⟩) := Mem.blk_keep gr1 (Mem.heap_old (heap_alloc_new x0 _)) (by simp [Value.ownBlock])
                                    clear hK K
                                    refine anyX_one (i := 11) (o := { dst := some 138, op := Op.call { callee := Callee.builtin Builtin.append, args := #[Operand.tmp 132, Operand.tmp 137], argTypes := #[28, 28] }, type := 28, pos := "ref.go:338", after := #[{ on := 5, ground := Ground.data }, { on := 10, ground := Ground.data }, { on := 5, ground := Ground.chain }], guard := none }) (by kernel_rfl) rfl (fun K hK => ?_)
                                    refine Pt.step_append y1 x0 b1 rfl (.tmp 132) (.tmp 137) rfl v1 ([] ++ ps.take s) (by kernel_rfl) o1 (some ⟨x0.heap.size, 0, none⟩) 1 1 [⟨c, bp, 0, 0⟩] (by kernel_rfl) rfl (fun h => by cases h) (Pt.seg_block F) (by simp; omega) (fun v2 y2 o2 gr2 b2 => hK.out _ _ (.inr (ly _ b2)) ?_)
                                    clear hK K
                                    refine anyX_one (i := 16) (o := { dst := some 143, op := Op.call { callee := Callee.builtin Builtin.append, args := #[Operand.tmp 138, Operand.tmp 142], argTypes := #[28, 28] }, type := 28, pos := "ref.go:338", after := #[{ on := 11, ground := Ground.data }, { on := 15, ground := Ground.data }, { on := 11, ground := Ground.chain }], guard := none }) (by kernel_rfl) rfl (fun K hK => ?_)
                                    refine Pt.step_append y2 x0 b2 rfl (.tmp 138) (.tmp 142) rfl v2 ([] ++ ps.take s ++ [⟨c, bp, 0, 0⟩]) (by kernel_rfl) o2 ao2 j cap2 (ps.drop s) (by kernel_rfl) HLd2.out.len HLd2.out.nil (HLd2.out.seg.below b2) (by simp; omega) (fun v3 y3 o3 gr3 b3 => hK.out _ _ (.inr (ly _ b3)) ?_)
                                    clear hK K
                                    simp only [Act.put, List.setIfInBounds_toArray, List.set_cons_zero, List.set_cons_succ]
                                    rw [HEq.out] at o3
                                    obtain ⟨uo, uc, rfl, hU, _⟩ := Pt.own_ls o3 HSh3.out
                                    obtain ⟨s3, s1⟩ := ly _ b3
                                    have hf3 := (Hx.out.below b3).tot.frozen 3
                                    refine anyX_take (i := 17) (oi := { dst := some 144, op := Op.fieldAddr 30 (Operand.tmp 8) 3, type := 0, pos := "ref.go:338", after := #[{ on := 0, ground := Ground.phase }, { on := 1, ground := Ground.phase }, { on := 2, ground := Ground.phase }, { on := 3, ground := Ground.phase }, { on := 4, ground := Ground.phase }, { on := 5, ground := Ground.phase }, { on := 6, ground := Ground.phase }, { on := 7, ground := Ground.phase }, { on := 8, ground := Ground.phase }, { on := 9, ground := Ground.phase }, { on := 10, ground := Ground.phase }, { on := 11, ground := Ground.phase }, { on := 12, ground := Ground.phase }, { on := 13, ground := Ground.phase }, { on := 14, ground := Ground.phase }, { on := 15, ground := Ground.phase }, { on := 16, ground := Ground.phase }], guard := none }) rfl (by kernel_rfl) (by kernel_rfl) (by kernel_rfl) (by kernel_rfl) (fun _ _ _ h => h) (y_parts rfl rfl (g := g2) (by kernel_rfl)) (ly _ b3) ?_
                                    refine anyX_close (P := Try.prog) (md := Region.Mode.any) (n := 0) (o := { dst := none, op := Op.store 28 (Operand.tmp 144) (Operand.tmp 143), type := 0, pos := "ref.go:338", after := #[{ on := 17, ground := Ground.data }, { on := 16, ground := Ground.data }, { on := 16, ground := Ground.chain }, { on := 0, ground := Ground.phase }, { on := 1, ground := Ground.phase }, { on := 2, ground := Ground.phase }, { on := 3, ground := Ground.phase }, { on := 4, ground := Ground.phase }, { on := 5, ground := Ground.phase }, { on := 6, ground := Ground.phase }, { on := 7, ground := Ground.phase }, { on := 8, ground := Ground.phase }, { on := 9, ground := Ground.phase }, { on := 10, ground := Ground.phase }, { on := 11, ground := Ground.phase }, { on := 12, ground := Ground.phase }, { on := 13, ground := Ground.phase }, { on := 14, ground := Ground.phase }, { on := 15, ground := Ground.phase }, { on := 16, ground := Ground.phase }], guard := none }) ?_ ?_ ?_ ?_
                                    · kernel_rfl
                                    · rfl
                                    · kernel_rfl
                                    apply step_put (o := { dst := none, op := Op.store 28 (Operand.tmp 144) (Operand.tmp 143), type := 0, pos := "ref.go:338", after := #[{ on := 17, ground := Ground.data }, { on := 16, ground := Ground.data }, { on := 16, ground := Ground.chain }, { on := 0, ground := Ground.phase }, { on := 1, ground := Ground.phase }, { on := 2, ground := Ground.phase }, { on := 3, ground := Ground.phase }, { on := 4, ground := Ground.phase }, { on := 5, ground := Ground.phase }, { on := 6, ground := Ground.phase }, { on := 7, ground := Ground.phase }, { on := 8, ground := Ground.phase }, { on := 9, ground := Ground.phase }, { on := 10, ground := Ground.phase }, { on := 11, ground := Ground.phase }, { on := 12, ground := Ground.phase }, { on := 13, ground := Ground.phase }, { on := 14, ground := Ground.phase }, { on := 15, ground := Ground.phase }, { on := 16, ground := Ground.phase }], guard := none }) (p := .tmp 144) (q := .tmp 143) (g := g2) (vo := uo) (c := uc) (n := (Iv.ins c bp ps).length)
                                    · rfl
                                    · rfl
                                    · kernel_rfl
                                    · kernel_rfl
                                    · exact s3
                                    · exact hf3
                                    try simp only [Act.put, List.setIfInBounds_toArray, List.set_cons_zero, List.set_cons_succ]
                                    try go_wp2_with fail
                                    go_meet
                                    exact ⟨rfl, uo, _, uc, Lib.hid ((Hx.out.below b3).parts (Pt.own_mono o3 Hx.out.size) HSh3.out)⟩
                                case rest =>
                                  obtain ⟨rfl, uo, q2, uc, H5b⟩ := hcut
                                  have hsq : s < q2 := by rw [H5b.out.len.1]; exact HIl.out
                                  obtain ⟨b1, rfl, hb1, hAt, hfz⟩ := H5b.out.at s (by rw [← H5b.out.len.1]; exact hsq)
                                  have hps : (Iv.ins c bp ps)[s]'(by rw [← H5b.out.len.1]; exact hsq) = p := Option.some.inj ((List.getElem?_eq_getElem _).symm.trans HIn.out)
                                  rw [hps] at hAt
                                  obtain ⟨r0, r1, r2, r3⟩ := hAt
                                  have t3 := H5b.out.tot.cells.2.2.2
                                  have hf2 := hfz (s * 4 + 2)
                                  have hlen := H5b.out.len.2
                                  have hl1 := hlen.1
                                  have hl2 := hlen.2.1
                                  have HPut : Hid (∀ u, Below wc.heap.size wc u → RSt w (u.setCell ⟨b1, s * 4 + 2, none⟩ (.int .i64 (Mn.amt (p.net + nn)))) g g2 y m d 0 0 (some ⟨b1, 0, none⟩) q2 uc ((Iv.ins c bp ps).set s ⟨p.cat, p.bp, Mn.amt (p.net + nn), p.tax⟩)) := Lib.hid fun u hu => (H5b.out.below hu).put rfl hb1 s 2 (by rw [← H5b.out.len.1]; exact hsq) (by omega) _ _ (by rw [hps]; rfl) ⟨HPs.out.1, HPs.out.2.1, Mn.amt_fits _, HPs.out.2.2.2⟩
                                  clear hfz hps r0 r1 r3 hlen
                                  go_wp2_with fail
                                  go_cut [14] (fun e wx => e = .int .i64 (Mn.err (p.net + nn)) ∧ Hid (RSt w wx g g2 y m d 0 0 (some ⟨b1, 0, none⟩) q2 uc ((Iv.ins c bp ps).set s ⟨p.cat, p.bp, Mn.amt (p.net + nn), p.tax⟩)))
                                  case first =>
                                    go_region_with (go_at_call 33; refine (refAdd_any p.net nn _ HPs.out.2.2.1 HN.out).mono ?_; rintro e u ⟨rfl, hu⟩; subst hu; unfold both)
                                    all_goals (try go_wp2_with fail)
                                    all_goals go_meet
                                    all_goals exact ⟨rfl, Lib.hid ((HPut.out _ (Below.refl _ _)).below (Below.refl _ _).drew)⟩
                                  case rest =>
                                    obtain ⟨rfl, H6⟩ := hcut
                                    rcases Mn.err_two (p.net + nn) with e2 | e2
                                    · rw [e2]
                                      have HMo : Hid ((Iv.ins c bp ps).set s ⟨p.cat, p.bp, Mn.amt (p.net + nn), p.tax⟩ = Iv.enter c bp nn ps) := Lib.hid (by
                                        unfold Iv.enter Iv.more
                                        rw [HSs.out, HPp.out, Mn.amt_fit (Iv.err_0 e2)])
                                      have HE0 : Hid (Iv.enterE c bp nn ps = 0) := Lib.hid (by unfold Iv.enterE; rw [HPp.out]; exact e2)
                                      rw [HMo.out] at H6
                                      rw [HE0.out, if_neg (by simp)] at HG1
                                      clear e2 r2 t3 hf2 HPut
                                      go_wp2_with fail
                                      go_roundw
                                      case rel => exact ⟨k + 1, some ⟨b1, 0, none⟩, q2, uc, Iv.enter c bp nn ps, by omega, by go_num, H6, Lib.hid ⟨by rw [← HG1.out]; exact HG.out.1, by rw [← HG2.out]; exact HG.out.2.1, Nat.le_trans (Iv.enter_len ps) (by have := HG.out.2.2; omega)⟩⟩
                                      case measure => simp [intOf]; omega
                                    · have HE7 : Hid (Iv.enterE c bp nn ps = 7) := Lib.hid (by unfold Iv.enterE; rw [HPp.out]; exact e2)
                                      have HP := Lib.hid (Iv.tot_line HH.out (by rw [← HG.out.1, HG1.out, HE7.out]; simp))
                                      rw [← HG.out.1, HG1.out, HE7.out, if_pos (by omega)] at HP
                                      rw [e2]
                                      clear e2 r2 t3 hf2 HPut
                                      obtain ⟨z0, z1, z2, z3⟩ := H6.out.pst.res.cells
                                      have f0 := H6.out.pst.res.frozen 0
                                      have f1 := H6.out.pst.res.frozen 1
                                      have f2 := H6.out.pst.res.frozen 2
                                      have f3 := H6.out.pst.res.frozen 3
                                      have HBe := Lib.hid (And.intro H6.out.pst.bel H6.out.pst.gw)
                                      go_wp2_with fail
                                      exact bodyPost_ret (v := .tuple #[Tt.val 0 0 0 (.slice none 0 0), .int .i64 7]) (by simp [results, Tt.val, Try.results15, go_sem, z0, z1, z2, z3]) rfl ⟨_, by rw [HP.out.1, HP.out.2]; rfl, by rw [HP.out.2]; exact Pt.own_nil _ _, Mem.bset (Mem.bset (Mem.bset (Mem.bset HBe.out.1 (by have := HBe.out.2; omega) _ _) (by have := HBe.out.2; omega) _ _) (by have := HBe.out.2; omega) _ _) (by have := HBe.out.2; omega) _ _⟩
                              · have HI : Hid (Iv.ins c bp ps = ps) := Lib.hid (Iv.ins_has hh)
                                clear hh
                                rw [← HI.out] at H5
                                have hsq : s < q := by have h1 := HIl.out; rw [HI.out, ← HQ.out] at h1; exact h1
                                obtain ⟨b1, rfl, hb1, hAt, hfz⟩ := H5.out.at s (by rw [← H5.out.len.1]; exact hsq)
                                have hps : (Iv.ins c bp ps)[s]'(by rw [← H5.out.len.1]; exact hsq) = p := Option.some.inj ((List.getElem?_eq_getElem _).symm.trans HIn.out)
                                rw [hps] at hAt
                                obtain ⟨r0, r1, r2, r3⟩ := hAt
                                have t3 := H5.out.tot.cells.2.2.2
                                have hf2 := hfz (s * 4 + 2)
                                have hlen := H5.out.len.2
                                have hl1 := hlen.1
                                have hl2 := hlen.2.1
                                have HPut : Hid (∀ u, Below wc.heap.size wc u → RSt w (u.setCell ⟨b1, s * 4 + 2, none⟩ (.int .i64 (Mn.amt (p.net + nn)))) g g2 y m d 0 0 (some ⟨b1, 0, none⟩) q vc ((Iv.ins c bp ps).set s ⟨p.cat, p.bp, Mn.amt (p.net + nn), p.tax⟩)) := Lib.hid fun u hu => (H5.out.below hu).put rfl hb1 s 2 (by rw [← H5.out.len.1]; exact hsq) (by omega) _ _ (by rw [hps]; rfl) ⟨HPs.out.1, HPs.out.2.1, Mn.amt_fits _, HPs.out.2.2.2⟩
                                clear hfz hps r0 r1 r3 hlen
                                go_wp2_with fail
                                go_cut [14] (fun e wx => e = .int .i64 (Mn.err (p.net + nn)) ∧ Hid (RSt w wx g g2 y m d 0 0 (some ⟨b1, 0, none⟩) q vc ((Iv.ins c bp ps).set s ⟨p.cat, p.bp, Mn.amt (p.net + nn), p.tax⟩)))
                                case first =>
                                  go_region_with (go_at_call 33; refine (refAdd_any p.net nn _ HPs.out.2.2.1 HN.out).mono ?_; rintro e u ⟨rfl, hu⟩; subst hu; unfold both)
                                  all_goals (try go_wp2_with fail)
                                  all_goals go_meet
                                  all_goals exact ⟨rfl, Lib.hid ((HPut.out _ (Below.refl _ _)).below (Below.refl _ _).drew)⟩
                                case rest =>
                                  obtain ⟨rfl, H6⟩ := hcut
                                  rcases Mn.err_two (p.net + nn) with e2 | e2
                                  · rw [e2]
                                    have HMo : Hid ((Iv.ins c bp ps).set s ⟨p.cat, p.bp, Mn.amt (p.net + nn), p.tax⟩ = Iv.enter c bp nn ps) := Lib.hid (by
                                      unfold Iv.enter Iv.more
                                      rw [HSs.out, HPp.out, Mn.amt_fit (Iv.err_0 e2)])
                                    have HE0 : Hid (Iv.enterE c bp nn ps = 0) := Lib.hid (by unfold Iv.enterE; rw [HPp.out]; exact e2)
                                    rw [HMo.out] at H6
                                    rw [HE0.out, if_neg (by simp)] at HG1
                                    clear e2 r2 t3 hf2 HPut
                                    go_wp2_with fail
                                    go_roundw
                                    case rel => exact ⟨k + 1, some ⟨b1, 0, none⟩, q, vc, Iv.enter c bp nn ps, by omega, by go_num, H6, Lib.hid ⟨by rw [← HG1.out]; exact HG.out.1, by rw [← HG2.out]; exact HG.out.2.1, Nat.le_trans (Iv.enter_len ps) (by have := HG.out.2.2; omega)⟩⟩
                                    case measure => simp [intOf]; omega
                                  · have HE7 : Hid (Iv.enterE c bp nn ps = 7) := Lib.hid (by unfold Iv.enterE; rw [HPp.out]; exact e2)
                                    have HP := Lib.hid (Iv.tot_line HH.out (by rw [← HG.out.1, HG1.out, HE7.out]; simp))
                                    rw [← HG.out.1, HG1.out, HE7.out, if_pos (by omega)] at HP
                                    rw [e2]
                                    clear e2 r2 t3 hf2 HPut
                                    obtain ⟨z0, z1, z2, z3⟩ := H6.out.pst.res.cells
                                    have f0 := H6.out.pst.res.frozen 0
                                    have f1 := H6.out.pst.res.frozen 1
                                    have f2 := H6.out.pst.res.frozen 2
                                    have f3 := H6.out.pst.res.frozen 3
                                    have HBe := Lib.hid (And.intro H6.out.pst.bel H6.out.pst.gw)
                                    go_wp2_with fail
                                    exact bodyPost_ret (v := .tuple #[Tt.val 0 0 0 (.slice none 0 0), .int .i64 7]) (by simp [results, Tt.val, Try.results15, go_sem, z0, z1, z2, z3]) rfl ⟨_, by rw [HP.out.1, HP.out.2]; rfl, by rw [HP.out.2]; exact Pt.own_nil _ _, Mem.bset (Mem.bset (Mem.bset (Mem.bset HBe.out.1 (by have := HBe.out.2; omega) _ _) (by have := HBe.out.2; omega) _ _) (by have := HBe.out.2; omega) _ _) (by have := HBe.out.2; omega) _ _⟩
                        · have HP := Lib.hid (Iv.tot_line HH.out (by rw [← HG.out.1, HG1.out, HLe.out, e1]; simp))
                          rw [← HG.out.1, HG1.out, HLe.out, e1, if_pos (by omega)] at HP
                          rw [e1]
                          clear e1
                          obtain ⟨z0, z1, z2, z3⟩ := H3.out.pst.res.cells
                          have f0 := H3.out.pst.res.frozen 0
                          have f1 := H3.out.pst.res.frozen 1
                          have f2 := H3.out.pst.res.frozen 2
                          have f3 := H3.out.pst.res.frozen 3
                          have HBe := Lib.hid (And.intro H3.out.pst.bel H3.out.pst.gw)
                          go_wp2_with fail
                          exact bodyPost_ret (v := .tuple #[Tt.val 0 0 0 (.slice none 0 0), .int .i64 7]) (by simp [results, Tt.val, Try.results15, go_sem, z0, z1, z2, z3]) rfl ⟨_, by rw [HP.out.1, HP.out.2]; rfl, by rw [HP.out.2]; exact Pt.own_nil _ _, Mem.bset (Mem.bset (Mem.bset (Mem.bset HBe.out.1 (by have := HBe.out.2; omega) _ _) (by have := HBe.out.2; omega) _ _) (by have := HBe.out.2; omega) _ _) (by have := HBe.out.2; omega) _ _⟩
            · obtain rfl : k = k0 := by omega
              have HGo : Hid (Iv.goE rs y m d ls [] = 0 ∧ Iv.goL rs y m d ls [] = ps) := Lib.hid (by
                have h1 := HG.out.1
                have h2 := HG.out.2.1
                rw [List.drop_eq_nil_of_le (Nat.le_of_eq HLn.out.symm)] at h1 h2
                exact ⟨h1.symm, h2.symm⟩)
              have HSum := Lib.hid (Iv.tot_sum HH.out HGo.out.1)
              rw [HGo.out.2] at HSum
              obtain ⟨hl1, hl2, hl3, _⟩ := H.out.len
              have HQ := Lib.hid hl1
              have hq12 : q ≤ 12 := by have h1 := HG.out.2.2; omega
              clear hl1 HG HGo
              go_wp2_with fail
              go_loopw [16, 17, 18] (fun i _ _ wr => ∃ (j : Nat) (N T : Int), j ≤ q ∧ i = .int .i64 j ∧ Hid (RSt w wr g g2 y m d N T vo q vc (Iv.mix ps j)) ∧ Hid (Iv.upE (ps.drop j) N T = Iv.upE ps 0 0 ∧ N + Iv.nets (ps.drop j) = Iv.nets ps ∧ T + Iv.taxes (ps.drop j) = Iv.taxes ps ∧ Fit N ∧ Fit T)) (fun i _ _ _ => q - (intOf i).toNat)
              case atStart => exact ⟨0, 0, 0, by omega, rfl, H, Lib.hid ⟨rfl, Int.zero_add _, Int.zero_add _, ⟨by omega, by omega⟩, ⟨by omega, by omega⟩⟩⟩
              case round =>
                clear H
                rename World => wy
                obtain ⟨j, N, T, hj, rfl, H, HU⟩ := hrel
                obtain ⟨t0, t1, t2, t3⟩ := H.out.tot.cells
                by_cases hjq : j < q
                · have hjp : j < ps.length := HQ.out ▸ hjq
                  have hjm : j < (Iv.mix ps j).length := by rw [Iv.mix_len]; exact hjp
                  obtain ⟨b1, rfl, hb1, hAt, hfz⟩ := H.out.at j hjm
                  have hpm : (Iv.mix ps j)[j] = ps[j] := Option.some.inj ((List.getElem?_eq_getElem hjm).symm.trans (Iv.mix_at ps j hjp))
                  have HMs := Lib.hid (Iv.mix_set ps j hjp)
                  have HU1 := Lib.hid (Iv.upE_at ps N T j hjp)
                  have HU2 := Lib.hid (Iv.nets_at ps j hjp)
                  have HU3 := Lib.hid (Iv.taxes_at ps j hjp)
                  have HSp : Hid (Pt.Short ps[j]) := Lib.hid (hpm ▸ H.out.sh _ (List.getElem_mem hjm))
                  rw [hpm] at hAt
                  obtain ⟨p, hp⟩ : ∃ p, ps[j] = p := ⟨_, rfl⟩
                  rw [hp] at hAt HMs HU1 HU2 HU3 HSp hpm
                  obtain ⟨r0, r1, r2, r3⟩ := hAt
                  have HPm := Lib.hid hpm
                  have hf3 := hfz (j * 4 + 3)
                  have k1 := cell_regrown r1
                  have k2 := cell_regrown r2
                  have k3 := cell_regrown t3
                  obtain ⟨E, hE⟩ : ∃ E, Sh.taxE p.net p.bp = E := ⟨_, rfl⟩
                  obtain ⟨X, hX⟩ : ∃ X, Sh.taxV p.net p.bp = X := ⟨_, rfl⟩
                  have c1 : ∀ i os, Calls Try.prog 34 #[.int .i64 p.net, .int .i64 p.bp] (grow (redrawn wy i) os) fun e w'' => e = .returned (.tuple #[.int .i64 X, .int .i64 E]) ∧ ∃ q : Regrown, w'' = grow (redrawn wy q.d) q.os := fun i os => Calls.regrown_of ((refTax_any p.net p.bp _ HSp.out.2.2.1 HSp.out.2.1).mono fun e w'' ⟨h1, h2⟩ => ⟨by rw [h1, hE, hX]; rfl, h2 ▸ Below.refl _ _⟩)
                  rw [hE, hX] at HU1
                  rw [hX] at HU3
                  have HFX : Hid (Fit X) := Lib.hid (hX ▸ tax_fit p.net p.bp)
                  have HTx : Hid (Iv.taxed p = ⟨p.cat, p.bp, p.net, X⟩) := Lib.hid (by unfold Iv.taxed; rw [hX])
                  clear hE hX hp hpm hfz
                  go_wp2
                  refine wp_region_quiet_below (by kernel_rfl) (by kernel_rfl) ?_
                  repeat (first | go_big_quiet_step (first | (go_at_call 34; exact c1 _ _)) | quiet_step (first | (go_at_call 34; exact c1 _ _)))
                  refine wpQuiet_nil ?_
                  intro _ hw'
                  obtain ⟨⟨dq, osq⟩, hw''⟩ := hw'
                  subst hw''
                  have HX := Lib.hid (below_regrown wy dq osq)
                  clear k1 k2 k3 c1 r0 r1 r2 r3 t0 t1 t2 t3 hf3
                  have H1 := Lib.hid (H.out.below HX.out)
                  clear H HX
                  generalize grow (redrawn wy dq) osq = wx at *
                  by_cases hE0 : E = 0
                  · subst hE0
                    rw [if_neg (by simp)] at HU1
                    have HPut : Hid (RSt w (wx.setCell ⟨b1, j * 4 + 3, none⟩ (.int .i64 X)) g g2 y m d N T (some ⟨b1, 0, none⟩) q vc (Iv.mix ps (j + 1))) := Lib.hid (by
                      rw [← HMs.out, HTx.out]
                      exact H1.out.put rfl hb1 j 3 hjm (by omega) _ _ (by rw [HPm.out]; rfl) ⟨HSp.out.1, HSp.out.2.1, HSp.out.2.2.1, HFX.out⟩)
                    obtain ⟨b', hb', hB', hAt, hfz⟩ := H1.out.at j hjm
                    cases hb'
                    rw [HPm.out] at hAt
                    obtain ⟨r0, r1, r2, r3⟩ := hAt
                    have hf3 := hfz (j * 4 + 3)
                    obtain ⟨t0, t1, t2, t3⟩ := H1.out.tot.cells
                    obtain ⟨W, hW⟩ : ∃ W, wx.setCell ⟨b1, j * 4 + 3, none⟩ (.int .i64 X) = W := ⟨_, rfl⟩
                    rw [hW] at HPut
                    clear hfz
                    have HStop : Hid (wx.setCell ⟨b1, j * 4 + 3, none⟩ (.int .i64 X) = W) := Lib.hid hW
                    clear hW
                    go_wp2_with fail
                    rw [HStop.out]
                    clear t0 t1 t2 t3 r0 r1 r2 r3 hf3 HStop H1
                    have hjm2 : j < (Iv.mix ps (j + 1)).length := by rw [Iv.mix_len]; exact hjp
                    have hpm2 : (Iv.mix ps (j + 1))[j] = Iv.taxed p := by
                      have h1 : (Iv.mix ps (j + 1))[j]? = some (Iv.taxed p) := by rw [← HMs.out, List.getElem?_set_self hjm]
                      exact Option.some.inj ((List.getElem?_eq_getElem hjm2).symm.trans h1)
                    obtain ⟨b2, hb2, hB2, hAt2, hfz2⟩ := HPut.out.at j hjm2
                    cases hb2
                    rw [hpm2, HTx.out] at hAt2
                    obtain ⟨r0, r1, r2, r3⟩ := hAt2
                    obtain ⟨t0, t1, t2, t3⟩ := HPut.out.tot.cells
                    have hf0 := HPut.out.tot.frozen 0
                    clear hfz2 hpm2 r0 r1 r3 t1 t2
                    go_cut [18] (fun e wv => e = .int .i64 (Mn.err (N + p.net)) ∧ Hid (RSt w wv g g2 y m d (Mn.amt (N + p.net)) T (some ⟨b1, 0, none⟩) q vc (Iv.mix ps (j + 1))))
                    case first =>
                      go_region_with (go_at_call 33; refine (refAdd_any N p.net _ HU.out.2.2.2.1 HSp.out.2.2.1).mono ?_; rintro e u ⟨rfl, hu⟩; subst hu; unfold both)
                      all_goals (try go_wp2_with fail)
                      all_goals go_meet
                      all_goals exact ⟨rfl, Lib.hid ((HPut.out.setN _).below (Below.refl _ _).drew)⟩
                    case rest =>
                      obtain ⟨rfl, H2⟩ := hcut
                      clear r2 t0 t3 hf0 HPut
                      rcases Mn.err_two (N + p.net) with e1 | e1
                      · rw [e1]
                        rw [Mn.amt_fit (Iv.err_0 e1)] at H2
                        rw [e1, if_neg (by simp)] at HU1
                        have HFN := Lib.hid (Iv.err_0 e1)
                        clear e1
                        obtain ⟨t0, t1, t2, t3⟩ := H2.out.tot.cells
                        have hf1 := H2.out.tot.frozen 1
                        have H3 : Hid (RSt w (wc.setCell ⟨g2, 1, none⟩ (.int .i64 (Mn.amt (T + X)))) g g2 y m d (N + p.net) (Mn.amt (T + X)) (some ⟨b1, 0, none⟩) q vc (Iv.mix ps (j + 1))) := Lib.hid (H2.out.setT _)
                        clear t0 t2 t3
                        go_wp2_with fail
                        refine (refAdd_any T X _ HU.out.2.2.2.2 HFX.out).mono ?_
                        rintro e wu ⟨rfl, hwu⟩
                        subst hwu
                        unfold both
                        rcases Mn.err_two (T + X) with e2 | e2
                        · rw [Mn.amt_fit (Iv.err_0 e2)] at H3
                          rw [e2, Mn.amt_fit (Iv.err_0 e2)]
                          rw [e2, if_neg (by simp)] at HU1
                          have HFT := Lib.hid (Iv.err_0 e2)
                          clear e2 H2
                          go_wp2_with fail
                          go_roundw
                          case rel => exact ⟨j + 1, N + p.net, T + X, by omega, by go_num, H3, Lib.hid ⟨by rw [← HU1.out]; exact HU.out.1, by have h1 := HU.out.2.1; have h2 := HU2.out; omega, by have h1 := HU.out.2.2.1; have h2 := HU3.out; omega, HFN.out, HFT.out⟩⟩
                          case measure => simp [intOf]; omega
                        · have HP : Hid (Iv.totE rs y m d ls = 7 ∧ Iv.totT rs y m d ls = Iv.Tot.zero) := Lib.hid (sum_err HSum.out (by rw [← HU.out.1, HU1.out, e2]; rfl) (by omega))
                          rw [Mn.amt_not (err_7 e2)] at H3
                          rw [e2, Mn.amt_not (err_7 e2)]
                          clear e2 H2
                          obtain ⟨z0, z1, z2, z3⟩ := H3.out.pst.res.cells
                          have f0 := H3.out.pst.res.frozen 0
                          have f1 := H3.out.pst.res.frozen 1
                          have f2 := H3.out.pst.res.frozen 2
                          have f3 := H3.out.pst.res.frozen 3
                          have HBe := Lib.hid (And.intro H3.out.pst.bel H3.out.pst.gw)
                          go_wp2_with fail
                          exact bodyPost_ret (v := .tuple #[Tt.val 0 0 0 (.slice none 0 0), .int .i64 7]) (by simp [results, Tt.val, Try.results15, go_sem, z0, z1, z2, z3]) rfl ⟨_, by rw [HP.out.1, HP.out.2]; rfl, by rw [HP.out.2]; exact Pt.own_nil _ _, Mem.bset (Mem.bset (Mem.bset (Mem.bset HBe.out.1 (by have := HBe.out.2; omega) _ _) (by have := HBe.out.2; omega) _ _) (by have := HBe.out.2; omega) _ _) (by have := HBe.out.2; omega) _ _⟩
                      · have HP : Hid (Iv.totE rs y m d ls = 7 ∧ Iv.totT rs y m d ls = Iv.Tot.zero) := Lib.hid (sum_err HSum.out (by rw [← HU.out.1, HU1.out, e1]; rfl) (by omega))
                        rw [e1]
                        clear e1
                        obtain ⟨z0, z1, z2, z3⟩ := H2.out.pst.res.cells
                        have f0 := H2.out.pst.res.frozen 0
                        have f1 := H2.out.pst.res.frozen 1
                        have f2 := H2.out.pst.res.frozen 2
                        have f3 := H2.out.pst.res.frozen 3
                        have HBe := Lib.hid (And.intro H2.out.pst.bel H2.out.pst.gw)
                        go_wp2_with fail
                        exact bodyPost_ret (v := .tuple #[Tt.val 0 0 0 (.slice none 0 0), .int .i64 7]) (by simp [results, Tt.val, Try.results15, go_sem, z0, z1, z2, z3]) rfl ⟨_, by rw [HP.out.1, HP.out.2]; rfl, by rw [HP.out.2]; exact Pt.own_nil _ _, Mem.bset (Mem.bset (Mem.bset (Mem.bset HBe.out.1 (by have := HBe.out.2; omega) _ _) (by have := HBe.out.2; omega) _ _) (by have := HBe.out.2; omega) _ _) (by have := HBe.out.2; omega) _ _⟩
                  · have HP : Hid (Iv.totE rs y m d ls = E ∧ Iv.totT rs y m d ls = Iv.Tot.zero) := Lib.hid (sum_err HSum.out (by rw [← HU.out.1, HU1.out, if_pos hE0]) hE0)
                    have hne : (E != 0) = true := bne_iff_ne.2 hE0
                    clear hE0
                    obtain ⟨z0, z1, z2, z3⟩ := H1.out.pst.res.cells
                    have f0 := H1.out.pst.res.frozen 0
                    have f1 := H1.out.pst.res.frozen 1
                    have f2 := H1.out.pst.res.frozen 2
                    have f3 := H1.out.pst.res.frozen 3
                    have HBe := Lib.hid (And.intro H1.out.pst.bel H1.out.pst.gw)
                    go_wp2_with fail
                    exact bodyPost_ret (v := .tuple #[Tt.val 0 0 0 (.slice none 0 0), .int .i64 E]) (by simp [results, Tt.val, Try.results15, go_sem, z0, z1, z2, z3]) rfl ⟨_, by rw [HP.out.1, HP.out.2]; rfl, by rw [HP.out.2]; exact Pt.own_nil _ _, Mem.bset (Mem.bset (Mem.bset (Mem.bset HBe.out.1 (by have := HBe.out.2; omega) _ _) (by have := HBe.out.2; omega) _ _) (by have := HBe.out.2; omega) _ _) (by have := HBe.out.2; omega) _ _⟩
                · obtain rfl : j = q := by omega
                  have HD : Hid (ps.drop j = []) := Lib.hid (List.drop_eq_nil_of_le (Nat.le_of_eq HQ.out.symm))
                  have HU0 : Hid (Iv.upE ps 0 0 = 0 ∧ N = Iv.nets ps ∧ T = Iv.taxes ps) := Lib.hid (by
                    have h := HU.out
                    rw [HD.out] at h
                    have h1 : N + 0 = Iv.nets ps := h.2.1
                    have h2 : T + 0 = Iv.taxes ps := h.2.2.1
                    exact ⟨h.1.symm, by omega, by omega⟩)
                  have HMx : Hid (Iv.mix ps j = ps.map Iv.taxed) := Lib.hid (by rw [HQ.out]; exact Iv.mix_all ps)
                  rw [HMx.out] at H
                  have hf2' := H.out.tot.frozen 2
                  clear t2
                  obtain ⟨_, _, t2, _⟩ := H.out.tot.cells
                  go_wp2_with fail
                  refine (refAdd_any N T _ HU.out.2.2.2.1 HU.out.2.2.2.2).mono ?_
                  rintro e wu ⟨rfl, hwu⟩
                  subst hwu
                  unfold both
                  rcases Mn.err_two (N + T) with e1 | e1
                  · rw [e1, Mn.amt_fit (Iv.err_0 e1)]
                    have HP : Hid (Iv.totE rs y m d ls = 0 ∧ Iv.totT rs y m d ls = Iv.sumT ps) := Lib.hid (by
                      have h0 : Iv.sumE ps = 0 := by
                        unfold Iv.sumE
                        rw [if_neg (by rw [HU0.out.1]; simp), ← HU0.out.2.1, ← HU0.out.2.2]
                        exact e1
                      rw [HSum.out.1, HSum.out.2, h0]
                      exact ⟨rfl, rfl⟩)
                    clear e1
                    obtain ⟨z0, z1, z2, z3⟩ := H.out.pst.res.cells
                    have f0 := H.out.pst.res.frozen 0
                    have f1 := H.out.pst.res.frozen 1
                    have f2 := H.out.pst.res.frozen 2
                    have f3 := H.out.pst.res.frozen 3
                    have hne1 : g + 1 ≠ g2 := by have := H.out.lo; omega
                    have hne2 : g2 ≠ g + 1 := by have := H.out.lo; omega
                    have HBe := Lib.hid (And.intro H.out.pst.bel (And.intro H.out.pst.gw H.out.lo))
                    go_wp2_with fail
                    refine bodyPost_ret (v := .tuple #[Tt.val N T (N + T) (.slice vo j vc), .int .i64 0]) (by simp [results, Tt.val, Try.results15, go_sem, z0, z1, z2, z3]) rfl ⟨.slice vo j vc, ?_, ?_, ?_⟩
                    · rw [HP.out.1, HP.out.2]
                      unfold Iv.sumT
                      rw [← HU0.out.2.1, ← HU0.out.2.2]
                    · rw [HP.out.2]
                      have ho : Pt.Own _ (g2 + 1) (.slice vo j vc) (ps.map Iv.taxed) := Pt.own_far (Pt.own_far (Pt.own_far (Pt.own_far (Pt.own_far H.out.own (b := g2) (Nat.lt_succ_self _) 2 (.int .i64 (N + T))) (b := g + 1) (by have := HBe.out.2.2; omega) 0 (.int .i64 N)) (b := g + 1) (by have := HBe.out.2.2; omega) 1 (.int .i64 T)) (b := g + 1) (by have := HBe.out.2.2; omega) 2 (.int .i64 (N + T))) (b := g + 1) (by have := HBe.out.2.2; omega) 3 (.slice vo j vc)
                      exact Pt.own_mono ho (by have := HBe.out.2; omega)
                    · exact Mem.bset (Mem.bset (Mem.bset (Mem.bset (Mem.bset HBe.out.1 (by have := HBe.out.2; omega) _ _) (by have := HBe.out.2; omega) _ _) (by have := HBe.out.2; omega) _ _) (by have := HBe.out.2; omega) _ _) (by have := HBe.out.2; omega) _ _
                  · have HP : Hid (Iv.totE rs y m d ls = 7 ∧ Iv.totT rs y m d ls = Iv.Tot.zero) := Lib.hid (by
                      have h0 : Iv.sumE ps = 7 := by
                        unfold Iv.sumE
                        rw [if_neg (by rw [HU0.out.1]; simp), ← HU0.out.2.1, ← HU0.out.2.2]
                        exact e1
                      rw [HSum.out.1, HSum.out.2, h0]
                      exact ⟨rfl, rfl⟩)
                    rw [e1]
                    clear e1
                    obtain ⟨z0, z1, z2, z3⟩ := H.out.pst.res.cells
                    have f0 := H.out.pst.res.frozen 0
                    have f1 := H.out.pst.res.frozen 1
                    have f2 := H.out.pst.res.frozen 2
                    have f3 := H.out.pst.res.frozen 3
                    have HBe := Lib.hid (And.intro H.out.pst.bel H.out.pst.gw)
                    go_wp2_with fail
                    exact bodyPost_ret (v := .tuple #[Tt.val 0 0 0 (.slice none 0 0), .int .i64 7]) (by simp [results, Tt.val, Try.results15, go_sem, z0, z1, z2, z3]) rfl ⟨_, by rw [HP.out.1, HP.out.2]; rfl, by rw [HP.out.2]; exact Pt.own_nil _ _, Mem.bset (Mem.bset (Mem.bset (Mem.bset HBe.out.1 (by have := HBe.out.2; omega) _ _) (by have := HBe.out.2; omega) _ _) (by have := HBe.out.2; omega) _ _) (by have := HBe.out.2; omega) _ _⟩
end Go.Proofs.Ythcaecinjmnlbaa
