/- CONTRACTS OF PACKAGE invoice: whole. (By genwhole.py.) -/
import Derived.Test.YthcaecinjmnlbabInB
import Derived.Test.YthcaecinjmnlbabHg
import Derived.Deep.RegionLaw
import Derived.Deep.DeepCutAuto
import Derived.Deep.CutBlock
set_option maxRecDepth 100000
set_option linter.unusedVariables false
namespace Go.Proofs.Ythcaecinjmnlbab
open Go.RowKit
open Vt (Rt)
open Go.Sort (grow)

/-- what the walk carries from round to round -/
structure WSt (w wr : World) (g h n c : Nat) (N T : Int) (ps Z : List Pt.T) : Prop where
  hs : w.heap.size = h
  gh : g < h
  bel : Below g w wr
  res : Tt.At wr h 0 0 0 (.slice none 0 0)
  tot : Tt.At wr (h + 1) N T 0 (.slice (some ⟨g, 0, none⟩) n c)
  blk : Pt.Block wr g (ps ++ Z)
  sh : ∀ r ∈ ps, Pt.Short r
section
variable {w wr v : World} {g h n c : Nat} {N T : Int} {ps Z : List Pt.T}
theorem WSt.below (H : WSt w wr g h n c N T ps Z) (b : Below wr.heap.size wr v) : WSt w v g h n c N T ps Z :=
  ⟨H.hs, H.gh, H.bel.trans (b.mono (Nat.le_of_lt H.blk.lt)), H.res.below b, H.tot.below b, H.blk.below b, H.sh⟩
theorem WSt.row (H : WSt w wr g h n c N T ps Z) (k : Nat) (hk : k < ps.length) : Pt.At wr g (k * 4) ps[k] ∧ (∀ o, wr.frozen? ⟨g, o, none⟩ = false) := by
  have hr := H.blk.row k (by rw [List.length_append]; omega)
  rw [List.getElem_append_left hk] at hr
  exact ⟨hr, fun o => H.blk.frozen o⟩
theorem WSt.put (H : WSt w wr g h n c N T ps Z) (k p : Nat) (hk : k < ps.length) (hp : p < 4) (x : Value) (r : Pt.T) (hr : Pt.rv r = (Pt.rv ps[k]).set p x) (hs : Pt.Short r) : WSt w (wr.setCell ⟨g, k * 4 + p, none⟩ x) g h n c N T (ps.set k r) Z := by
  have e := H.gh
  refine ⟨H.hs, e, below_put H.bel (Nat.le_refl _) _ _, H.res.far (by omega) _ _, H.tot.far (by omega) _ _, ?_, ?_⟩
  · rw [← List.set_append_left _ _ hk]
    exact H.blk.put k p (by rw [List.length_append]; omega) hp x r (by rw [List.getElem_append_left hk]; exact hr)
  · intro a ha
    obtain ⟨j, hj, e'⟩ := List.getElem_of_mem ha
    rw [List.getElem_set] at e'
    split at e'
    · exact e' ▸ hs
    · exact H.sh a (e' ▸ List.getElem_mem _)
theorem WSt.setN (H : WSt w wr g h n c N T ps Z) (x : Int) : WSt w (wr.setCell ⟨h + 1, 0, none⟩ (.int .i64 x)) g h n c x T ps Z := by
  have e := H.gh
  exact ⟨H.hs, e, below_put H.bel (by omega) _ _, H.res.far (by omega) _ _, H.tot.set0 _, H.blk.far (by omega) _ _, H.sh⟩
theorem WSt.setT (H : WSt w wr g h n c N T ps Z) (x : Int) : WSt w (wr.setCell ⟨h + 1, 1, none⟩ (.int .i64 x)) g h n c N x ps Z := by
  have e := H.gh
  exact ⟨H.hs, e, below_put H.bel (by omega) _ _, H.res.far (by omega) _ _, H.tot.set1 _, H.blk.far (by omega) _ _, H.sh⟩
end
/-- what 'whole' answers -/
def WAns (w : World) (g : Nat) (E : Int) (T : Iv.Tot) (e : Ending) (w' : World) : Prop := ∃ v, e = .returned (.tuple #[Tt.val T.net T.tax T.gross v, .int .i64 E]) ∧ Pt.Own w' g v T.parts ∧ Below g w w'
/-- the total of the parts, or none -/
def Iv.sumW (ps : List Pt.T) : Iv.Tot := if Iv.sumE ps = 0 then Iv.sumT ps else Iv.Tot.zero
theorem whole_err {ps : List Pt.T} {E : Int} (k : Iv.upE ps 0 0 = E) (hE : E ≠ 0) : Iv.sumE ps = E ∧ Iv.sumW ps = Iv.Tot.zero := by
  have e : Iv.sumE ps = E := by
    unfold Iv.sumE
    rw [k, if_pos hE]
  unfold Iv.sumW
  rw [e, if_neg hE]
  exact ⟨rfl, rfl⟩
set_option maxHeartbeats 8000000 in
theorem inv_whole (ps Z : List Pt.T) (g n c : Nat) (w : World) (hB : Pt.Block w g (ps ++ Z)) (hn : n = ps.length) (hc : c = (ps ++ Z).length) (hc1 : c ≤ 1000) (hs : ∀ r ∈ ps, Pt.Short r) :
    Calls Try.prog 15 #[.slice (some ⟨g, 0, none⟩) n c] w (WAns w g (Iv.sumE ps) (Iv.sumW ps)) := by
  obtain ⟨U, hU⟩ : ∃ U, Tt.box (Tt.box w 0 0 0 (.slice none 0 0)) 0 0 0 (.slice (some ⟨g, 0, none⟩) n c) = U := ⟨_, rfl⟩
  have HW : Hid (WSt w U g w.heap.size n c 0 0 ps Z) := by
    have b1 := Tt.below_own w 0 0 0 (.slice none 0 0)
    have b2 := Tt.below_own (Tt.box w 0 0 0 (.slice none 0 0)) 0 0 0 (.slice (some ⟨g, 0, none⟩) n c)
    have hA := Tt.at_box (Tt.box w 0 0 0 (.slice none 0 0)) 0 0 0 (.slice (some ⟨g, 0, none⟩) n c)
    rw [Tt.box_size] at hA
    have hl := hB.lt
    rw [hU] at b2 hA
    exact ⟨rfl, hl, (bchain b1 b2).mono (Nat.le_of_lt hl), (Tt.at_box w 0 0 0 (.slice none 0 0)).below b2, hA, hB.below (bchain b1 b2), hs⟩
  have HN := Lib.hid hn
  have HCc := Lib.hid hc
  have HUs : Hid (U = (w.alloc (.cells #[.int .i64 0, .int .i64 0, .int .i64 0, .slice none 0 0] 34)).alloc (.cells #[.int .i64 0, .int .i64 0, .int .i64 0, .slice (some ⟨g, 0, none⟩) n c] 34)) := Lib.hid hU.symm
  have hnc : n ≤ c := by rw [hc, hn, List.length_append]; omega
  obtain ⟨h, hh⟩ : ∃ h, w.heap.size = h := ⟨_, rfl⟩
  rw [hh] at HW
  clear hB hn hc hs hU
  go_enter Try.func15, Try.ntmps15
  go_wp2_with fail
  rw [← HUs.out]
  clear HUs
  try rw [hh]
  clear hh
  go_loopw [5, 6, 7, 13] (fun _ _ _ i wr => ∃ (j : Nat) (N T : Int), j ≤ n ∧ i = .int .i64 j ∧ Hid (WSt w wr g h n c N T (Iv.mix ps j) Z) ∧ Hid (Iv.upE (ps.drop j) N T = Iv.upE ps 0 0 ∧ N + Iv.nets (ps.drop j) = Iv.nets ps ∧ T + Iv.taxes (ps.drop j) = Iv.taxes ps ∧ Fit N ∧ Fit T)) (fun _ _ _ i _ => n - (intOf i).toNat)
  case atStart => exact ⟨0, 0, 0, by omega, rfl, HW, Lib.hid ⟨rfl, Int.zero_add _, Int.zero_add _, ⟨by omega, by omega⟩, ⟨by omega, by omega⟩⟩⟩
  case round =>
    clear HW
    rename World => wy
    obtain ⟨j, N, T, hj, rfl, H, HU⟩ := hrel
    by_cases hjq : j < n
    · have hjp : j < ps.length := HN.out ▸ hjq
      have hjm : j < (Iv.mix ps j).length := by rw [Iv.mix_len]; exact hjp
      obtain ⟨hAt, hfz⟩ := H.out.row j hjm
      have hpm : (Iv.mix ps j)[j] = ps[j] := Option.some.inj ((List.getElem?_eq_getElem hjm).symm.trans (Iv.mix_at ps j hjp))
      have HMs := Lib.hid (Iv.mix_set ps j hjp)
      have HU1 := Lib.hid (Iv.upE_at ps N T j hjp)
      have HU2 := Lib.hid (Iv.nets_at ps j hjp)
      have HU3 := Lib.hid (Iv.taxes_at ps j hjp)
      have HSp : Hid (Pt.Short ps[j]) := Lib.hid (hpm ▸ H.out.sh _ (List.getElem_mem hjm))
      rw [hpm] at hAt
      obtain ⟨p, hp⟩ : ∃ p, ps[j] = p := ⟨_, rfl⟩
      rw [hp] at hAt HMs HU1 HU2 HU3 HSp hpm
      have HPm := Lib.hid hpm
      obtain ⟨E, hE⟩ : ∃ E, Sh.taxE p.net p.bp = E := ⟨_, rfl⟩
      obtain ⟨X, hX⟩ : ∃ X, Sh.taxV p.net p.bp = X := ⟨_, rfl⟩
      have c1 : ∀ u, Below wy.heap.size wy u → Calls Try.prog 32 #[.int .i64 p.net, .int .i64 p.bp] u fun e w'' => e = .returned (.tuple #[.int .i64 X, .int .i64 E]) ∧ Below wy.heap.size wy w'' := fun u hu => (tax_any p.net p.bp wy u hu HSp.out.2.2.1 HSp.out.2.1).mono fun e w'' ⟨h1, h2⟩ => ⟨by rw [h1, hE, hX]; rfl, h2⟩
      have HC1 := Lib.hid c1
      have HF3 : Hid (∀ u, Below wy.heap.size wy u → u.cell? ⟨g, j * 4 + 3, none⟩ = some (.int .i64 p.tax) ∧ u.frozen? ⟨g, j * 4 + 3, none⟩ = false) := Lib.hid fun u hu => by
        have h2 := (H.out.below hu).row j hjm
        rw [hpm] at h2
        exact ⟨h2.1.4, h2.2 _⟩
      rw [hE, hX] at HU1
      rw [hX] at HU3
      have HFX : Hid (Fit X) := Lib.hid (hX ▸ tax_fit p.net p.bp)
      have HTx : Hid (Iv.taxed p = ⟨p.cat, p.bp, p.net, X⟩) := Lib.hid (by unfold Iv.taxed; rw [hX])
      have HPut : Hid (∀ u, Below wy.heap.size wy u → WSt w (u.setCell ⟨g, j * 4 + 3, none⟩ (.int .i64 X)) g h n c N T (Iv.mix ps (j + 1)) Z) := Lib.hid fun u hu => by
        rw [← HMs.out, HTx.out]
        exact (H.out.below hu).put j 3 hjm (by omega) _ _ (by rw [HPm.out]; rfl) ⟨HSp.out.1, HSp.out.2.1, HSp.out.2.2.1, HFX.out⟩
      obtain ⟨r0, r1, r2, r3⟩ := hAt
      have hf3 := hfz (j * 4 + 3)
      clear hE hX hp hpm c1 hfz
      go_wp2_with fail
      go_cut [7] (fun e wx => e = .int .i64 E ∧ Hid (WSt w wx g h n c N T (Iv.mix ps (j + 1)) Z))
      case first =>
        go_region_with (go_at_call 32; refine (HC1.out _ (by first | exact Below.refl _ _ | exact (Below.refl _ _).drew)).mono ?_; rintro e u ⟨rfl, hu⟩; have q3 := (HF3.out u hu).1; have q4 := (HF3.out u hu).2; have HBu := Lib.hid hu; clear hu)
        all_goals (try go_wp2_with fail)
        all_goals go_meet
        all_goals exact ⟨rfl, Lib.hid (by first | exact HPut.out _ HBu.out | exact (HPut.out _ HBu.out).below (Below.refl _ _).drew)⟩
      case rest =>
        obtain ⟨rfl, H1⟩ := hcut
        clear r0 r1 r2 r3 hf3 HPut HC1 HF3 H
        by_cases hE0 : E = 0
        · subst hE0
          rw [if_neg (by simp)] at HU1
          have hjm2 : j < (Iv.mix ps (j + 1)).length := by rw [Iv.mix_len]; exact hjp
          have hpm2 : (Iv.mix ps (j + 1))[j] = Iv.taxed p := by
            have h1 : (Iv.mix ps (j + 1))[j]? = some (Iv.taxed p) := by rw [← HMs.out, List.getElem?_set_self hjm]
            exact Option.some.inj ((List.getElem?_eq_getElem hjm2).symm.trans h1)
          obtain ⟨hAt2, hfz2⟩ := H1.out.row j hjm2
          rw [hpm2, HTx.out] at hAt2
          obtain ⟨r0, r1, r2, r3⟩ := hAt2
          obtain ⟨t0, t1, t2, t3⟩ := H1.out.tot.cells
          have hf0 := H1.out.tot.frozen 0
          have HSN : Hid (∀ x, WSt w (wc.setCell ⟨h + 1, 0, none⟩ (.int .i64 x)) g h n c x T (Iv.mix ps (j + 1)) Z) := Lib.hid fun x => H1.out.setN x
          clear hfz2 r0 r1 r3 t1 t2 t3
          go_wp2_with fail
          go_cut [7] (fun e wv => e = .int .i64 (Mn.err (N + p.net)) ∧ Hid (WSt w wv g h n c (Mn.amt (N + p.net)) T (Iv.mix ps (j + 1)) Z))
          case first =>
            go_region_with (go_at_call 31; refine (add_any N p.net _ HU.out.2.2.2.1 HSp.out.2.2.1).mono ?_; rintro e u ⟨rfl, hu⟩; subst hu; unfold both)
            all_goals (try go_wp2_with fail)
            all_goals go_meet
            all_goals exact ⟨rfl, Lib.hid (by first | exact HSN.out _ | exact (HSN.out _).below (Below.refl _ _).drew)⟩
          case rest =>
            obtain ⟨rfl, H2⟩ := hcut
            clear r2 t0 hf0 HSN H1
            rcases Mn.err_two (N + p.net) with e1 | e1
            · rw [e1]
              rw [Mn.amt_fit (Iv.err_0 e1)] at H2
              rw [e1, if_neg (by simp)] at HU1
              have HFN := Lib.hid (Iv.err_0 e1)
              clear e1
              obtain ⟨hAt3, _⟩ := H2.out.row j hjm2
              rw [hpm2, HTx.out] at hAt3
              obtain ⟨r0, r1, r2, r3⟩ := hAt3
              obtain ⟨t0, t1, t2, t3⟩ := H2.out.tot.cells
              have hf1 := H2.out.tot.frozen 1
              rename World => wd
              have HST : Hid (∀ x, WSt w (wd.setCell ⟨h + 1, 1, none⟩ (.int .i64 x)) g h n c (N + p.net) x (Iv.mix ps (j + 1)) Z) := Lib.hid fun x => H2.out.setT x
              clear r0 r1 r2 t0 t2 t3
              go_wp2_with fail
              go_cut [7] (fun e wv => e = .int .i64 (Mn.err (T + X)) ∧ Hid (WSt w wv g h n c (N + p.net) (Mn.amt (T + X)) (Iv.mix ps (j + 1)) Z))
              case first =>
                go_region_with (go_at_call 31; refine (add_any T X _ HU.out.2.2.2.2 HFX.out).mono ?_; rintro e u ⟨rfl, hu⟩; subst hu; unfold both)
                all_goals (try go_wp2_with fail)
                all_goals go_meet
                all_goals exact ⟨rfl, Lib.hid (by first | exact HST.out _ | exact (HST.out _).below (Below.refl _ _).drew)⟩
              case rest =>
                obtain ⟨rfl, H3⟩ := hcut
                clear r3 t1 hf1 HST H2
                rcases Mn.err_two (T + X) with e2 | e2
                · rw [Mn.amt_fit (Iv.err_0 e2)] at H3
                  rw [e2]
                  rw [e2, if_neg (by simp)] at HU1
                  have HFT := Lib.hid (Iv.err_0 e2)
                  clear e2
                  go_wp2_with fail
                  go_roundw
                  case rel => exact ⟨j + 1, N + p.net, T + X, by omega, by go_num, H3, Lib.hid ⟨by rw [← HU1.out]; exact HU.out.1, by have h1 := HU.out.2.1; have h2 := HU2.out; omega, by have h1 := HU.out.2.2.1; have h2 := HU3.out; omega, HFN.out, HFT.out⟩⟩
                  case measure => simp [intOf]; omega
                · have HP := Lib.hid (whole_err (ps := ps) (E := 7) (by rw [← HU.out.1, HU1.out, e2]; rfl) (by omega))
                  rw [e2]
                  clear e2
                  obtain ⟨z0, z1, z2, z3⟩ := H3.out.res.cells
                  have f0 := H3.out.res.frozen 0
                  have f1 := H3.out.res.frozen 1
                  have f2 := H3.out.res.frozen 2
                  have f3 := H3.out.res.frozen 3
                  have HBe := Lib.hid (And.intro H3.out.bel (And.intro H3.out.hs H3.out.gh))
                  go_wp2_with fail
                  exact bodyPost_ret (v := .tuple #[Tt.val 0 0 0 (.slice none 0 0), .int .i64 7]) (by simp [results, Tt.val, Try.results15, go_sem, z0, z1, z2, z3]) rfl ⟨_, by rw [HP.out.1, HP.out.2]; rfl, by rw [HP.out.2]; exact Pt.own_nil _ _, below_put (below_put (below_put (below_put HBe.out.1 (by have := HBe.out.2; omega) _ _) (by have := HBe.out.2; omega) _ _) (by have := HBe.out.2; omega) _ _) (by have := HBe.out.2; omega) _ _⟩
            · have HP := Lib.hid (whole_err (ps := ps) (E := 7) (by rw [← HU.out.1, HU1.out, e1]; rfl) (by omega))
              rw [e1]
              clear e1
              obtain ⟨z0, z1, z2, z3⟩ := H2.out.res.cells
              have f0 := H2.out.res.frozen 0
              have f1 := H2.out.res.frozen 1
              have f2 := H2.out.res.frozen 2
              have f3 := H2.out.res.frozen 3
              have HBe := Lib.hid (And.intro H2.out.bel (And.intro H2.out.hs H2.out.gh))
              go_wp2_with fail
              exact bodyPost_ret (v := .tuple #[Tt.val 0 0 0 (.slice none 0 0), .int .i64 7]) (by simp [results, Tt.val, Try.results15, go_sem, z0, z1, z2, z3]) rfl ⟨_, by rw [HP.out.1, HP.out.2]; rfl, by rw [HP.out.2]; exact Pt.own_nil _ _, below_put (below_put (below_put (below_put HBe.out.1 (by have := HBe.out.2; omega) _ _) (by have := HBe.out.2; omega) _ _) (by have := HBe.out.2; omega) _ _) (by have := HBe.out.2; omega) _ _⟩
        · have HP := Lib.hid (whole_err (ps := ps) (E := E) (by rw [← HU.out.1, HU1.out, if_pos hE0]) hE0)
          have hne : (E != 0) = true := bne_iff_ne.2 hE0
          clear hE0
          obtain ⟨z0, z1, z2, z3⟩ := H1.out.res.cells
          have f0 := H1.out.res.frozen 0
          have f1 := H1.out.res.frozen 1
          have f2 := H1.out.res.frozen 2
          have f3 := H1.out.res.frozen 3
          have HBe := Lib.hid (And.intro H1.out.bel (And.intro H1.out.hs H1.out.gh))
          go_wp2_with fail
          exact bodyPost_ret (v := .tuple #[Tt.val 0 0 0 (.slice none 0 0), .int .i64 E]) (by simp [results, Tt.val, Try.results15, go_sem, z0, z1, z2, z3]) rfl ⟨_, by rw [HP.out.1, HP.out.2]; rfl, by rw [HP.out.2]; exact Pt.own_nil _ _, below_put (below_put (below_put (below_put HBe.out.1 (by have := HBe.out.2; omega) _ _) (by have := HBe.out.2; omega) _ _) (by have := HBe.out.2; omega) _ _) (by have := HBe.out.2; omega) _ _⟩
    · obtain rfl : j = n := by omega
      have HD : Hid (ps.drop j = []) := Lib.hid (List.drop_eq_nil_of_le (Nat.le_of_eq HN.out.symm))
      have HU0 : Hid (Iv.upE ps 0 0 = 0 ∧ N = Iv.nets ps ∧ T = Iv.taxes ps) := Lib.hid (by
        have h := HU.out
        rw [HD.out] at h
        have h1 : N + 0 = Iv.nets ps := h.2.1
        have h2 : T + 0 = Iv.taxes ps := h.2.2.1
        exact ⟨h.1.symm, by omega, by omega⟩)
      have HMx : Hid (Iv.mix ps j = ps.map Iv.taxed) := Lib.hid (by rw [HN.out]; exact Iv.mix_all ps)
      rw [HMx.out] at H
      obtain ⟨t0, t1, t2, t3⟩ := H.out.tot.cells
      have hf2 := H.out.tot.frozen 2
      go_wp2_with fail
      refine (add_any N T _ HU.out.2.2.2.1 HU.out.2.2.2.2).mono ?_
      rintro e wu ⟨rfl, hwu⟩
      subst hwu
      unfold both
      rcases Mn.err_two (N + T) with e1 | e1
      · rw [e1, Mn.amt_fit (Iv.err_0 e1)]
        have HP : Hid (Iv.sumE ps = 0 ∧ Iv.sumW ps = Iv.sumT ps) := Lib.hid (by
          have h0 : Iv.sumE ps = 0 := by
            unfold Iv.sumE
            rw [if_neg (by rw [HU0.out.1]; simp), ← HU0.out.2.1, ← HU0.out.2.2]
            exact e1
          exact ⟨h0, if_pos h0⟩)
        clear e1
        obtain ⟨z0, z1, z2, z3⟩ := H.out.res.cells
        have f0 := H.out.res.frozen 0
        have f1 := H.out.res.frozen 1
        have f2 := H.out.res.frozen 2
        have f3 := H.out.res.frozen 3
        have HBe := Lib.hid (And.intro H.out.bel (And.intro H.out.hs H.out.gh))
        go_wp2_with fail
        refine bodyPost_ret (v := .tuple #[Tt.val N T (N + T) (.slice (some ⟨g, 0, none⟩) j c), .int .i64 0]) (by simp [results, Tt.val, Try.results15, go_sem, z0, z1, z2, z3]) rfl ⟨.slice (some ⟨g, 0, none⟩) j c, ?_, ?_, ?_⟩
        · rw [HP.out.1, HP.out.2]
          unfold Iv.sumT
          rw [← HU0.out.2.1, ← HU0.out.2.2]
        · rw [HP.out.2]
          have hgh := HBe.out.2.2
          have hb : Pt.Block _ g (ps.map Iv.taxed ++ Z) := (((((H.out.blk.far (b := h + 1) (by omega) 2 (.int .i64 (N + T))).far (b := h) (by omega) 0 (.int .i64 N)).far (b := h) (by omega) 1 (.int .i64 T)).far (b := h) (by omega) 2 (.int .i64 (N + T))).far (b := h) (by omega) 3 (.slice (some ⟨g, 0, none⟩) j c))
          have ho : Pt.Own _ g (.slice (some ⟨g, 0, none⟩) j c) (ps.map Iv.taxed) := Pt.own_front hb (Nat.le_refl _) (by rw [List.length_map]; exact HN.out) (by rw [List.length_append, List.length_map, ← List.length_append]; exact HCc.out) hc1
          exact ho
        · exact below_put (below_put (below_put (below_put (below_put HBe.out.1 (by have := HBe.out.2; omega) _ _) (by have := HBe.out.2; omega) _ _) (by have := HBe.out.2; omega) _ _) (by have := HBe.out.2; omega) _ _) (by have := HBe.out.2; omega) _ _
      · have HP : Hid (Iv.sumE ps = 7 ∧ Iv.sumW ps = Iv.Tot.zero) := Lib.hid (by
          have h0 : Iv.sumE ps = 7 := by
            unfold Iv.sumE
            rw [if_neg (by rw [HU0.out.1]; simp), ← HU0.out.2.1, ← HU0.out.2.2]
            exact e1
          unfold Iv.sumW
          rw [h0]
          exact ⟨rfl, rfl⟩)
        rw [e1]
        clear e1
        obtain ⟨z0, z1, z2, z3⟩ := H.out.res.cells
        have f0 := H.out.res.frozen 0
        have f1 := H.out.res.frozen 1
        have f2 := H.out.res.frozen 2
        have f3 := H.out.res.frozen 3
        have HBe := Lib.hid (And.intro H.out.bel (And.intro H.out.hs H.out.gh))
        go_wp2_with fail
        exact bodyPost_ret (v := .tuple #[Tt.val 0 0 0 (.slice none 0 0), .int .i64 7]) (by simp [results, Tt.val, Try.results15, go_sem, z0, z1, z2, z3]) rfl ⟨_, by rw [HP.out.1, HP.out.2]; rfl, by rw [HP.out.2]; exact Pt.own_nil _ _, below_put (below_put (below_put (below_put (below_put HBe.out.1 (by have := HBe.out.2; omega) _ _) (by have := HBe.out.2; omega) _ _) (by have := HBe.out.2; omega) _ _) (by have := HBe.out.2; omega) _ _) (by have := HBe.out.2; omega) _ _⟩
end Go.Proofs.Ythcaecinjmnlbab
