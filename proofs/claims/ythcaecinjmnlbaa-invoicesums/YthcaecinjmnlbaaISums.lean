/- THE WALK OF InvoiceSums. (By genisums.py.) -/
import Derived.Test.YthcaecinjmnlbaaITab
import Derived.Deep.RegionHeld3
import Derived.Deep.RegionLaw
import Derived.Deep.DeepCutAuto
import Derived.Deep.CutBlock
set_option maxRecDepth 100000
set_option linter.unusedVariables false
namespace Go.Proofs.Ythcaecinjmnlbaa
open Go.RowKit
open Mem (heap_old heap_next)
open Vt (Rt)
open Go.Sort (grow)

set_option maxHeartbeats 4000000 in
theorem invoiceSums_walk (rs : List Rt) (ao : Option Addr) (n ca : Nat) (y m d : Int) (ls : List Ln.T) (bo : Option Addr) (k cb : Nat) (w : World) (hR : Rts w ao n ca rs) (hy : Fit y) (hm : Fit m) (hd : Fit d) (hL : Ln.Ls w bo k cb ls) :
    Calls Try.prog 5 #[.slice ao n ca, dayV y m d, .slice bo k cb] w fun e w' => e = .returned (.bool true) ∧ Below w.heap.size w w' := by
  have HFt := Lib.hid (And.intro hy (And.intro hm hd))
  obtain ⟨U, hU⟩ : ∃ U, w.alloc (.cells #[.int .i64 y, .int .i64 m, .int .i64 d] 23) = U := ⟨_, rfl⟩
  have hbU : Below w.heap.size w U := hU ▸ (Below.refl _ _).alloc (Nat.le_refl _) _
  have hD : DayC U w.heap.size y m d := hU ▸ dayC_box w y m d
  have HR := Lib.hid (hR.below hbU)
  have HL := Lib.hid (hL.below hbU)
  have HD := Lib.hid hD
  have HBU := Lib.hid hbU
  have HUs := Lib.hid hU
  obtain ⟨g, hg⟩ : ∃ g, w.heap.size = g := ⟨_, rfl⟩
  have HGw := Lib.hid hg
  rw [hg] at HD
  clear hU hbU hD hR hL hy hm hd
  unfold dayV
  go_enter Try.func5, Try.ntmps5
  go_wp2_with fail
  rw [HUs.out]
  try rw [hg]
  clear hg HUs
  refine (few_any rs ls ao bo n ca k cb U HR.out HL.out).mono ?_
  rintro e w1 ⟨⟨n', m', rfl, hR1, hn1, hL1, hm1⟩, hw1⟩
  subst hw1
  obtain ⟨rs1, hrs⟩ : ∃ rs1, rs.take 30 = rs1 := ⟨_, rfl⟩
  obtain ⟨ls1, hls⟩ : ∃ ls1, ls.take 20 = ls1 := ⟨_, rfl⟩
  rw [hrs] at hR1
  rw [hls] at hL1
  have HR1 := Lib.hid hR1
  have HL1 := Lib.hid hL1
  have HLn := Lib.hid hL1.len
  have hfit := hL1.fits
  have hcap := hL1.reach
  have hfit2 := hR1.fits
  have hcap2 := hR1.reach
  clear hR1 hL1 hrs hls HR HL
  obtain ⟨tb, htb⟩ : ∃ tb, Vt.tab [] (rs1.take 30) = tb := ⟨_, rfl⟩
  have HTb := Lib.hid htb
  have HTs : Hid (∀ r ∈ tb, Short r) := Lib.hid (htb ▸ tab_short HR1.out.short 30)
  obtain ⟨nt, hnt⟩ : ∃ nt, tb.length = nt := ⟨_, rfl⟩
  have HNt := Lib.hid hnt
  clear htb hnt
  obtain ⟨E, hE⟩ : ∃ E, Iv.totE tb y m d ls1 = E := ⟨_, rfl⟩
  obtain ⟨⟨N, T, S, ps⟩, hT⟩ : ∃ X, Iv.totT tb y m d ls1 = X := ⟨_, rfl⟩
  have HE := Lib.hid hE
  have HT := Lib.hid hT
  have HPs : Hid (∀ r ∈ ps, Pt.Short r) := Lib.hid (by
    have h := totT_short (rs := tb) (y := y) (m := m) (d := d) (ls := ls1) HTs.out HL1.out.short
    rw [hT] at h
    exact h)
  clear hE hT
  go_wp2_with fail
  go_cut [7, 8] (fun p e wx => ∃ (b : Nat) (v : Value), p = .pointer (some ⟨b, 0, none⟩) ∧ e = .int .i64 E ∧ Hid (Held w1 wx b N T S v ps))
  case first =>
    have lx : ∀ u, Below w1.heap.size w1 u → Below w1.heap.size w1 u ∧ u.cell? ⟨g, 0, none⟩ = some (.int .i64 y) ∧ u.cell? ⟨g, 1, none⟩ = some (.int .i64 m) ∧ u.cell? ⟨g, 2, none⟩ = some (.int .i64 d) := fun u h => ⟨h, HD.out.below h⟩
    go_region_held3 (fun u => Below w1.heap.size w1 u ∧ u.cell? ⟨g, 0, none⟩ = some (.int .i64 y) ∧ u.cell? ⟨g, 1, none⟩ = some (.int .i64 m) ∧ u.cell? ⟨g, 2, none⟩ = some (.int .i64 d)) (first | with_reducible assumption | (apply lx; repeat (first | with_reducible assumption | with_reducible apply below_box | with_reducible apply Below.drew | with_reducible apply Mem.bset | with_reducible exact Below.refl _ _ | omega)) | fail) (first | (go_at_call 17; refine (tab_at rs1 ao n' ca nt tb w1 _ HR1.out HTb.out HNt.out (And.left (by assumption))).mono ?_; rintro e wl ⟨ta, tc, rfl, hTb, b⟩; have s1 := lx _ (bchain (And.left (by assumption)) b); have hBl := s1.1; have z1 := s1.1.size; (first | (have D : Tt.At wl _ 0 0 0 (.slice none 0 0) := (b.block _ (lt1 _ _)).trans (heap_alloc_new _ _); have D0 := D.lt) | skip)) | (go_at_call 10; refine (tot_at tb ls1 y m d E N T S ps _ _ _ nt m' _ cb HE.out HT.out (by first | exact hTb | exact hTb.below ((Below.refl _ _).alloc (Nat.le_refl _) _)) (HL1.out.below (And.left (by assumption))) HFt.out.1 HFt.out.2.1 HFt.out.2.2).mono ?_; rintro e wt ⟨v, rfl, hO, b⟩; have hBx := bchain (And.left (by assumption)) b; have s2 := lx _ hBx; have z2 := s2.1.size; (first | (have D := D.below b; have DB := D0) | (have D : Tt.At wt _ 0 0 0 (.slice none 0 0) := (b.block _ (lt1 _ _)).trans (heap_alloc_new _ _); have DC := fun a1 => lt1 wl a1) | skip); have hO2 := Pt.own_mono hO (Below.size (And.left (by assumption))); obtain ⟨vo, vn, vc, rfl⟩ := Pt.own_slice hO; (try (obtain ⟨q0, q1, q2, q3⟩ := D.cells; have p0 := D.frozen 0; have p1 := D.frozen 1; have p2 := D.frozen 2; have p3 := D.frozen 3))) | fail)
    all_goals (try go_wp2_with fail)
    all_goals go_meet
    all_goals first | exact ⟨_, _, rfl, rfl, Lib.hid (held_set hBx D hO DB (by omega))⟩ | exact ⟨_, _, rfl, rfl, Lib.hid (held_set hBx D hO (DC _) (by omega))⟩ | exact ⟨_, _, rfl, rfl, Lib.hid (held_new hBx hO2 (Nat.le_refl _))⟩
  case rest =>
    obtain ⟨b1, v1, rfl, rfl, H1⟩ := hcut
    have HB1 := Lib.hid (bchain HBU.out H1.out.1)
    obtain ⟨xo, xc, hx, hX, _⟩ := Pt.own_ls H1.out.2.2 HPs.out
    subst hx
    have hA := H1.out.2.1
    obtain ⟨p, hp⟩ : ∃ p, ps.length = p := ⟨_, rfl⟩
    rw [hp] at hX hA
    have HA := Lib.hid hA
    have HX := Lib.hid hX
    have HP := Lib.hid hp
    have hxf := hX.fits
    have hxc := hX.reach
    clear hA hX hp H1
    by_cases hE0 : E = 0
    · subst hE0
      obtain ⟨l, hl, hsort, hpos, hup, hN, hTx, hS, hF⟩ := tot_parts HE.out HT.out
      have HSo := Lib.hid hsort
      have HLp : Hid (l.length = p ∧ 0 < p) := Lib.hid (by
        have h := HP.out
        rw [hl, List.length_map] at h
        omega)
      have HFi := Lib.hid hF
      have HGr := Lib.hid hS
      have HLl := Lib.hid hl
      have HSm := Lib.hid (And.intro hup (And.intro hN hTx))
      clear hl hsort hpos hup hN hTx hS hF
      go_wp2_with fail
      go_loopw [9, 10, 11] (fun a b i wr => ∃ (j : Nat) (M V : Int), j ≤ p ∧ i = .int .i64 j ∧ a = .int .i64 M ∧ b = .int .i64 V ∧ Hid (Below wc.heap.size wc wr) ∧ Hid (Iv.upE (l.drop j) M V = 0 ∧ M + Iv.nets (l.drop j) = N ∧ V + Iv.taxes (l.drop j) = T ∧ Fit M ∧ Fit V)) (fun _ _ i _ => p - (intOf i).toNat)
      case atStart => exact ⟨0, 0, 0, by omega, rfl, rfl, rfl, Lib.hid (Below.refl _ _), Lib.hid ⟨HSm.out.1, by rw [← HSm.out.2.1]; exact Int.zero_add _, by rw [← HSm.out.2.2]; exact Int.zero_add _, ⟨by omega, by omega⟩, ⟨by omega, by omega⟩⟩⟩
      case round =>
        rename World => wy
        obtain ⟨j, M, V, hj, rfl, rfl, rfl, HBy, HU⟩ := hrel
        obtain ⟨t0, t1, t2, t3⟩ := (HA.out.below HBy.out).cells
        by_cases hjp : j < p
        · have hjl : j < l.length := by rw [HLp.out.1]; exact hjp
          have hjs : j < ps.length := by rw [HP.out]; exact hjp
          obtain ⟨bb, off, rfl⟩ := HX.out.at (by omega)
          have hrow := (HX.out.row j hjs).below HBy.out
          have HUp := Lib.hid (up_step hjl HU.out.1)
          have hpj : ps[j] = Iv.taxed l[j] := by simp only [HLl.out, List.getElem_map]
          have HU2 := Lib.hid (Iv.nets_at l j hjl)
          have HU3 := Lib.hid (Iv.taxes_at l j hjl)
          obtain ⟨q, hq⟩ : ∃ q, l[j] = q := ⟨_, rfl⟩
          rw [hpj, hq] at hrow
          rw [hq] at HUp HU2 HU3
          obtain ⟨r0, r1, r2, r3⟩ := hrow
          have r0' : wy.cell? ⟨bb, off + j * 4, none⟩ = some (.string q.cat) := r0
          have r2' : wy.cell? ⟨bb, off + j * 4 + 2, none⟩ = some (.int .i64 q.net) := r2
          obtain ⟨x, hx⟩ : ∃ x, Sh.taxV q.net q.bp = x := ⟨_, rfl⟩
          have r3' : wy.cell? ⟨bb, off + j * 4 + 3, none⟩ = some (.int .i64 x) := by rw [← hx]; exact r3
          rw [hx] at HUp HU3
          obtain ⟨m1, m2⟩ := HUp.out.1
          obtain ⟨m3, m4⟩ := HUp.out.2.1
          have k0 := cell_regrown r0'
          have k3 := cell_regrown t3
          by_cases hj0 : j = 0
          · subst hj0
            clear hpj hq r0 r1 r2 r3 hx
            go_wp2
            refine wp_region_quiet_below (by kernel_rfl) (by kernel_rfl) ?_
            repeat (first | go_big_quiet_step (fail) | quiet_step (fail))
            refine wpQuiet_nil ?_
            intro _ hw'
            obtain ⟨⟨dq, osq⟩, hw''⟩ := hw'
            subst hw''
            have HBz := Lib.hid (bchain HBy.out (below_regrown wy dq osq))
            go_wp2
            go_roundw
            case rel => exact ⟨0 + 1, M + q.net, V + x, by omega, by go_num, rfl, rfl, HBz, Lib.hid ⟨HUp.out.2.2, by have h1 := HU.out.2.1; have h2 := HU2.out; omega, by have h1 := HU.out.2.2.1; have h2 := HU3.out; omega, HUp.out.1, HUp.out.2.1⟩⟩
            case measure => simp [intOf]; omega
          · obtain ⟨i, rfl⟩ : ∃ i, j = i + 1 := ⟨j - 1, by omega⟩
            have hil : i < l.length := by omega
            have hrow2 := (HX.out.row i (by omega)).below HBy.out
            have hpi : ps[i]'(by omega) = Iv.taxed l[i] := by simp only [HLl.out, List.getElem_map]
            have hlt := Iv.sorted_next HSo.out i hjl
            obtain ⟨z, hz⟩ : ∃ z, l[i] = z := ⟨_, rfl⟩
            rw [hpi, hz] at hrow2
            rw [hq, hz] at hlt
            unfold Iv.lt at hlt
            have s0 : wy.cell? ⟨bb, off + i * 4, none⟩ = some (.string z.cat) := hrow2.1
            have l0 := cell_regrown s0
            clear hpj hpi hq hz hrow2 r0 r1 r2 r3 hx hj0
            go_wp2
            refine wp_region_quiet_below (by kernel_rfl) (by kernel_rfl) ?_
            repeat (first | go_big_quiet_step (fail) | quiet_step (fail))
            refine wpQuiet_nil ?_
            intro _ hw'
            obtain ⟨⟨dq, osq⟩, hw''⟩ := hw'
            subst hw''
            have HBz := Lib.hid (bchain HBy.out (below_regrown wy dq osq))
            go_wp2
            go_roundw
            case rel => exact ⟨i + 1 + 1, M + q.net, V + x, by omega, by go_num, rfl, rfl, HBz, Lib.hid ⟨HUp.out.2.2, by have h1 := HU.out.2.1; have h2 := HU2.out; omega, by have h1 := HU.out.2.2.1; have h2 := HU3.out; omega, HUp.out.1, HUp.out.2.1⟩⟩
            case measure => simp [intOf]; omega
        · obtain rfl : j = p := by omega
          have HD0 : Hid (l.drop j = []) := Lib.hid (List.drop_eq_nil_of_le (Nat.le_of_eq HLp.out.1))
          have hMN : M = N := by
            have h := HU.out.2.1
            rw [HD0.out] at h
            have h' : M + 0 = N := h
            omega
          have hVT : V = T := by
            have h := HU.out.2.2.1
            rw [HD0.out] at h
            have h' : V + 0 = T := h
            omega
          subst hMN hVT
          obtain ⟨f1, f2⟩ := HFi.out
          have hSS := HGr.out
          subst hSS
          have hj1 := HLp.out.2
          have HBz := Lib.hid (bchain HB1.out HBy.out)
          go_wp2_with fail
          refine (iruns w _ HBz.out).mono ?_
          rintro e w9 ⟨rfl, b9⟩
          have HB9 := Lib.hid b9
          clear b9
          go_wp2_with fail
          go_ret
          exact ⟨rfl, HB9.out⟩
    · have hz := HT.out
      have hz0 : Iv.totT tb y m d ls1 = Iv.Tot.zero := if_neg (by rw [HE.out]; exact hE0)
      rw [hz0] at hz
      unfold Iv.Tot.zero at hz
      simp only [Iv.Tot.mk.injEq] at hz
      obtain ⟨rfl, rfl, rfl, rfl⟩ := hz
      have hp0 : p = 0 := HP.out.symm
      subst hp0
      have hne : (E != 0) = true := bne_iff_ne.2 hE0
      obtain ⟨t0, t1, t2, t3⟩ := HA.out.cells
      clear hE0 hz0
      go_wp2_with fail
      refine (iruns w _ HB1.out).mono ?_
      rintro e w9 ⟨rfl, b9⟩
      have HB9 := Lib.hid b9
      clear b9
      go_wp2_with fail
      go_ret
      exact ⟨rfl, HB9.out⟩
end Go.Proofs.Ythcaecinjmnlbaa
