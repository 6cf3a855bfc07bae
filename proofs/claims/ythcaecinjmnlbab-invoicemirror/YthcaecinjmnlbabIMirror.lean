/- THE WALK OF InvoiceMirror. (By genmirror.py.) -/
import Derived.Test.YthcaecinjmnlbabITab
import Derived.Test.YthcaecinjmnlbabBookZ
import Derived.Deep.RegionHeld3
set_option maxRecDepth 100000
set_option linter.unusedVariables false
namespace Go.Proofs.Ythcaecinjmnlbab
open Go.RowKit
open Vt (Rt)
open Go.Sort (grow)

theorem Ln.own_some {w : World} {B n cap : Nat} {va : Option Addr} {M : List Ln.T} (h : Ln.Own w B (.slice va n cap) M) (hn : 0 < M.length) : ∃ vg, va = some ⟨vg, 0, none⟩ := by
  rcases h.2 with ⟨h', h0⟩ | ⟨g', c', cu, h', _⟩
  · omega
  · simp only [Value.slice.injEq] at h'
    exact ⟨g', h'.1⟩
theorem Ln.own_lt {w : World} {B n cap vg : Nat} {M : List Ln.T} (h : Ln.Own w B (.slice (some ⟨vg, 0, none⟩) n cap) M) : vg < w.heap.size := by
  rcases h.2 with ⟨h', h0⟩ | ⟨g', c', cu, h', _, hg, _⟩
  · cases h'
  · simp only [Value.slice.injEq, Option.some.injEq, Addr.mk.injEq, and_true] at h'
    obtain ⟨hl, _⟩ := Array.getElem?_eq_some_iff.1 hg
    rw [h'.1]
    exact hl
theorem Ln.own_ne {w : World} {B n cap vg b : Nat} {M : List Ln.T} (h : Ln.Own w B (.slice (some ⟨vg, 0, none⟩) n cap) M) (hne : vg ≠ b) (o : Nat) (x : Value) : Ln.Own (w.setCell ⟨b, o, none⟩ x) B (.slice (some ⟨vg, 0, none⟩) n cap) M := by
  obtain ⟨h1, h2⟩ := h
  refine ⟨h1, ?_⟩
  rcases h2 with h2 | ⟨g, c, cur, h', hb, hg, h3⟩
  · exact .inl h2
  · refine .inr ⟨g, c, cur, h', hb, ?_, h3⟩
    simp only [Value.slice.injEq, Option.some.injEq, Addr.mk.injEq, and_true] at h'
    rw [heap_setCell_other w ⟨b, o, none⟩ g x (by show g ≠ b; rw [← h'.1]; exact hne)]
    exact hg
theorem far2 {u : World} {vg vh a b o : Nat} {x y z : Value} (hne : vh ≠ vg) (h : u.cell? ⟨vg, a, none⟩ = some x ∧ u.cell? ⟨vg, b, none⟩ = some y) : (u.setCell ⟨vh, o, none⟩ z).cell? ⟨vg, a, none⟩ = some x ∧ (u.setCell ⟨vh, o, none⟩ z).cell? ⟨vg, b, none⟩ = some y := by
  rw [World.cell?_setCell_far u ⟨vh, o, none⟩ ⟨vg, a, none⟩ z hne, World.cell?_setCell_far u ⟨vh, o, none⟩ ⟨vg, b, none⟩ z hne]
  exact h
theorem set_mid {P D : List Ln.T} {r x : Ln.T} {j : Nat} (h : P.length = j) : (P ++ r :: D).set j x = (P ++ [x]) ++ D := by
  subst h
  rw [List.set_append_right _ _ (Nat.le_refl _), Nat.sub_self, List.set_cons_zero, List.append_assoc]
  rfl
theorem get_mid {P D : List Ln.T} {r : Ln.T} {j : Nat} (h : P.length = j) : ∃ hl : j < (P ++ r :: D).length, (P ++ r :: D)[j] = r := by
  subst h
  refine ⟨by simp, ?_⟩
  rw [List.getElem_append_right (Nat.le_refl _)]
  simp
theorem Ln.own_list {w : World} {B n cap : Nat} {va : Option Addr} {M : List Ln.T} (h : Ln.Own w B (.slice va n cap) M) (hs : ∀ x ∈ M, Ln.Short x) : Ln.Ls w va n cap M := by
  obtain ⟨va', vc', e, hl, _⟩ := Ln.own_ls h hs
  simp only [Value.slice.injEq] at e
  obtain ⟨e1, e2, e3⟩ := e
  subst e1 e3
  rw [← e2] at hl
  exact hl
/-- two lists, of which so many lines are turned -/
structure MSt (w1 wr : World) (Bb : Nat) (va vb : Option Addr) (n vc vd : Nat) (ls P : List Ln.T) (j : Nat) : Prop where
  bel : Below w1.heap.size w1 wr
  bb : w1.heap.size ≤ Bb
  a : Ln.Own wr w1.heap.size (.slice va n vc) (P ++ ls.drop j)
  b : Ln.Own wr Bb (.slice vb n vd) (P.map Iv.neg ++ ls.drop j)
  av : ∀ vg, va = some ⟨vg, 0, none⟩ → vg < Bb
  len : P.length = j
  sm : ∀ x ∈ P, Iv.Small x ∧ Ln.Short x
set_option maxHeartbeats 8000000 in
theorem invoiceMirror_walk (rs : List Rt) (ao : Option Addr) (n ca : Nat) (y m d : Int) (ls : List Ln.T) (bo : Option Addr) (k cb : Nat) (w : World) (hR : Rts w ao n ca rs) (hy : Fit y) (hm : Fit m) (hd : Fit d) (hL : Ln.Ls w bo k cb ls) :
    Calls Try.prog 3 #[.slice ao n ca, dayV y m d, .slice bo k cb] w fun e w' => e = .returned (.bool true) ∧ Below w.heap.size w w' := by
  have HFt := Lib.hid (And.intro hy (And.intro hm hd))
  obtain ⟨U, hU⟩ : ∃ U, w.alloc (.cells #[.int .i64 y, .int .i64 m, .int .i64 d] 24) = U := ⟨_, rfl⟩
  have hbU : Below w.heap.size w U := hU ▸ (Below.refl _ _).alloc (Nat.le_refl _) _
  have hD : DayC U w.heap.size y m d := hU ▸ dayC_box w y m d
  have HR := Lib.hid (hR.below hbU)
  have HL := Lib.hid (hL.below hbU)
  have HD := Lib.hid hD
  have HBU := Lib.hid hbU
  have HUs := Lib.hid hU
  obtain ⟨g, hg⟩ : ∃ g, w.heap.size = g := ⟨_, rfl⟩
  have HGw := Lib.hid hg
  rw [hg] at HD
  clear hU hbU hD hR hL hy hm hd
  unfold dayV
  go_enter Try.func3, Try.ntmps3
  go_wp2_with fail
  rw [HUs.out]
  try rw [hg]
  clear hg HUs
  refine (few_any rs ls ao bo n ca k cb U HR.out HL.out).mono ?_
  rintro e w1 ⟨⟨n', m', rfl, hR1, hn1, hL1, hm1⟩, hw1⟩
  subst hw1
  obtain ⟨rs1, hrs⟩ : ∃ rs1, rs.take 30 = rs1 := ⟨_, rfl⟩
  obtain ⟨ls1, hls⟩ : ∃ ls1, ls.take 20 = ls1 := ⟨_, rfl⟩
  rw [hrs] at hR1
  rw [hls] at hL1
  have HR1 := Lib.hid hR1
  have HL1 := Lib.hid hL1
  have HLn := Lib.hid hL1.len
  have hfit := hL1.fits
  have hcap := hL1.reach
  have hfit2 := hR1.fits
  have hcap2 := hR1.reach
  clear hR1 hL1 hrs hls HR HL
  obtain ⟨tb, htb⟩ : ∃ tb, Vt.tab [] (rs1.take 30) = tb := ⟨_, rfl⟩
  have HTb := Lib.hid htb
  have HTs : Hid (∀ r ∈ tb, Short r) := Lib.hid (htb ▸ tab_short HR1.out.short 30)
  obtain ⟨nt, hnt⟩ : ∃ nt, tb.length = nt := ⟨_, rfl⟩
  have HNt := Lib.hid hnt
  clear htb hnt
  have hm20 : m' ≤ 20 := hm1
  go_wp2_with (at_builtin; go_must (refine Ln.wpList_append _ rfl (.tmp 23) (.tmp 24) rfl w1.heap.size (.slice (some ⟨w1.heap.size, 0, none⟩) 0 0) [] rfl (Ln.own_empty (Nat.le_refl _) (heap_alloc_new w1 _)) bo m' cb ls1 rfl HL1.out.len HL1.out.nil ((HL1.out.below ((Below.refl _ _).alloc (Nat.le_refl _) _)).seg) (by simp only [List.length_nil]; omega) (by simp) ?_))
  intro v1 w2 o1 gr1 _
  have hb2 : Below w1.heap.size w1 w2 := ((Below.refl w1.heap.size w1).alloc (Nat.le_refl _) _).grown gr1 (by simp) (fun j hj => by simp only [Value.ownBlock, Option.some.injEq] at hj; omega)
  have HB2 := Lib.hid hb2
  try rw [List.nil_append] at o1
  obtain ⟨va, vc, hv1, hV, _⟩ := Ln.own_ls o1 HL1.out.short
  subst hv1
  rw [← HLn.out] at o1 hV
  rw [← HLn.out]
  have hvc := hV.reach
  have hvf := hV.fits
  have HO1 := Lib.hid o1
  have HL2 := Lib.hid (HL1.out.below hb2)
  clear gr1 o1 hV hb2
  go_wp2_with (at_builtin; go_must (refine Ln.wpList_append _ rfl (.tmp 26) (.tmp 27) rfl w2.heap.size (.slice (some ⟨w2.heap.size, 0, none⟩) 0 0) [] rfl (Ln.own_empty (Nat.le_refl _) (heap_alloc_new w2 _)) bo m' cb ls1 rfl HL2.out.len HL2.out.nil ((HL2.out.below ((Below.refl _ _).alloc (Nat.le_refl _) _)).seg) (by simp only [List.length_nil]; omega) (by simp) ?_))
  intro v2 w3 o2 gr2 _
  have hb3 : Below w2.heap.size w2 w3 := ((Below.refl w2.heap.size w2).alloc (Nat.le_refl _) _).grown gr2 (by simp) (fun j hj => by simp only [Value.ownBlock, Option.some.injEq] at hj; omega)
  try rw [List.nil_append] at o2
  obtain ⟨vb, vd, hv2, hV, _⟩ := Ln.own_ls o2 HL1.out.short
  subst hv2
  rw [← HLn.out] at o2 hV
  rw [← HLn.out]
  have hvd := hV.reach
  have hve := hV.fits
  have HM0 : Hid (MSt w1 w3 w2.heap.size va vb m' vc vd ls1 [] 0) := Lib.hid ⟨bchain HB2.out hb3, HB2.out.size, Ln.own_below HO1.out hb3, o2, fun vg h => by subst h; exact Ln.own_lt HO1.out, rfl, by simp⟩
  clear gr2 o2 hV hb3 HO1 HB2 HL2
  generalize w2.heap.size = Bb at *
  go_wp2_with fail
  go_loopw [9] (fun i wr => ∃ (j : Nat) (P : List Ln.T), j ≤ m' ∧ i = .int .i64 j ∧ Hid (MSt w1 wr Bb va vb m' vc vd ls1 P j)) (fun i _ => m' - (intOf i).toNat)
  case atStart => exact ⟨0, [], by omega, rfl, HM0⟩
  case round =>
    clear HM0
    rename World => wz
    obtain ⟨j, P, hj, rfl, H⟩ := hrel
    by_cases hjm : j < m'
    · obtain ⟨lb, off, rfl⟩ := HL1.out.at (by omega)
      have hjl : j < ls1.length := by rw [← HLn.out]; exact hjm
      have hrow := (HL1.out.row j hjl).below H.out.bel
      have hdr := List.drop_eq_getElem_cons hjl
      have HSr := Lib.hid (HL1.out.short _ (List.getElem_mem hjl))
      obtain ⟨r, hr⟩ : ∃ r, ls1[j] = r := ⟨_, rfl⟩
      rw [hr] at hrow hdr HSr
      have HDr := Lib.hid hdr
      clear hr
      obtain ⟨g0, g1, g2, g3⟩ := hrow
      have hOa := H.out.a
      have hOb := H.out.b
      rw [hdr] at hOa hOb
      obtain ⟨vg, rfl⟩ := Ln.own_some hOa (by rw [List.length_append, List.length_cons]; omega)
      obtain ⟨vh, rfl⟩ := Ln.own_some hOb (by rw [List.length_append, List.length_cons]; omega)
      have hvgb := H.out.av vg rfl
      obtain ⟨hla, hga⟩ := get_mid (P := P) (D := ls1.drop (j + 1)) (r := r) H.out.len
      have hPn : (P.map Iv.neg).length = j := by rw [List.length_map]; exact H.out.len
      obtain ⟨hlb, hgb⟩ := get_mid (P := P.map Iv.neg) (D := ls1.drop (j + 1)) (r := r) hPn
      have hata := Ln.own_at hOa j hla
      have hatb := Ln.own_at hOb j hlb
      rw [hga] at hata
      rw [hgb] at hatb
      obtain ⟨⟨s0, s1, s2, s3⟩, hfa, hBa⟩ := hata
      have hBb := hatb.2.2
      have hfb2 := hatb.2.1 (j * 4 + 2)
      have hfb3 := hatb.2.1 (j * 4 + 3)
      obtain ⟨q0, q1, q2, q3⟩ := hatb.1
      have hfa2 := hfa (j * 4 + 2)
      have hfa3 := hfa (j * 4 + 3)
      have hne : vg ≠ vh := by omega
      have hne' : vh ≠ vg := by omega
      have HOa := Lib.hid hOa
      have HOb := Lib.hid hOb
      have HGa := Lib.hid hga
      have HGb := Lib.hid hgb
      have HPn := Lib.hid hPn
      clear hOa hOb hatb hfa hga hgb hdr hPn
      go_wp2_with fail
      refine (bookWithin_z r.count 1 1000 _ HSr.out.2.2.1 (by omega) (by omega) (by omega)).mono ?_
      rintro e wx ⟨⟨c, rfl, hc0, hc1⟩, hx⟩
      subst hx
      have hbl := H.out.bel
      have g3' : (wx.setCell ⟨vg, j * 4 + 2, none⟩ (.int .i64 c)).cell? ⟨lb, off + j * 4 + 3, none⟩ = some (.int .i64 r.price) := by
        rw [World.cell?_setCell_far wx ⟨vg, j * 4 + 2, none⟩ ⟨lb, off + j * 4 + 3, none⟩ _ (by
          intro e'
          have h1 := cell_lt ((HL1.out.row j hjl).4)
          have h2 : vg = lb := e'
          omega)]
        exact g3
      go_wp2_with fail
      refine (bookWithin_z r.price (-1099511627776) 1099511627776 _ HSr.out.2.2.2 (by omega) (by omega) (by omega)).mono ?_
      rintro e wy ⟨⟨q, rfl, hq0, hq1⟩, hy⟩
      subst hy
      have h1 := Ln.own_put HOa.out j 2 hla (by omega) (.int .i64 c) ⟨r.text, r.category, c, r.price⟩ (by rw [HGa.out]; rfl)
      have hla1 : j < ((P ++ r :: ls1.drop (j + 1)).set j ⟨r.text, r.category, c, r.price⟩).length := by rw [List.length_set]; exact hla
      have h2 := Ln.own_put h1 j 3 hla1 (by omega) (.int .i64 q) ⟨r.text, r.category, c, q⟩ (by rw [List.getElem_set_self]; rfl)
      rw [List.set_set] at h2
      have hla2 : j < ((P ++ r :: ls1.drop (j + 1)).set j ⟨r.text, r.category, c, q⟩).length := by rw [List.length_set]; exact hla
      have hat2 := (Ln.own_at h2 j hla2).1
      rw [List.getElem_set_self] at hat2
      obtain ⟨u0, u1, u2, u3⟩ := hat2
      have k1 := Ln.own_far (Ln.own_far HOb.out hvgb (j * 4 + 2) (.int .i64 c)) hvgb (j * 4 + 3) (.int .i64 q)
      have k2 := Ln.own_put k1 j 2 hlb (by omega) (.int .i64 c) ⟨r.text, r.category, c, r.price⟩ (by rw [HGb.out]; rfl)
      have hlb1 : j < ((P.map Iv.neg ++ r :: ls1.drop (j + 1)).set j ⟨r.text, r.category, c, r.price⟩).length := by rw [List.length_set]; exact hlb
      have k3 := Ln.own_put k2 j 3 hlb1 (by omega) (.int .i64 (-q)) ⟨r.text, r.category, c, -q⟩ (by rw [List.getElem_set_self]; rfl)
      rw [List.set_set, set_mid HPn.out] at k3
      have h3 := Ln.own_ne (Ln.own_ne h2 hne (j * 4 + 2) (.int .i64 c)) hne (j * 4 + 3) (.int .i64 (-q))
      rw [set_mid H.out.len] at h3
      have hb4 := below_put (below_put (below_put (below_put H.out.bel hBa (j * 4 + 2) (.int .i64 c)) hBa (j * 4 + 3) (.int .i64 q)) (Nat.le_trans H.out.bb hBb) (j * 4 + 2) (.int .i64 c)) (Nat.le_trans H.out.bb hBb) (j * 4 + 3) (.int .i64 (-q))
      have HN : Hid (MSt w1 ((((wx.setCell ⟨vg, j * 4 + 2, none⟩ (.int .i64 c)).setCell ⟨vg, j * 4 + 3, none⟩ (.int .i64 q)).setCell ⟨vh, j * 4 + 2, none⟩ (.int .i64 c)).setCell ⟨vh, j * 4 + 3, none⟩ (.int .i64 (-q))).drew Bb (some ⟨vg, 0, none⟩) (some ⟨vh, 0, none⟩) m' vc vd ls1 (P ++ [⟨r.text, r.category, c, q⟩]) (j + 1)) := Lib.hid ⟨hb4.drew, H.out.bb, Ln.own_drew h3, by rw [List.map_append]; exact Ln.own_drew k3, H.out.av, by rw [List.length_append, H.out.len]; rfl, by
        intro x hx
        rcases List.mem_append.1 hx with hx | hx
        · exact H.out.sm x hx
        · obtain rfl := List.mem_singleton.1 hx
          exact ⟨⟨hc0, hc1, hq0, hq1⟩, HSr.out.1, HSr.out.2.1, (⟨by omega, by omega⟩ : Fit c), (⟨by omega, by omega⟩ : Fit q)⟩⟩
      clear h1 h2 h3 k1 k2 k3 hb4 hbl g3' s0 s1 HOa HOb H HGa HGb hla1 hla2 hlb1 hla hlb
      go_wp2_with fail
      go_region_held3 (fun u => u.cell? ⟨vg, j * 4 + 2, none⟩ = some (.int .i64 c) ∧ u.cell? ⟨vg, j * 4 + 3, none⟩ = some (.int .i64 q)) (first | with_reducible assumption | exact far2 hne' (by assumption) | exact ⟨u2, u3⟩ | fail) (first | fail)
      go_wp2_with fail
      go_roundw
      case rel => exact ⟨j + 1, P ++ [⟨r.text, r.category, c, q⟩], by omega, by go_num, HN⟩
      case measure => simp [intOf]; omega
    · obtain rfl : j = m' := by omega
      have hdn : ls1.drop j = [] := List.drop_eq_nil_of_le (Nat.le_of_eq HLn.out.symm)
      have hOa := H.out.a
      have hOb := H.out.b
      rw [hdn, List.append_nil] at hOa hOb
      have HPs : Hid (∀ x ∈ P, Ln.Short x) := Lib.hid fun x hx => (H.out.sm x hx).2
      have HPm : Hid (∀ x ∈ P, Iv.Small x) := Lib.hid fun x hx => (H.out.sm x hx).1
      have HPn : Hid (∀ x ∈ P.map Iv.neg, Ln.Short x) := Lib.hid fun x hx => by
        obtain ⟨z, hz, rfl⟩ := List.mem_map.1 hx
        have h1 := HPs.out z hz
        have h2 := HPm.out z hz
        have h3 := h2.p1
        have h4 := h2.p2
        exact ⟨h1.1, h1.2.1, h1.2.2.1, (⟨by omega, by omega⟩ : Fit (-z.price))⟩
      have HA := Lib.hid (Ln.own_list hOa HPs.out)
      have HB := Lib.hid (Ln.own_list hOb HPn.out)
      have HBl := Lib.hid H.out.bel
      clear hdn hOa hOb H
      go_wp2_with fail
      refine (tab_at rs1 ao n' ca nt tb w1 _ HR1.out HTb.out HNt.out HBl.out).mono ?_
      rintro e w4 ⟨ta, tc, rfl, hTb, b4⟩
      have HT4 := Lib.hid hTb
      have HA4 := Lib.hid (HA.out.below b4)
      have HB4 := Lib.hid (HB.out.below b4)
      have HL4 := Lib.hid (bchain HBU.out (bchain HBl.out b4))
      have HD4 := Lib.hid (HD.out.below (bchain HBl.out b4))
      obtain ⟨c0, c1, c2⟩ := HD4.out
      have hng := Iv.tot_neg (rs := tb) (y := y) (m := m) (d := d) HPm.out
      obtain ⟨E, hE⟩ : ∃ E, Iv.totE tb y m d P = E := ⟨_, rfl⟩
      have htf := totT_fit tb y m d P
      have hts := totT_short (rs := tb) (y := y) (m := m) (d := d) (ls := P) HTs.out HPs.out
      have hts2 := totT_short (rs := tb) (y := y) (m := m) (d := d) (ls := P.map Iv.neg) HTs.out HPn.out
      have htl := tot_len (rs := tb) (y := y) (m := m) (d := d) (ls := P)
      obtain ⟨⟨N, T, S, ps⟩, hT⟩ : ∃ X, Iv.totT tb y m d P = X := ⟨_, rfl⟩
      obtain ⟨⟨N2, T2, S2, ps2⟩, hT2⟩ : ∃ X, Iv.totT tb y m d (P.map Iv.neg) = X := ⟨_, rfl⟩
      rw [hE, hT, hT2] at hng
      rw [hT] at htf hts htl
      rw [hT2] at hts2
      have HE := Lib.hid hE
      have HT := Lib.hid hT
      have HT2 := Lib.hid hT2
      have HF := Lib.hid htf
      have HS := Lib.hid (And.intro hts hts2)
      have HNg := Lib.hid hng
      have HTl : Hid (ps.length ≤ 12) := Lib.hid htl
      clear hTb b4 hE hT hT2 htf hts hts2 htl hng HA HB HBl
      go_wp2_with fail
      refine (tot_at tb P y m d E N T S ps _ ta va nt j tc vc HE.out HT.out HT4.out HA4.out HFt.out.1 HFt.out.2.1 HFt.out.2.2).mono ?_
      rintro e w5 ⟨v5, rfl, hO5, b5⟩
      obtain ⟨xo, xc, hx5, hX5, _⟩ := Pt.own_ls hO5 HS.out.1
      subst hx5
      obtain ⟨p, hp⟩ : ∃ p, ps.length = p := ⟨_, rfl⟩
      have HPl := Lib.hid hp
      rw [hp] at hX5
      rw [hp]
      obtain ⟨V, hV⟩ : ∃ V, w5.alloc (.cells #[.int .i64 N, .int .i64 T, .int .i64 S, .slice xo p xc] 34) = V := ⟨_, rfl⟩
      have hbV : Below w5.heap.size w5 V := hV ▸ (Below.refl _ _).alloc (Nat.le_refl _) _
      have hb6 := bchain b5 hbV
      have HV1 : Hid (Below w.heap.size w V ∧ Tt.At V w5.heap.size N T S (.slice xo p xc) ∧ Pt.Ls V xo p xc ps ∧ Rts V ta nt tc tb ∧ Ln.Ls V vb j vd (P.map Iv.neg)) := Lib.hid ⟨bchain HL4.out hb6, hV ▸ Tt.at_box w5 N T S (.slice xo p xc), hX5.below hbV, HT4.out.below hb6, HB4.out.below hb6⟩
      have HVs := Lib.hid hV
      have hDV := HD4.out.below hb6
      obtain ⟨e0, e1, e2⟩ := hDV
      rw [← hV] at e0 e1 e2
      clear hO5 b5 hX5 hp hbV hb6 hV c0 c1 c2 HT4 HA4 HB4 HL4 HD4
      go_wp2_with fail
      rw [HVs.out]
      clear HVs e0 e1 e2
      generalize w5.heap.size = ga at *
      refine (tot_at tb (P.map Iv.neg) y m d E N2 T2 S2 ps2 _ ta vb nt j tc vd (by rw [HNg.out.1]) HT2.out HV1.out.2.2.2.1 HV1.out.2.2.2.2 HFt.out.1 HFt.out.2.1 HFt.out.2.2).mono ?_
      rintro e w6 ⟨v6, rfl, hO6, b6⟩
      obtain ⟨yo, yc, hy6, hY6, _⟩ := Pt.own_ls hO6 HS.out.2
      subst hy6
      obtain ⟨p2, hp2⟩ : ∃ p2, ps2.length = p2 := ⟨_, rfl⟩
      have HPl2 := Lib.hid hp2
      rw [hp2] at hY6
      rw [hp2]
      obtain ⟨Q, hQ⟩ : ∃ Q, w6.alloc (.cells #[.int .i64 N2, .int .i64 T2, .int .i64 S2, .slice yo p2 yc] 34) = Q := ⟨_, rfl⟩
      have hbQ : Below w6.heap.size w6 Q := hQ ▸ (Below.refl _ _).alloc (Nat.le_refl _) _
      have hb7 := bchain b6 hbQ
      have HQ1 : Hid (Below w.heap.size w Q ∧ Tt.At Q ga N T S (.slice xo p xc) ∧ Pt.Ls Q xo p xc ps ∧ Tt.At Q w6.heap.size N2 T2 S2 (.slice yo p2 yc) ∧ Pt.Ls Q yo p2 yc ps2) := Lib.hid ⟨bchain HV1.out.1 hb7, HV1.out.2.1.below hb7, HV1.out.2.2.1.below hb7, hQ ▸ Tt.at_box w6 N2 T2 S2 (.slice yo p2 yc), hY6.below hbQ⟩
      have HQs := Lib.hid hQ
      by_cases hE0 : E = 0
      · obtain ⟨hn1', hn2'⟩ := HNg.out.2 hE0
        have HBk := Lib.hid hn1'
        have HBe := Lib.hid hn2'
        have HBt : Hid (Iv.backT ⟨N, T, S, ps⟩ = ⟨N2, T2, S2, ps2⟩) := Lib.hid (by
          unfold Iv.backT
          rw [if_pos hn2']
          exact hn1'.symm)
        subst hE0
        obtain ⟨a0, a1, a2, a3⟩ := HQ1.out.2.1.cells
        rw [← hQ] at a0 a1 a2 a3
        clear hO6 b6 hY6 hQ hbQ hb7 hn1' hn2' hp2
        go_wp2_with fail
        rw [HQs.out]
        refine (inv_back ⟨N, T, S, ps⟩ xo p xc Q HQ1.out.2.2.1 HF.out.1 HF.out.2.1 HF.out.2.2 (by have h1 := HPl.out; have h2 := HTl.out; omega)).mono ?_
        rintro e w7 ⟨v7, rfl, hO7, b7⟩
        rw [HBe.out, HBt.out]
        rw [HBt.out] at hO7
        obtain ⟨zo, zc, hz7, hZ7, _⟩ := Pt.own_ls hO7 HS.out.2
        subst hz7
        dsimp only at hZ7 ⊢
        rw [HPl2.out] at hZ7
        rw [HPl2.out]
        obtain ⟨X, hX⟩ : ∃ X, w7.alloc (.cells #[.int .i64 N2, .int .i64 T2, .int .i64 S2, .slice zo p2 zc] 34) = X := ⟨_, rfl⟩
        have hbX : Below w7.heap.size w7 X := hX ▸ (Below.refl _ _).alloc (Nat.le_refl _) _
        have hb8 := bchain b7 hbX
        have HX1 : Hid (Below w.heap.size w X ∧ Pt.Ls X yo p2 yc ps2 ∧ Pt.Ls X zo p2 zc ps2) := Lib.hid ⟨bchain HQ1.out.1 hb8, HQ1.out.2.2.2.2.below hb8, hZ7.below hbX⟩
        have HXs := Lib.hid hX
        have hA8 : Tt.At X w7.heap.size N2 T2 S2 (.slice zo p2 zc) := hX ▸ Tt.at_box w7 N2 T2 S2 (.slice zo p2 zc)
        clear a0 a1 a2 a3
        obtain ⟨a0, a1, a2, a3⟩ := (HQ1.out.2.2.2.1.below hb8).cells
        obtain ⟨e0, e1, e2, e3⟩ := hA8.cells
        rw [← hX] at a0 a1 a2 a3 e0 e1 e2 e3
        unfold Tt.val
        clear hO7 b7 hZ7 hX hbX hb8 hA8 HQ1 HV1 HQs
        go_wp2_with fail
        rw [HXs.out]
        refine (totals_same ⟨N2, T2, S2, ps2⟩ yo zo p2 yc zc w _ HX1.out.1 HX1.out.2.1 HX1.out.2.2).mono ?_
        rintro e w8 ⟨rfl, b8⟩
        have HB8 := Lib.hid b8
        clear b8 a0 a1 a2 a3 e0 e1 e2 e3
        go_wp2_with fail
        refine (iruns w _ HB8.out).mono ?_
        rintro e w9 ⟨rfl, b9⟩
        have HB9 := Lib.hid b9
        clear b9
        go_wp2_with fail
        go_ret
        exact ⟨rfl, HB9.out⟩
      · have hne : (E != 0) = true := bne_iff_ne.2 hE0
        have hEE : (E == E) = true := beq_self_eq_true _
        clear hE0 hO6 b6 hY6 hQ hbQ hb7 hp2
        go_wp2_with fail
        rw [HQs.out]
        refine (iruns w _ HQ1.out.1).mono ?_
        rintro e w9 ⟨rfl, b9⟩
        have HB9 := Lib.hid b9
        clear b9
        go_wp2_with fail
        go_ret
        exact ⟨rfl, HB9.out⟩
end Go.Proofs.Ythcaecinjmnlbab
