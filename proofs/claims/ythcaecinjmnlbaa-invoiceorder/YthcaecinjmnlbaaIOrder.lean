/- THE WALK OF InvoiceOrder. (By genorder.py.) -/
import Derived.Test.YthcaecinjmnlbaaITab
import Derived.Test.YthcaecinjmnlbaaBookZ
import Derived.Test.YthcaecinjmnlbaaHj
set_option maxRecDepth 100000
set_option linter.unusedVariables false
namespace Go.Proofs.Ythcaecinjmnlbaa
open Go.RowKit
open Vt (Rt)
open Go.Sort (grow)

theorem swap_tailL (a : Ln.T) : ∀ (t : List Ln.T) (j : Nat) (h : j < t.length), (t[j] :: t.set j a).Perm (a :: t)
  | b :: t, 0, _ => List.Perm.swap a b t
  | b :: t, j + 1, h => by
    have hj : j < t.length := by simpa using h
    have ih := swap_tailL a t j hj
    show (t[j] :: b :: t.set j a).Perm (a :: b :: t)
    exact ((List.Perm.swap b t[j] _).trans (ih.cons b)).trans (List.Perm.swap a b t)
theorem swap_permL (M : List Ln.T) (k : Nat) (x y : Ln.T) (h0 : M[0]? = some x) (hk : M[k]? = some y) (h1 : 1 ≤ k) : ((M.set 0 y).set k x).Perm M := by
  match M, k, h1 with
  | a :: t, j + 1, _ =>
    obtain rfl : a = x := by simpa using h0
    have hj : t[j]? = some y := by simpa using hk
    obtain ⟨hl, rfl⟩ := List.getElem?_eq_some_iff.1 hj
    exact swap_tailL a t j hl
theorem take_put (M : List Ln.T) (j : Nat) (b : Ln.T) (hj : j < M.length) : (M.set j b).take (j + 1) = M.take j ++ [b] := by
  rw [List.take_succ_eq_append_getElem (by rw [List.length_set]; exact hj), List.getElem_set_self, List.take_set, List.set_eq_of_length_le (by rw [List.length_take]; omega)]
theorem mem_put {M : List Ln.T} {j : Nat} {b : Ln.T} {P : Ln.T → Prop} (hM : ∀ x ∈ M, P x) (hb : P b) : ∀ x ∈ M.set j b, P x := by
  intro x hx
  rcases List.mem_or_eq_of_mem_set hx with hx | rfl
  · exact hM x hx
  · exact hb
theorem Ln.own_some {w : World} {B n cap : Nat} {va : Option Addr} {M : List Ln.T} (h : Ln.Own w B (.slice va n cap) M) (hn : 0 < M.length) : ∃ vg, va = some ⟨vg, 0, none⟩ := by
  rcases h.2 with ⟨h', h0⟩ | ⟨g', c', cu, h', _⟩
  · omega
  · simp only [Value.slice.injEq] at h'
    exact ⟨g', h'.1⟩
/-- a day, rows and a total in memory -/
structure OSt (w V : World) (g : Nat) (y m d : Int) (ta : Option Addr) (nt tc : Nat) (tb : List Rt) (ba : Nat) (N T S : Int) (xo : Option Addr) (p xc : Nat) (ps : List Pt.T) : Prop where
  bel : Below w.heap.size w V
  day : DayC V g y m d
  tab : Rts V ta nt tc tb
  tot : Tt.At V ba N T S (.slice xo p xc)
  pts : Pt.Ls V xo p xc ps
theorem OSt.below {w V v : World} {g : Nat} {y m d : Int} {ta : Option Addr} {nt tc : Nat} {tb : List Rt} {ba : Nat} {N T S : Int} {xo : Option Addr} {p xc : Nat} {ps : List Pt.T} (h : OSt w V g y m d ta nt tc tb ba N T S xo p xc ps) (b : Below V.heap.size V v) : OSt w v g y m d ta nt tc tb ba N T S xo p xc ps :=
  ⟨bchain h.bel b, h.day.below b, h.tab.below b, h.tot.below b, h.pts.below b⟩
set_option maxHeartbeats 8000000 in
theorem invoiceOrder_walk (rs : List Rt) (ao : Option Addr) (n ca : Nat) (y m d : Int) (ls : List Ln.T) (bo : Option Addr) (k cb : Nat) (zs : List Int) (zo : Option Addr) (kt kap : Nat) (w : World) (hR : Rts w ao n ca rs) (hy : Fit y) (hm : Fit m) (hd : Fit d) (hL : Ln.Ls w bo k cb ls) (hZ : Ints w zo kt kap zs) :
    Calls Try.prog 6 #[.slice ao n ca, dayV y m d, .slice bo k cb, .slice zo kt kap] w fun e w' => e = .returned (.bool true) ∧ Below w.heap.size w w' := by
  have HZ := Lib.hid hZ
  have hkf := hZ.fits
  have hkr := hZ.reach
  clear hZ
  have HFt := Lib.hid (And.intro hy (And.intro hm hd))
  obtain ⟨U, hU⟩ : ∃ U, w.alloc (.cells #[.int .i64 y, .int .i64 m, .int .i64 d] 23) = U := ⟨_, rfl⟩
  have hbU : Below w.heap.size w U := hU ▸ (Below.refl _ _).alloc (Nat.le_refl _) _
  have hD : DayC U w.heap.size y m d := hU ▸ dayC_box w y m d
  have HR := Lib.hid (hR.below hbU)
  have HL := Lib.hid (hL.below hbU)
  have HD := Lib.hid hD
  have HBU := Lib.hid hbU
  have HUs := Lib.hid hU
  obtain ⟨g, hg⟩ : ∃ g, w.heap.size = g := ⟨_, rfl⟩
  have HGw := Lib.hid hg
  rw [hg] at HD
  clear hU hbU hD hR hL hy hm hd
  unfold dayV
  go_enter Try.func6, Try.ntmps6
  go_wp2_with fail
  rw [HUs.out]
  try rw [hg]
  clear hg HUs
  refine (few_any rs ls ao bo n ca k cb U HR.out HL.out).mono ?_
  rintro e w1 ⟨⟨n', m', rfl, hR1, hn1, hL1, hm1⟩, hw1⟩
  subst hw1
  obtain ⟨rs1, hrs⟩ : ∃ rs1, rs.take 30 = rs1 := ⟨_, rfl⟩
  obtain ⟨ls1, hls⟩ : ∃ ls1, ls.take 20 = ls1 := ⟨_, rfl⟩
  rw [hrs] at hR1
  rw [hls] at hL1
  have HR1 := Lib.hid hR1
  have HL1 := Lib.hid hL1
  have HLn := Lib.hid hL1.len
  have hfit := hL1.fits
  have hcap := hL1.reach
  have hfit2 := hR1.fits
  have hcap2 := hR1.reach
  clear hR1 hL1 hrs hls HR HL
  obtain ⟨tb, htb⟩ : ∃ tb, Vt.tab [] (rs1.take 30) = tb := ⟨_, rfl⟩
  have HTb := Lib.hid htb
  have HTs : Hid (∀ r ∈ tb, Short r) := Lib.hid (htb ▸ tab_short HR1.out.short 30)
  obtain ⟨nt, hnt⟩ : ∃ nt, tb.length = nt := ⟨_, rfl⟩
  have HNt := Lib.hid hnt
  clear htb hnt
  have hm20 : m' ≤ 20 := hm1
  go_wp2_with (at_builtin; go_must (refine Ln.wpList_append _ rfl (.tmp 25) (.tmp 26) rfl w1.heap.size (.slice (some ⟨w1.heap.size, 0, none⟩) 0 0) [] rfl (Ln.own_empty (Nat.le_refl _) (heap_alloc_new w1 _)) bo m' cb ls1 rfl HL1.out.len HL1.out.nil ((HL1.out.below ((Below.refl _ _).alloc (Nat.le_refl _) _)).seg) (by simp only [List.length_nil]; omega) (by simp) ?_))
  intro v1 w2 o1 gr1 _
  have HB2 : Hid (Below w1.heap.size w1 w2) := Lib.hid (((Below.refl w1.heap.size w1).alloc (Nat.le_refl _) _).grown gr1 (by simp) (fun j hj => by simp only [Value.ownBlock, Option.some.injEq] at hj; omega))
  try rw [List.nil_append] at o1
  obtain ⟨va, vc, hv1, hV, _⟩ := Ln.own_ls o1 HL1.out.short
  subst hv1
  rw [← HLn.out] at o1 hV
  rw [← HLn.out]
  have hvc := hV.reach
  have hvf := hV.fits
  have HO1 := Lib.hid o1
  clear gr1 o1 hV
  go_wp2_with fail
  go_loopw [10] (fun i wr => ∃ (j : Nat) (M : List Ln.T), j ≤ m' ∧ i = .int .i64 j ∧ Hid (Ln.Own wr w1.heap.size (.slice va m' vc) M) ∧ Hid (M.length = m' ∧ (∀ x ∈ M, Ln.Short x) ∧ ∀ x ∈ M.take j, Iv.Small x) ∧ Hid (Below w1.heap.size w1 wr)) (fun i _ => m' - (intOf i).toNat)
  case atStart => exact ⟨0, ls1, by omega, rfl, HO1, Lib.hid ⟨HLn.out.symm, HL1.out.short, by simp⟩, HB2⟩
  case round =>
    clear HO1 HB2
    rename World => wz
    obtain ⟨j, M, hj, rfl, HO, HM, HB⟩ := hrel
    by_cases hjm : j < m'
    · have hjl : j < M.length := by rw [HM.out.1]; exact hjm
      obtain ⟨vg, rfl⟩ := Ln.own_some HO.out (by omega)
      obtain ⟨hrow, hfro, hbg⟩ := Ln.own_at HO.out j hjl
      obtain ⟨r, hr⟩ : ∃ r, M[j] = r := ⟨_, rfl⟩
      rw [hr] at hrow
      have HRr := Lib.hid hr
      have HSr := Lib.hid (HM.out.2.1 r (hr ▸ List.getElem_mem hjl))
      obtain ⟨g0, g1, g2, g3⟩ := hrow
      have f2 := hfro (j * 4 + 2)
      clear hr
      go_wp2_with fail
      refine (bookWithin_z r.count 1 1000 _ HSr.out.2.2.1 (by omega) (by omega) (by omega)).mono ?_
      rintro e wx ⟨⟨c, rfl, hc0, hc1⟩, hx⟩
      subst hx
      have h1 := Ln.own_put HO.out j 2 hjl (by omega) (.int .i64 c) ⟨r.text, r.category, c, r.price⟩ (by rw [HRr.out]; rfl)
      have hB1 := below_put HB.out hbg (j * 4 + 2) (.int .i64 c)
      have hjl1 : j < (M.set j ⟨r.text, r.category, c, r.price⟩).length := by rw [List.length_set]; exact hjl
      have hat1 := (Ln.own_at h1 j hjl1).1
      rw [List.getElem_set_self] at hat1
      have d3 := hat1.4
      have f3 := (Ln.own_at h1 j hjl1).2.1 (j * 4 + 3)
      have HH1 := Lib.hid (And.intro h1 hB1)
      have HCb := Lib.hid (And.intro hc0 hc1)
      clear h1 hB1 hat1 hc0 hc1
      go_wp2_with fail
      refine (bookWithin_z r.price (-1099511627776) 1099511627776 _ HSr.out.2.2.2 (by omega) (by omega) (by omega)).mono ?_
      rintro e wx ⟨⟨q, rfl, hq0, hq1⟩, hx⟩
      subst hx
      have h2 := Ln.own_put HH1.out.1 j 3 hjl1 (by omega) (.int .i64 q) ⟨r.text, r.category, c, q⟩ (by rw [List.getElem_set_self]; rfl)
      rw [List.set_set] at h2
      have HO2 := Lib.hid h2
      have HB2 := Lib.hid (below_put HH1.out.2 hbg (j * 4 + 3) (.int .i64 q))
      have HSm : Hid (Iv.Small ⟨r.text, r.category, c, q⟩ ∧ Ln.Short ⟨r.text, r.category, c, q⟩) := Lib.hid ⟨⟨HCb.out.1, HCb.out.2, hq0, hq1⟩, HSr.out.1, HSr.out.2.1, (⟨by have := HCb.out; omega, by have := HCb.out; omega⟩ : Fit c), (⟨by omega, by omega⟩ : Fit q)⟩
      have HM2 : Hid ((M.set j ⟨r.text, r.category, c, q⟩).length = m' ∧ (∀ x ∈ M.set j ⟨r.text, r.category, c, q⟩, Ln.Short x) ∧ ∀ x ∈ (M.set j ⟨r.text, r.category, c, q⟩).take (j + 1), Iv.Small x) := Lib.hid ⟨by rw [List.length_set]; exact HM.out.1, mem_put HM.out.2.1 HSm.out.2, by
        rw [take_put M j _ hjl]
        intro x hx
        rcases List.mem_append.1 hx with hx | hx
        · exact HM.out.2.2 x hx
        · obtain rfl := List.mem_singleton.1 hx
          exact HSm.out.1⟩
      clear h2 hq0 hq1
      go_wp2_with fail
      go_roundw
      case rel => exact ⟨j + 1, M.set j ⟨r.text, r.category, c, q⟩, by omega, by go_num, HO2, HM2, HB2⟩
      case measure => simp [intOf]; omega
    · obtain rfl : j = m' := by omega
      have HMs : Hid (∀ x ∈ M, Iv.Small x) := Lib.hid (by
        have h := HM.out.2.2
        rw [List.take_of_length_le (Nat.le_of_eq HM.out.1)] at h
        exact h)
      have HLM : Hid (Ln.Ls wz va j vc M) := Lib.hid (by
        obtain ⟨va', vc', e, hl, _⟩ := Ln.own_ls HO.out HM.out.2.1
        simp only [Value.slice.injEq] at e
        obtain ⟨e1, e2, e3⟩ := e
        subst e1 e3
        rw [← e2] at hl
        exact hl)
      go_wp2_with fail
      refine (tab_at rs1 ao n' ca nt tb w1 _ HR1.out HTb.out HNt.out HB.out).mono ?_
      rintro e w3 ⟨ta, tc, rfl, hTb, b3⟩
      have HT3 := Lib.hid hTb
      have HL3 := Lib.hid (HLM.out.below b3)
      have HB3 := Lib.hid (bchain HB.out b3)
      have HD3 := Lib.hid (HD.out.below (bchain HB.out b3))
      obtain ⟨c0, c1, c2⟩ := HD3.out
      obtain ⟨E, hE⟩ : ∃ E, Iv.totE tb y m d M = E := ⟨_, rfl⟩
      obtain ⟨⟨N, T, S, ps⟩, hT⟩ : ∃ X, Iv.totT tb y m d M = X := ⟨_, rfl⟩
      have HE := Lib.hid hE
      have HT := Lib.hid hT
      have HPs : Hid (∀ r ∈ ps, Pt.Short r) := Lib.hid (by
        have h := totT_short (rs := tb) (y := y) (m := m) (d := d) (ls := M) HTs.out HM.out.2.1
        rw [hT] at h
        exact h)
      clear hTb b3 hE hT HO HLM
      go_wp2_with fail
      refine (tot_at tb M y m d E N T S ps _ ta va nt j tc vc HE.out HT.out HT3.out HL3.out HFt.out.1 HFt.out.2.1 HFt.out.2.2).mono ?_
      rintro e w4 ⟨v4, rfl, hO4, b4⟩
      obtain ⟨xo, xc, hx4, hX4, _⟩ := Pt.own_ls hO4 HPs.out
      subst hx4
      obtain ⟨p, hp⟩ : ∃ p, ps.length = p := ⟨_, rfl⟩
      have HPl := Lib.hid hp
      rw [hp] at hX4
      rw [hp]
      obtain ⟨V, hV⟩ : ∃ V, w4.alloc (.cells #[.int .i64 N, .int .i64 T, .int .i64 S, .slice xo p xc] 30) = V := ⟨_, rfl⟩
      have hbV : Below w4.heap.size w4 V := hV ▸ (Below.refl _ _).alloc (Nat.le_refl _) _
      have hb5 := bchain b4 hbV
      have HOS : Hid (OSt w V g y m d ta nt tc tb w4.heap.size N T S xo p xc ps) := Lib.hid ⟨bchain (bchain HBU.out HB3.out) hb5, HD3.out.below hb5, HT3.out.below hb5, hV ▸ Tt.at_box w4 N T S (.slice xo p xc), hX4.below hbV⟩
      have HLV := Lib.hid (HL3.out.below hb5)
      have HVs := Lib.hid hV
      have hV' : w4.alloc (.cells #[.int .i64 N, .int .i64 T, .int .i64 S, .slice xo p xc] 30) = V := hV
      clear hO4 b4 hX4 hp hbV hb5 hV c0 c1 c2 HT3 HL3 HD3 HB3
      go_wp2_with (at_builtin; go_must (refine Ln.wpList_append _ rfl (.tmp 63) (.tmp 64) rfl V.heap.size (.slice (some ⟨V.heap.size, 0, none⟩) 0 0) [] rfl (Ln.own_empty (Nat.le_refl _) (heap_alloc_new V _)) va j vc M rfl HLV.out.len HLV.out.nil ((HLV.out.below ((Below.refl _ _).alloc (Nat.le_refl _) _)).seg) (by simp only [List.length_nil]; omega) (by simp) ?_))
      intro v5 w5 o5 gr5 _
      clear hV' HVs
      generalize w4.heap.size = ba at *
      have HB5 : Hid (Below V.heap.size V w5) := Lib.hid (((Below.refl V.heap.size V).alloc (Nat.le_refl _) _).grown gr5 (by simp) (fun j hj => by simp only [Value.ownBlock, Option.some.injEq] at hj; omega))
      try rw [List.nil_append] at o5
      obtain ⟨na, nc, hv5, hN5, _⟩ := Ln.own_ls o5 HM.out.2.1
      subst hv5
      rw [HM.out.1] at o5 hN5
      rw [HM.out.1]
      have hnc := hN5.reach
      have hnf := hN5.fits
      have HO5 := Lib.hid o5
      clear gr5 o5 hN5
      go_wp2_with fail
      go_loopw [15, 16] (fun i _ wr => ∃ (t : Nat) (K : List Ln.T), t ≤ kt ∧ i = .int .i64 t ∧ Hid (K.Perm M) ∧ Hid (Ln.Own wr V.heap.size (.slice na j nc) K) ∧ Hid (Below V.heap.size V wr)) (fun i _ _ => kt - (intOf i).toNat)
      case atStart => exact ⟨0, M, by omega, rfl, Lib.hid (List.Perm.refl _), HO5, HB5⟩
      case round =>
        clear HO5 HB5
        rename World => wq
        obtain ⟨t, K, ht, rfl, HPm, HOk, HBq⟩ := hrel
        have HKl : Hid (K.length = j) := Lib.hid (HPm.out.length_eq.trans HM.out.1)
        by_cases hgo : t < kt ∧ t < 30 ∧ 1 < j
        · obtain ⟨hg1, hg2, hg3⟩ := hgo
          obtain ⟨zb, zoff, z, rfl, hz, hfz⟩ := HZ.out.at t hg1
          have hz' : wq.cell? ⟨zb, zoff + t, none⟩ = some (.int .i64 z) := by
            rw [(bcell (bchain HOS.out.bel HBq.out)).1 _ _ (cell_lt hz)]
            exact hz
          clear hz
          obtain ⟨vg, rfl⟩ := Ln.own_some HOk.out (by rw [HKl.out]; omega)
          go_wp2_with fail
          refine (bookWithin_any z 1 ((j : Int) - 1) _ hfz (by omega) (by omega) (by omega)).mono ?_
          rintro e wx ⟨⟨q, rfl, hq1, hq2⟩, hx⟩
          subst hx
          have hql : q < K.length := by rw [HKl.out]; omega
          have h0l : 0 < K.length := by rw [HKl.out]; omega
          obtain ⟨x, hx⟩ : ∃ x, K[0] = x := ⟨_, rfl⟩
          obtain ⟨u, hu⟩ : ∃ u, K[q] = u := ⟨_, rfl⟩
          obtain ⟨hrow0, hfro, hbg⟩ := Ln.own_at HOk.out 0 h0l
          obtain ⟨hrowq, _, _⟩ := Ln.own_at HOk.out q hql
          rw [hx] at hrow0
          rw [hu] at hrowq
          have HPq : Hid (((K.set 0 u).set q x).Perm M) := Lib.hid ((swap_permL K q x u (by rw [List.getElem?_eq_getElem h0l, hx]) (by rw [List.getElem?_eq_getElem hql, hu]) (by omega)).trans HPm.out)
          have hOq := Ln.own_store (Ln.own_store HOk.out 0 h0l u) q (by rw [List.length_set]; exact hql) x
          have hBq := Ln.below_store (Ln.below_store HBq.out hbg 0 (.string u.text) (.string u.category) (.int .i64 u.count) (.int .i64 u.price)) hbg q (.string x.text) (.string x.category) (.int .i64 x.count) (.int .i64 x.price)
          simp only [Nat.zero_mul, Nat.zero_add] at hOq hBq
          have HOq := Lib.hid (Ln.own_drew hOq)
          have HBqq := Lib.hid hBq.drew
          clear hOq hBq
          obtain ⟨g0, g1, g2, g3⟩ := hrow0
          obtain ⟨f0, f1, f2, f3⟩ := hrowq
          simp only [Nat.zero_mul, Nat.zero_add] at g0 g1 g2 g3
          have hqml : (q : Int) < (j : Int) := by omega
          have hq0 : (0 : Int) ≤ (q : Int) := by omega
          clear hx hu hql h0l
          go_wp2
          go_region
          go_wp2
          go_roundw
          case rel => exact ⟨t + 1, (K.set 0 u).set q x, by omega, by go_num, HPq, HOq, HBqq⟩
          case measure => simp [intOf]; omega
        · have h3 : ¬ t < kt ∨ (t < kt ∧ ¬ t < 30) ∨ (t < kt ∧ t < 30 ∧ ¬ 1 < j) := by omega
          clear hgo
          have HOS2 := Lib.hid (HOS.out.below HBq.out)
          have HKs : Hid (∀ x ∈ K, Ln.Short x) := Lib.hid (fun x hx => HM.out.2.1 x (HPm.out.mem_iff.1 hx))
          have HLK : Hid (Ln.Ls wq na j nc K) := Lib.hid (by
            obtain ⟨va', vc', e, hl, _⟩ := Ln.own_ls HOk.out HKs.out
            simp only [Value.slice.injEq] at e
            obtain ⟨e1, e2, e3⟩ := e
            subst e1 e3
            rw [← e2] at hl
            exact hl)
          have hpp := Iv.tot_perm (rs := tb) (y := y) (m := m) (d := d) HPm.out.symm HMs.out
          obtain ⟨F, hF⟩ : ∃ F, Iv.totE tb y m d K = F := ⟨_, rfl⟩
          rw [HE.out, HT.out, hF] at hpp
          have HF := Lib.hid hF
          have HTK := Lib.hid hpp.2.symm
          have HEF := Lib.hid hpp.1
          obtain ⟨c0, c1, c2⟩ := HOS2.out.day
          clear hpp hF HOS HOk
          rcases h3 with h3 | ⟨h3, h4⟩ | ⟨h3, h4, h5⟩
          all_goals (
            go_wp2_with fail
            refine (tot_at tb K y m d F N T S ps _ ta na nt j tc nc HF.out HTK.out HOS2.out.tab HLK.out HFt.out.1 HFt.out.2.1 HFt.out.2.2).mono ?_
            rintro e w6 ⟨v6, rfl, hO6, b6⟩
            obtain ⟨yo, yc, hy6, hY6, _⟩ := Pt.own_ls hO6 HPs.out
            subst hy6
            rw [HPl.out] at hY6
            rw [HPl.out]
            obtain ⟨Q, hQ⟩ : ∃ Q, w6.alloc (.cells #[.int .i64 N, .int .i64 T, .int .i64 S, .slice yo p yc] 30) = Q := ⟨_, rfl⟩
            have hbQ : Below w6.heap.size w6 Q := hQ ▸ (Below.refl _ _).alloc (Nat.le_refl _) _
            have hb7 := bchain b6 hbQ
            have HO7 := Lib.hid (HOS2.out.below hb7)
            have HY7 := Lib.hid (hY6.below hbQ)
            have hA7 : Tt.At Q w6.heap.size N T S (.slice yo p yc) := hQ ▸ Tt.at_box w6 N T S (.slice yo p yc)
            have HQs := Lib.hid hQ
            obtain ⟨a0, a1, a2, a3⟩ := HO7.out.tot.cells
            obtain ⟨e0, e1, e2, e3⟩ := hA7.cells
            rw [← hQ] at a0 a1 a2 a3 e0 e1 e2 e3
            clear hO6 b6 hY6 hQ hbQ hb7 hA7 c0 c1 c2
            by_cases hE0 : E = 0
            · have hF0 : F = 0 := HEF.out.1 hE0
              subst hE0 hF0
              go_wp2_with fail
              rw [HQs.out]
              refine (totals_same ⟨N, T, S, ps⟩ xo yo p xc yc w _ HO7.out.bel HO7.out.pts HY7.out).mono ?_
              rintro e w8 ⟨rfl, b8⟩
              have HB8 := Lib.hid b8
              clear b8 a0 a1 a2 a3 e0 e1 e2 e3
              go_wp2_with fail
              refine (iruns w _ HB8.out).mono ?_
              rintro e w9 ⟨rfl, b9⟩
              have HB9 := Lib.hid b9
              clear b9
              go_wp2_with fail
              go_ret
              exact ⟨rfl, HB9.out⟩
            · have hq1 : (E == 0) = false := beq_eq_false_iff_ne.2 hE0
              have hq2 : (F == 0) = false := beq_eq_false_iff_ne.2 fun k => hE0 (HEF.out.2 k)
              clear hE0
              go_wp2_with fail
              rw [HQs.out]
              refine (totals_same ⟨N, T, S, ps⟩ xo yo p xc yc w _ HO7.out.bel HO7.out.pts HY7.out).mono ?_
              rintro e w8 ⟨rfl, b8⟩
              have HB8 := Lib.hid b8
              clear b8 a0 a1 a2 a3 e0 e1 e2 e3
              go_wp2_with fail
              refine (iruns w _ HB8.out).mono ?_
              rintro e w9 ⟨rfl, b9⟩
              have HB9 := Lib.hid b9
              clear b9
              go_wp2_with fail
              go_ret
              exact ⟨rfl, HB9.out⟩)
end Go.Proofs.Ythcaecinjmnlbaa
