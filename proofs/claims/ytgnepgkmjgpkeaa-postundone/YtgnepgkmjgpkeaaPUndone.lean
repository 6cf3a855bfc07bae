/- THE WALK OF PostUndone. -/
import Derived.Test.YtgnepgkmjgpkeaaPRn
import Derived.Test.YtgnepgkmjgpkeaaPoU
import Derived.Test.YtgnepgkmjgpkeaaBaP
import Derived.Test.YtgnepgkmjgpkeaaBookZ
import Derived.BigQuiet
set_option maxRecDepth 100000
set_option linter.unusedVariables false
namespace Go.Proofs.Ytgnepgkmjgpkeaa
open Go.RowKit
open Mem

theorem Ba.own_ne {w : World} {B n cap vg b : Nat} {M : List Ba.T} (h : Ba.Own w B (.slice (some ⟨vg, 0, none⟩) n cap) M) (hne : vg ≠ b) (o : Nat) (x : Value) : Ba.Own (w.setCell ⟨b, o, none⟩ x) B (.slice (some ⟨vg, 0, none⟩) n cap) M := by
  obtain ⟨h1, h2⟩ := h
  refine ⟨h1, ?_⟩
  rcases h2 with h2 | ⟨g, c, cur, h', hb, hg, h3⟩
  · exact .inl h2
  · refine .inr ⟨g, c, cur, h', hb, ?_, h3⟩
    simp only [Value.slice.injEq, Option.some.injEq, Addr.mk.injEq, and_true] at h'
    rw [heap_setCell_other w ⟨b, o, none⟩ g x (by show g ≠ b; rw [← h'.1]; exact hne)]
    exact hg
/-- two lists of one's own: so many rows made small, and taken off 0 -/
structure NSt (w1 wr : World) (Bb : Nat) (va vb : Option Addr) (n vc vd : Nat) (ls P : List Ba.T) (j : Nat) : Prop where
  bel : Below w1.heap.size w1 wr
  bb : w1.heap.size ≤ Bb
  a : Ba.Own wr w1.heap.size (.slice va n vc) (P ++ ls.drop j)
  b : Ba.Own wr Bb (.slice vb n vd) (P.map Po.neg ++ ls.drop j)
  av : ∀ vg, va = some ⟨vg, 0, none⟩ → vg < Bb
  len : P.length = j
  sm : ∀ x ∈ P, x.amt.natAbs ≤ 1099511627776 ∧ Ba.Short x
/-- a list of one's own: so many rows made small -/
structure WSt (w1 wr : World) (vo : Option Addr) (n vc : Nat) (ls P : List Ba.T) (j : Nat) : Prop where
  bel : Below w1.heap.size w1 wr
  own : Ba.Own wr w1.heap.size (.slice vo n vc) (P ++ ls.drop j)
  len : P.length = j
  sm : ∀ x ∈ P, x.amt.natAbs ≤ 1125899906842624 ∧ Ba.Short x
set_option maxHeartbeats 8000000 in
theorem postUndone_walk (bs : List Ba.T) (bo : Option Addr) (n ca : Nat) (ls : List Ba.T) (lo : Option Addr) (k cb : Nat) (w : World) (hB : Ba.Ls w bo n ca bs) (hL : Ba.Ls w lo k cb ls) :
    Calls Try.prog 7 #[.slice bo n ca, .slice lo k cb] w fun e w' => e = .returned (.bool true) ∧ Below w.heap.size w w' := by
  have HB := Lib.hid hB
  have HL := Lib.hid hL
  clear hB hL
  go_enter Try.func7, Try.ntmps7
  go_wp2_with fail
  refine (few_any bs bo n ca w HB.out).mono ?_
  rintro e wa ⟨⟨m1, rfl, hB1, hm1⟩, hwa⟩
  subst hwa
  go_wp2_with fail
  refine (few_any ls lo k cb wa HL.out).mono ?_
  rintro e w1 ⟨⟨m, rfl, hL1, hm⟩, hwb⟩
  subst hwb
  generalize bs.take 60 = bs1 at *
  generalize ls.take 60 = ls1 at *
  have HB1 := Lib.hid hB1
  have HL1 := Lib.hid hL1
  have HBn := Lib.hid hB1.len
  have HLn := Lib.hid hL1.len
  have hfit := hL1.fits
  have hcap := hL1.reach
  have hfit2 := hB1.fits
  have hcap2 := hB1.reach
  clear hB1 hL1 HB HL
  go_wp2_with (at_builtin; go_must (refine Ba.wpList_append _ rfl (.tmp 21) (.tmp 22) rfl w1.heap.size (.slice (some ⟨w1.heap.size, 0, none⟩) 0 0) [] rfl (Ba.own_empty (Nat.le_refl _) (heap_alloc_new w1 _)) lo m cb ls1 rfl HL1.out.len HL1.out.nil ((HL1.out.below ((Below.refl _ _).alloc (Nat.le_refl _) _)).seg) (by simp only [List.length_nil]; omega) (by simp) ?_))
  intro v1 w2 o1 gr1 _
  have hb2 : Below w1.heap.size w1 w2 := ((Below.refl w1.heap.size w1).alloc (Nat.le_refl _) _).grown gr1 (by simp) (fun j hj => by simp only [Value.ownBlock, Option.some.injEq] at hj; omega)
  have HB2 := Lib.hid hb2
  try rw [List.nil_append] at o1
  obtain ⟨va, vc, hv1, hV, _⟩ := Ba.own_ls o1 HL1.out.short
  subst hv1
  rw [← HLn.out] at o1 hV
  rw [← HLn.out]
  have hvc := hV.reach
  have hvf := hV.fits
  have HO1 := Lib.hid o1
  have HL2 := Lib.hid (HL1.out.below hb2)
  clear gr1 o1 hV hb2
  go_wp2_with (at_builtin; go_must (refine Ba.wpList_append _ rfl (.tmp 24) (.tmp 25) rfl w2.heap.size (.slice (some ⟨w2.heap.size, 0, none⟩) 0 0) [] rfl (Ba.own_empty (Nat.le_refl _) (heap_alloc_new w2 _)) lo m cb ls1 rfl HL2.out.len HL2.out.nil ((HL2.out.below ((Below.refl _ _).alloc (Nat.le_refl _) _)).seg) (by simp only [List.length_nil]; omega) (by simp) ?_))
  intro v2 w3 o2 gr2 _
  have hb3 : Below w2.heap.size w2 w3 := ((Below.refl w2.heap.size w2).alloc (Nat.le_refl _) _).grown gr2 (by simp) (fun j hj => by simp only [Value.ownBlock, Option.some.injEq] at hj; omega)
  try rw [List.nil_append] at o2
  obtain ⟨vb, vd, hv2, hV, _⟩ := Ba.own_ls o2 HL1.out.short
  subst hv2
  rw [← HLn.out] at o2 hV
  rw [← HLn.out]
  have hvd := hV.reach
  have hve := hV.fits
  have HM0 : Hid (NSt w1 w3 w2.heap.size va vb m vc vd ls1 [] 0) := Lib.hid ⟨bchain HB2.out hb3, HB2.out.size, Ba.own_below HO1.out hb3, o2, fun vg h => by subst h; exact Ba.own_lt HO1.out, rfl, by simp⟩
  clear gr2 o2 hV hb3 HO1 HB2 HL2
  generalize w2.heap.size = Bb at *
  go_wp2_with fail
  go_loopw [7] (fun i wr => ∃ (j : Nat) (P : List Ba.T), j ≤ m ∧ i = .int .i64 j ∧ Hid (NSt w1 wr Bb va vb m vc vd ls1 P j)) (fun i _ => m - (intOf i).toNat)
  case atStart => exact ⟨0, [], by omega, rfl, HM0⟩
  case round =>
    clear HM0
    rename World => wz
    obtain ⟨j, P, hj, rfl, H⟩ := hrel
    by_cases hjm : j < m
    · obtain ⟨lb, off, rfl⟩ := HL1.out.at (by omega)
      have hjl : j < ls1.length := by rw [← HLn.out]; exact hjm
      have hrow := (HL1.out.row j hjl).below H.out.bel
      have hdr := List.drop_eq_getElem_cons hjl
      have HSr := Lib.hid (HL1.out.short _ (List.getElem_mem hjl))
      obtain ⟨r, hr⟩ : ∃ r, ls1[j] = r := ⟨_, rfl⟩
      rw [hr] at hrow hdr HSr
      clear hr
      obtain ⟨g0, g1⟩ := hrow
      have hOa := H.out.a
      have hOb := H.out.b
      rw [hdr] at hOa hOb
      obtain ⟨vg, hvg⟩ := Ba.own_some hOa (by omega)
      subst hvg
      obtain ⟨vh, hvh⟩ := Ba.own_some hOb (by omega)
      subst hvh
      have hvgb := H.out.av vg rfl
      obtain ⟨hla, hga⟩ := Ba.get_mid (P := P) (D := ls1.drop (j + 1)) (r := r) H.out.len
      have hPn : (P.map Po.neg).length = j := by rw [List.length_map]; exact H.out.len
      obtain ⟨hlb, hgb⟩ := Ba.get_mid (P := P.map Po.neg) (D := ls1.drop (j + 1)) (r := r) hPn
      have hata := Ba.own_at hOa j hla
      have hatb := Ba.own_at hOb j hlb
      rw [hga] at hata
      rw [hgb] at hatb
      obtain ⟨⟨s0, s1⟩, hfa, hBa⟩ := hata
      have hBb := hatb.2.2
      have hfb1 := hatb.2.1 (j * 2 + 1)
      obtain ⟨q0, q1⟩ := hatb.1
      have hfa1 := hfa (j * 2 + 1)
      have hne : vg ≠ vh := by omega
      have hne' : vh ≠ vg := by omega
      have HOa := Lib.hid hOa
      have HOb := Lib.hid hOb
      have HGa := Lib.hid hga
      have HGb := Lib.hid hgb
      have HPn := Lib.hid hPn
      clear hOa hOb hatb hfa hga hgb hdr hPn
      go_wp2_with fail
      refine (bookWithin_z r.amt (-1099511627776) 1099511627776 _ HSr.out.2 (by omega) (by omega) (by omega)).mono ?_
      rintro e wx ⟨⟨q, rfl, hq0, hq1⟩, hx⟩
      subst hx
      have h1 := Ba.own_put HOa.out j 1 hla (by omega) (.int .i64 q) ⟨r.acct, q⟩ (by rw [HGa.out]; rfl)
      have hla2 : j < ((P ++ r :: ls1.drop (j + 1)).set j ⟨r.acct, q⟩).length := by rw [List.length_set]; exact hla
      have hat2 := (Ba.own_at h1 j hla2).1
      rw [List.getElem_set_self] at hat2
      obtain ⟨u0, u1⟩ := hat2
      have k1 := Ba.own_far HOb.out hvgb (j * 2 + 1) (.int .i64 q)
      have hatk := Ba.own_at k1 j hlb
      rw [HGb.out] at hatk
      obtain ⟨⟨p0, p1⟩, hfk, _⟩ := hatk
      have hfk1 := hfk (j * 2 + 1)
      have k2 := Ba.own_put k1 j 1 hlb (by omega) (.int .i64 (-q)) ⟨r.acct, -q⟩ (by rw [HGb.out]; rfl)
      rw [Ba.set_mid HPn.out] at k2
      have h2 := Ba.own_ne h1 hne (j * 2 + 1) (.int .i64 (-q))
      rw [Ba.set_mid H.out.len] at h2
      have hb4 : Below w1.heap.size w1 ((wx.setCell ⟨vg, j * 2 + 1, none⟩ (.int .i64 q)).setCell ⟨vh, j * 2 + 1, none⟩ (.int .i64 (-q))) := (H.out.bel.setCell hBa _).setCell (Nat.le_trans H.out.bb hBb) _
      have HN : Hid (NSt w1 ((wx.setCell ⟨vg, j * 2 + 1, none⟩ (.int .i64 q)).setCell ⟨vh, j * 2 + 1, none⟩ (.int .i64 (-q))) Bb (some ⟨vg, 0, none⟩) (some ⟨vh, 0, none⟩) m vc vd ls1 (P ++ [⟨r.acct, q⟩]) (j + 1)) := Lib.hid ⟨hb4, H.out.bb, h2, by rw [List.map_append]; exact k2, H.out.av, by rw [List.length_append, H.out.len]; rfl, by
        intro x hx
        rcases List.mem_append.1 hx with hx | hx
        · exact H.out.sm x hx
        · obtain rfl := List.mem_singleton.1 hx
          exact ⟨show q.natAbs ≤ _ by omega, HSr.out.1, (⟨by omega, by omega⟩ : Fit q)⟩⟩
      clear h1 h2 k1 k2 hb4 HOa HOb H HGa HGb hla2 hla hlb hfk
      go_wp2
      go_roundw
      case rel => exact ⟨j + 1, P ++ [⟨r.acct, q⟩], by omega, by go_num, HN⟩
      case measure => simp [intOf]; omega
    · obtain rfl : j = m := by omega
      have hdn : ls1.drop j = [] := List.drop_eq_nil_of_le (Nat.le_of_eq HLn.out.symm)
      have hOa := H.out.a
      have hOb := H.out.b
      rw [hdn, List.append_nil] at hOa hOb
      have HPs : Hid (∀ x ∈ P, Ba.Short x) := Lib.hid fun x hx => (H.out.sm x hx).2
      have HPn : Hid (∀ x ∈ P.map Po.neg, Ba.Short x) := Lib.hid fun x hx => by
        obtain ⟨z, hz, rfl⟩ := List.mem_map.1 hx
        have h1 := (H.out.sm z hz).1
        exact ⟨(HPs.out z hz).1, (⟨by omega, by omega⟩ : Fit (-z.amt))⟩
      have HPm : Hid (Po.mag P ≤ 65970697666560) := Lib.hid (by
        have h := Po.mag_le fun x hx => (H.out.sm x hx).1
        rw [H.out.len] at h
        omega)
      have HPl := Lib.hid H.out.len
      have HA := Lib.hid (Ba.own_has hOa HPs.out)
      have HN := Lib.hid (Ba.own_has hOb HPn.out)
      have HBl := Lib.hid H.out.bel
      have HB3 := Lib.hid (HB1.out.below H.out.bel)
      clear hdn hOa hOb H HL1
      go_wp2_with (at_builtin; go_must (refine Ba.wpList_append _ rfl (.tmp 53) (.tmp 54) rfl wz.heap.size (.slice (some ⟨wz.heap.size, 0, none⟩) 0 0) [] rfl (Ba.own_empty (Nat.le_refl _) (heap_alloc_new wz _)) bo m1 ca bs1 rfl HB3.out.len HB3.out.nil ((HB3.out.below ((Below.refl _ _).alloc (Nat.le_refl _) _)).seg) (by simp only [List.length_nil]; omega) (by simp) ?_))
      intro v3 w4 o3 gr3 _
      have hb4 : Below wz.heap.size wz w4 := ((Below.refl wz.heap.size wz).alloc (Nat.le_refl _) _).grown gr3 (by simp) (fun j hj => by simp only [Value.ownBlock, Option.some.injEq] at hj; omega)
      try rw [List.nil_append] at o3
      obtain ⟨vo, ve, hv3, hV, _⟩ := Ba.own_ls o3 HB1.out.short
      subst hv3
      rw [← HBn.out] at o3 hV
      rw [← HBn.out]
      have hve1 := hV.reach
      have hve2 := hV.fits
      have HW0 : Hid (WSt wz w4 vo m1 ve bs1 [] 0) := Lib.hid ⟨hb4, o3, rfl, by simp⟩
      clear gr3 o3 hV hb4
      go_wp2_with fail
      go_loopw [9] (fun i wr => ∃ (i' : Nat) (Q : List Ba.T), i' ≤ m1 ∧ i = .int .i64 i' ∧ Hid (WSt wz wr vo m1 ve bs1 Q i')) (fun i _ => m1 - (intOf i).toNat)
      case atStart => exact ⟨0, [], by omega, rfl, HW0⟩
      case round =>
        clear HW0
        rename World => wy
        obtain ⟨i, Q, hi, rfl, H⟩ := hrel
        by_cases him : i < m1
        · obtain ⟨lb, off, rfl⟩ := HB3.out.at (by omega)
          have hil : i < bs1.length := by rw [← HBn.out]; exact him
          have hrow := (HB3.out.row i hil).below H.out.bel
          have hdr := List.drop_eq_getElem_cons hil
          have HSr := Lib.hid (HB1.out.short _ (List.getElem_mem hil))
          obtain ⟨r, hr⟩ : ∃ r, bs1[i] = r := ⟨_, rfl⟩
          rw [hr] at hrow hdr HSr
          clear hr
          obtain ⟨g0, g1⟩ := hrow
          have hO := H.out.own
          rw [hdr] at hO
          obtain ⟨vg, hvg⟩ := Ba.own_some hO (by omega)
          subst hvg
          obtain ⟨hl, hga⟩ := Ba.get_mid (P := Q) (D := bs1.drop (i + 1)) (r := r) H.out.len
          have hat := Ba.own_at hO i hl
          rw [hga] at hat
          obtain ⟨⟨s0, s1⟩, hfz, hge⟩ := hat
          have hf1 := hfz (i * 2 + 1)
          have HO := Lib.hid (And.intro hO (And.intro hga hge))
          clear hO hga hfz hdr hge
          go_wp2_with fail
          refine (bookWithin_z r.amt (-1125899906842624) 1125899906842624 _ HSr.out.2 (by omega) (by omega) (by omega)).mono ?_
          rintro e wx ⟨⟨q, rfl, hq0, hq1⟩, hx⟩
          subst hx
          have h1 := Ba.own_put HO.out.1 i 1 hl (by omega) (.int .i64 q) ⟨r.acct, q⟩ (by rw [HO.out.2.1]; rfl)
          rw [Ba.set_mid H.out.len] at h1
          have HN' : Hid (WSt wz (wx.setCell ⟨vg, i * 2 + 1, none⟩ (.int .i64 q)) (some ⟨vg, 0, none⟩) m1 ve bs1 (Q ++ [⟨r.acct, q⟩]) (i + 1)) := Lib.hid ⟨H.out.bel.setCell HO.out.2.2 _, h1, by rw [List.length_append, H.out.len]; rfl, fun x hx => by
            rcases List.mem_append.1 hx with hx | hx
            · exact H.out.sm x hx
            · obtain rfl := List.mem_singleton.1 hx
              exact ⟨show q.natAbs ≤ _ by omega, HSr.out.1, (⟨by omega, by omega⟩ : Fit q)⟩⟩
          clear h1 H HO
          go_wp2
          go_roundw
          case rel => exact ⟨i + 1, _, by omega, by go_num, HN'⟩
          case measure => simp [intOf]; omega
        · obtain rfl : i = m1 := by omega
          have hO := H.out.own
          rw [List.drop_eq_nil_of_le (Nat.le_of_eq HBn.out.symm), List.append_nil] at hO
          have HQs : Hid (∀ x ∈ Q, Ba.Short x) := Lib.hid fun x hx => (H.out.sm x hx).2
          have HQm : Hid (Po.mag Q ≤ 67553994410557440) := Lib.hid (by
            have h := Po.mag_le fun x hx => (H.out.sm x hx).1
            rw [H.out.len] at h
            omega)
          have HQl := Lib.hid H.out.len
          have HQ := Lib.hid (Ba.own_has hO HQs.out)
          have HA4 := Lib.hid (HA.out.below H.out.bel)
          have HN4 := Lib.hid (HN.out.below H.out.bel)
          have HBy := Lib.hid (bchain HBl.out H.out.bel)
          clear hO H HB3 HA HN HBl HB1
          go_wp2_with fail
          refine (post_enter Q P vo va i ve j vc wy HQ.out HA4.out (by omega) (by omega)).mono ?_
          rintro e w5 ⟨v, rfl, o, b⟩
          have HB5 := Lib.hid (bchain HBy.out b)
          have HQ5 := Lib.hid (HQ.out.below b)
          have HN5 := Lib.hid (HN4.out.below b)
          clear HQ HA4 HN4 HBy b
          by_cases hri : Po.rightB Q = true
          · have HQo := Lib.hid ((Po.right_iff Q).1 hri)
            have hen := Po.ent_small (b := Q) (l := P) HQo.out (by have := HQm.out; have := HPm.out; omega)
            obtain ⟨X, hX⟩ : ∃ X, Po.goL P Q = X := ⟨_, rfl⟩
            have HXs : Hid (∀ x ∈ X, Ba.Short x) := Lib.hid (hX ▸ Po.goL_short P Q HPs.out HQs.out (Po.goE_small P Q (by have := HQm.out; have := HPm.out; omega)))
            have HXm : Hid (Po.mag X ≤ 70000000000000000) := Lib.hid (by have h := Po.goL_mag P Q; rw [hX] at h; have := HQm.out; have := HPm.out; omega)
            have HXo : Hid (Po.Sorted X) := Lib.hid (hX ▸ Po.goL_sorted P HQo.out)
            have hXl : X.length ≤ 120 := by have h := Po.goL_len P Q; rw [hX, HPl.out, HQl.out] at h; omega
            have hXg : i ≤ X.length := by have h := Po.goL_grow P Q; rw [hX, HQl.out] at h; exact h
            rw [hen.2, hX] at o
            rw [hen.1]
            obtain ⟨xo, xc, hx, hXs, _⟩ := Ba.own_ls o HXs.out
            subst hx
            have HXv : Hid (∀ c, Po.val c (Po.goL (P.map Po.neg) X) = Po.val c Q) := Lib.hid fun c => by rw [← hX]; exact Po.undo_val c P Q
            obtain ⟨kx, hkx⟩ : ∃ k, X.length = k := ⟨_, rfl⟩
            rw [hkx] at hXs hXl hXg
            rw [hkx]
            have HX := Lib.hid hXs
            have HKx := Lib.hid hkx
            clear hri hen hX o hXs hkx
            go_wp2_with fail
            refine (post_enter X (P.map Po.neg) xo vb kx xc j vd w5 HX.out HN5.out (by omega) (by omega)).mono ?_
            rintro e w6 ⟨v, rfl, o, b⟩
            have hPn2 : (P.map Po.neg).length = j := by rw [List.length_map]; exact HPl.out
            have hmn := Po.mag_neg P
            have hen := Po.ent_small (b := X) (l := P.map Po.neg) HXo.out (by have := HXm.out; have := HPm.out; omega)
            obtain ⟨Y, hY⟩ : ∃ Y, Po.goL (P.map Po.neg) X = Y := ⟨_, rfl⟩
            have HYs : Hid (∀ x ∈ Y, Ba.Short x) := Lib.hid (hY ▸ Po.goL_short _ X HPn.out HXs.out (Po.goE_small _ X (by have := HXm.out; have := HPm.out; omega)))
            have HYo : Hid (Po.Sorted Y) := Lib.hid (hY ▸ Po.goL_sorted _ HXo.out)
            have hYl : Y.length ≤ 180 := by have h := Po.goL_len (P.map Po.neg) X; rw [hY, hPn2, HKx.out] at h; omega
            have hYg : i ≤ Y.length := by have h := Po.goL_grow (P.map Po.neg) X; rw [hY, HKx.out] at h; omega
            rw [hY] at HXv
            rw [hen.2, hY] at o
            rw [hen.1]
            obtain ⟨yo, yc, hy, hYs, _⟩ := Ba.own_ls o HYs.out
            subst hy
            obtain ⟨ky, hky⟩ : ∃ k, Y.length = k := ⟨_, rfl⟩
            rw [hky] at hYs hYl hYg
            rw [hky]
            have hyc := hYs.reach
            have hyf := hYs.fits
            have HY0 := Lib.hid hYs
            have HKy := Lib.hid hky
            have HB6 := Lib.hid (bchain HB5.out b)
            have HQ6 := Lib.hid (HQ5.out.below b)
            clear hPn2 hmn hen hY o hYs hky b HX HN5 HB5 HQ5 HXs HXm HXo HKx
            go_wp2_with fail
            go_loopw [14] (fun s wr => ∃ a : Nat, a ≤ ky ∧ s = .int .i64 a ∧ Hid (Below w6.heap.size w6 wr)) (fun s _ => ky - (intOf s).toNat)
            case atStart => exact ⟨0, by omega, rfl, Lib.hid (Below.refl _ _)⟩
            case round =>
              rename World => wv
              obtain ⟨a, ha, rfl, HWv⟩ := hrel
              have HY := Lib.hid (HY0.out.below HWv.out)
              by_cases hak : a < ky
              · obtain ⟨yb, yoff, rfl⟩ := HY.out.at (by omega)
                have haY : a < Y.length := by rw [HKy.out]; exact hak
                have hrow := HY.out.row a haY
                have HLa : Hid (Y[a].amt = Po.val Y[a].acct Q) := Lib.hid (by
                  rw [← HXv.out]
                  unfold Po.val
                  rw [(Po.look HYo.out (List.getElem_mem haY) rfl).1])
                obtain ⟨y, hy⟩ : ∃ y, Y[a] = y := ⟨_, rfl⟩
                rw [hy] at hrow HLa
                have HYa := Lib.hid hy
                clear hy
                obtain ⟨y0, y1⟩ := hrow
                go_wp2_with fail
                go_loopw [15, 16] (fun s t wr => ∃ d : Nat, d ≤ i ∧ t = .int .i64 d ∧ s = .int .i64 (if Po.named y.acct (Q.take d) = true then Po.val y.acct Q else 0) ∧ Hid (Below w6.heap.size w6 wr)) (fun _ t _ => i - (intOf t).toNat)
                case atStart => exact ⟨0, by omega, rfl, rfl, HWv⟩
                case round =>
                  rename World => wt
                  obtain ⟨d, hd, rfl, rfl, HWt⟩ := hrel
                  have HQ7 := Lib.hid (HQ6.out.below HWt.out)
                  obtain ⟨S, hS⟩ : ∃ S, (if Po.named y.acct (Q.take d) = true then Po.val y.acct Q else 0) = S := ⟨_, rfl⟩
                  rw [hS]
                  have HS := Lib.hid hS
                  clear hS
                  by_cases hdi : d < i
                  · obtain ⟨qb, qoff, rfl⟩ := HQ6.out.at (by omega)
                    have hdQ : d < Q.length := by rw [HQl.out]; exact hdi
                    have hrow := HQ7.out.row d hdQ
                    have hrowY := HY0.out.row a haY
                    rw [HYa.out] at hrowY
                    obtain ⟨z0, z1⟩ := hrowY.below HWt.out
                    have HLk : Hid (Q[d].acct = y.acct → Po.val y.acct Q = Q[d].amt) := Lib.hid fun h => by
                      unfold Po.val
                      rw [(Po.look HQo.out (List.getElem_mem hdQ) h).1]
                    have HTk : Hid (Po.named y.acct (Q.take (d + 1)) = (Po.named y.acct (Q.take d) || decide (Q[d].acct = y.acct))) := Lib.hid (by rw [List.take_succ_eq_append_getElem hdQ, Po.named_app, Po.named_one])
                    obtain ⟨r, hr⟩ : ∃ r, Q[d] = r := ⟨_, rfl⟩
                    rw [hr] at hrow HLk HTk
                    clear hr
                    obtain ⟨g0, g1⟩ := hrow
                    by_cases he : r.acct = y.acct
                    · have qe : (r.acct.toList == y.acct.toList) = true := beq_iff_eq.2 (by rw [he])
                      have HV := Lib.hid (HLk.out he)
                      rw [decide_eq_true he, Bool.or_true] at HTk
                      clear he
                      go_wp2_with fail
                      go_quiet (fail)
                      go_wp2_with fail
                      go_roundw
                      case rel => exact ⟨d + 1, by omega, by go_num, by rw [HTk.out, if_pos rfl, HV.out], Lib.hid (below_drewN HWt.out _)⟩
                      case measure => simp [intOf]; omega
                    · have qe : (r.acct.toList == y.acct.toList) = false := beq_eq_false_iff_ne.2 fun e => he (Vt.cat_ext e)
                      rw [decide_eq_false he, Bool.or_false] at HTk
                      clear he
                      go_wp2_with fail
                      go_quiet (fail)
                      go_wp2_with fail
                      go_roundw
                      case rel => exact ⟨d + 1, by omega, by go_num, by rw [HTk.out, HS.out], Lib.hid (below_drewN HWt.out _)⟩
                      case measure => simp [intOf]; omega
                  · obtain rfl : d = i := by omega
                    have hS := HS.out
                    rw [List.take_of_length_le (Nat.le_of_eq HQl.out), Po.val_named HQo.out] at hS
                    have hrowY := HY0.out.row a haY
                    rw [HYa.out] at hrowY
                    obtain ⟨z0, z1⟩ := hrowY.below HWt.out
                    rw [HLa.out, hS] at z1
                    have hne : (S != S) = false := by simp
                    go_wp2_with fail
                    go_roundw
                    case rel => exact ⟨a + 1, by omega, by go_num, HWt⟩
                    case measure => simp [intOf]; omega
              · obtain rfl : a = ky := by omega
                go_wp2_with fail
                refine (pruns w1 _ (bchain HB6.out HWv.out)).mono ?_
                rintro e w7 ⟨rfl, b⟩
                have HB7 := Lib.hid b
                clear b
                go_wp2_with fail
                go_ret
                exact ⟨rfl, HB7.out⟩
          · have hrf : Po.rightB Q = false := Bool.eq_false_iff.2 hri
            have hen := Po.ent_arg (l := P) hrf
            rw [hen.2] at o
            rw [hen.1]
            obtain ⟨xo, xc, hx, hXs, _⟩ := Ba.own_ls o (by simp)
            subst hx
            clear o hXs hri hen
            go_wp2_with fail
            refine (post_right Q vo i ve w1 _ HB5.out HQ5.out).mono ?_
            rintro e w6 ⟨rfl, b⟩
            rw [hrf]
            have HB6 := Lib.hid b
            clear b
            go_wp2_with fail
            refine (pruns w1 _ HB6.out).mono ?_
            rintro e w7 ⟨rfl, b⟩
            have HB7 := Lib.hid b
            clear b
            go_wp2_with fail
            go_ret
            exact ⟨rfl, HB7.out⟩
end Go.Proofs.Ytgnepgkmjgpkeaa
