/- THE WALK OF PostEach. -/
import Derived.Test.YtgnepgkmjgpkeaaPRn
import Derived.Test.YtgnepgkmjgpkeaaPoB
import Derived.Test.YtgnepgkmjgpkeaaBaP
import Derived.Test.YtgnepgkmjgpkeaaBookZ
set_option maxRecDepth 100000
set_option linter.unusedVariables false
namespace Go.Proofs.Ytgnepgkmjgpkeaa
open Go.RowKit
open Mem

/-- rows of one's own: the first of them made small -/
structure ESt12 (w u : World) (va : Option Addr) (m vc : Nat) (ls P : List Ba.T) (j : Nat) : Prop where
  bel : Below w.heap.size w u
  own : Ba.Own u w.heap.size (.slice va m vc) (P ++ ls.drop j)
  len : P.length = j
  sm : ∀ x ∈ P, x.amt.natAbs ≤ 1125899906842624 ∧ Ba.Short x
theorem ESt12.mag {w u : World} {va : Option Addr} {m vc : Nat} {ls P : List Ba.T} {j : Nat} (h : ESt12 w u va m vc ls P j) : Po.mag P ≤ j * 1125899906842624 := by
  have := Po.mag_le fun x hx => (h.sm x hx).1
  rw [h.len] at this
  exact this
/-- the rows entered so far, and the whole -/
theorem each_step {P : List Ba.T} {j : Nat} (hj : j < P.length) (hm : Po.mag P ≤ 4611686018427387904) :
    Po.entE (Po.goL (P.take j) []) ((P.take (j + 1)).drop j) = 0 ∧ Po.entL (Po.goL (P.take j) []) ((P.take (j + 1)).drop j) = Po.goL (P.take (j + 1)) [] := by
  have e : P.take (j + 1) = P.take j ++ (P.take (j + 1)).drop j := by
    have h := (List.take_append_drop j (P.take (j + 1))).symm
    rw [List.take_take, Nat.min_eq_left (by omega)] at h
    exact h
  have h1 := Po.goL_mag (P.take j) []
  have h2 : Po.mag (P.take (j + 1)) ≤ Po.mag P := by
    have h := Po.mag_app (P.take (j + 1)) (P.drop (j + 1))
    rw [List.take_append_drop] at h
    omega
  have h3 : Po.mag (P.take (j + 1)) = Po.mag (P.take j) + Po.mag ((P.take (j + 1)).drop j) := by
    rw [← Po.mag_app, ← e]
  have h4 : Po.mag [] = 0 := rfl
  have h := Po.ent_small (b := Po.goL (P.take j) []) (l := (P.take (j + 1)).drop j) (Po.goL_sorted _ List.Pairwise.nil) (by omega)
  refine ⟨h.1, ?_⟩
  rw [h.2, ← Po.goL_app, ← e]
set_option maxHeartbeats 8000000 in
theorem postEach_walk (ls : List Ba.T) (ao : Option Addr) (n cap : Nat) (c : ByteArray) (w : World) (hL : Ba.Ls w ao n cap ls) :
    Calls Try.prog 6 #[.slice ao n cap, .string c] w fun e w' => e = .returned (.bool true) ∧ Below w.heap.size w w' := by
  have HL := Lib.hid hL
  clear hL
  go_enter Try.func6, Try.ntmps6
  go_wp2_with fail
  refine (few_any ls ao n cap w HL.out).mono ?_
  rintro e wa ⟨⟨m, rfl, hL1, hm⟩, hwa⟩
  subst hwa
  obtain ⟨ls1, hls⟩ : ∃ l, ls.take 60 = l := ⟨_, rfl⟩
  rw [hls] at hL1
  have HL1 := Lib.hid hL1
  have HLn := Lib.hid hL1.len
  have hfit := hL1.fits
  have hcap := hL1.reach
  clear hL1 hls HL
  go_wp2_with (at_builtin; go_must (refine Ba.wpList_append _ rfl (.tmp 20) (.tmp 21) rfl wa.heap.size (.slice (some ⟨wa.heap.size, 0, none⟩) 0 0) [] rfl (Ba.own_empty (Nat.le_refl _) (heap_alloc_new wa _)) ao m cap ls1 rfl HL1.out.len HL1.out.nil ((HL1.out.below ((Below.refl _ _).alloc (Nat.le_refl _) _)).seg) (by simp only [List.length_nil]; omega) (by simp) ?_))
  intro v1 w2 o1 gr1 _
  have hb2 : Below wa.heap.size wa w2 := ((Below.refl wa.heap.size wa).alloc (Nat.le_refl _) _).grown gr1 (by simp) (fun j hj => by simp only [Value.ownBlock, Option.some.injEq] at hj; omega)
  try rw [List.nil_append] at o1
  obtain ⟨va, vc, hv1, hV, _⟩ := Ba.own_ls o1 HL1.out.short
  subst hv1
  rw [← HLn.out] at o1 hV
  rw [← HLn.out]
  have hvc := hV.reach
  have hvf := hV.fits
  have HE0 : Hid (ESt12 wa w2 va m vc ls1 [] 0) := Lib.hid ⟨hb2, o1, rfl, by simp⟩
  clear gr1 o1 hV hb2
  go_wp2_with fail
  go_loopw [6, 7, 8] (fun s t i wr => ∃ (j : Nat) (P : List Ba.T), j ≤ m ∧ i = .int .i64 j ∧ s = .int .i64 (Po.rows c P) ∧ t = .bool (Po.named c P) ∧ Hid (ESt12 wa wr va m vc ls1 P j)) (fun _ _ i _ => m - (intOf i).toNat)
  case atStart => exact ⟨0, [], by omega, rfl, rfl, rfl, HE0⟩
  case round =>
    clear HE0
    rename World => wz
    obtain ⟨j, P, hj, rfl, rfl, rfl, H⟩ := hrel
    by_cases hjm : j < m
    · have hjl : j < ls1.length := by rw [← HLn.out]; exact hjm
      have hdr := List.drop_eq_getElem_cons hjl
      have HSr := Lib.hid (HL1.out.short _ (List.getElem_mem hjl))
      obtain ⟨r, hr⟩ : ∃ r, ls1[j] = r := ⟨_, rfl⟩
      rw [hr] at hdr HSr
      clear hr
      have hO := H.out.own
      rw [hdr] at hO
      obtain ⟨vg, hvg⟩ := Ba.own_some hO (by omega)
      subst hvg
      obtain ⟨hl, hga⟩ := Ba.get_mid (P := P) (D := ls1.drop (j + 1)) (r := r) H.out.len
      have hat := Ba.own_at hO j hl
      rw [hga] at hat
      obtain ⟨⟨s0, s1⟩, hfz, hge⟩ := hat
      have hf1 := hfz (j * 2 + 1)
      have hR1 := Po.rows_mag c P
      have hR2 := H.out.mag
      have HO := Lib.hid (And.intro hO (And.intro hga hge))
      have hR3 : -1125899906842624 * (j : Int) ≤ Po.rows c P ∧ Po.rows c P ≤ 1125899906842624 * (j : Int) := by omega
      clear hO hga hfz hdr hge hR1 hR2
      go_wp2_with fail
      refine (bookWithin_z r.amt (-1125899906842624) 1125899906842624 _ HSr.out.2 (by omega) (by omega) (by omega)).mono ?_
      rintro e wx ⟨⟨q, rfl, hq0, hq1⟩, hx⟩
      subst hx
      have h1 := Ba.own_put HO.out.1 j 1 hl (by omega) (.int .i64 q) ⟨r.acct, q⟩ (by rw [HO.out.2.1]; rfl)
      have hl2 : j < ((P ++ r :: ls1.drop (j + 1)).set j ⟨r.acct, q⟩).length := by rw [List.length_set]; exact hl
      have hat2 := (Ba.own_at h1 j hl2).1
      rw [List.getElem_set_self] at hat2
      obtain ⟨u0, u1⟩ := hat2
      rw [Ba.set_mid H.out.len] at h1
      have HN : Hid (ESt12 wa (wx.setCell ⟨vg, j * 2 + 1, none⟩ (.int .i64 q)) (some ⟨vg, 0, none⟩) m vc ls1 (P ++ [⟨r.acct, q⟩]) (j + 1)) := Lib.hid ⟨H.out.bel.setCell HO.out.2.2 _, h1, by rw [List.length_append, H.out.len]; rfl, fun x hx => by
        rcases List.mem_append.1 hx with hx | hx
        · exact H.out.sm x hx
        · obtain rfl := List.mem_singleton.1 hx
          exact ⟨show q.natAbs ≤ _ by omega, HSr.out.1, show Fit q from ⟨by omega, by omega⟩⟩⟩
      have HRw : Hid (Po.rows c (P ++ [⟨r.acct, q⟩]) = Po.rows c P + (if r.acct = c then q else 0)) := Lib.hid (by rw [Po.rows_app, Po.rows_one])
      have HNm : Hid (Po.named c (P ++ [⟨r.acct, q⟩]) = (Po.named c P || decide (r.acct = c))) := Lib.hid (by rw [Po.named_app, Po.named_one])
      clear h1 hl2 H HO
      obtain ⟨R, hR⟩ : ∃ R, Po.rows c P = R := ⟨_, rfl⟩
      obtain ⟨T, hT⟩ : ∃ T, Po.named c P = T := ⟨_, rfl⟩
      rw [hR] at hR3 HRw
      rw [hT] at HNm
      rw [hR, hT]
      have hj60 : j < 60 := by omega
      clear hR hT
      by_cases he : r.acct = c
      · have qe : (r.acct.toList == c.toList) = true := beq_iff_eq.2 (by rw [he])
        rw [if_pos he] at HRw
        rw [decide_eq_true he, Bool.or_true] at HNm
        clear he
        go_wp2
        go_roundw
        case rel => exact ⟨j + 1, _, by omega, by go_num, by rw [HRw.out], by rw [HNm.out], HN⟩
        case measure => simp [intOf]; omega
      · have qe : (r.acct.toList == c.toList) = false := beq_eq_false_iff_ne.2 fun e => he (Vt.cat_ext e)
        rw [if_neg he, Int.add_zero] at HRw
        rw [decide_eq_false he, Bool.or_false] at HNm
        clear he
        go_wp2
        go_roundw
        case rel => exact ⟨j + 1, _, by omega, by go_num, by rw [HRw.out], by rw [HNm.out], HN⟩
        case measure => simp [intOf]; omega
    · obtain rfl : j = m := by omega
      have hO := H.out.own
      rw [List.drop_eq_nil_of_le (by rw [← HLn.out]; exact Nat.le_refl _), List.append_nil] at hO
      have HP := Lib.hid (Ba.own_has hO fun x hx => (H.out.sm x hx).2)
      have HPl := Lib.hid H.out.len
      have HPs : Hid (∀ x ∈ P, Ba.Short x) := Lib.hid fun x hx => (H.out.sm x hx).2
      have HMg : Hid (Po.mag P ≤ 4611686018427387904) := Lib.hid (by have := H.out.mag; omega)
      have HEn := Lib.hid (Po.ent_small (b := []) (l := P) List.Pairwise.nil (by have := HMg.out; show 0 + _ ≤ _; omega))
      have HB := Lib.hid H.out.bel
      clear hO H HL1
      go_wp2_with fail
      refine (post_enter [] P none va 0 0 j vc wz (Ba.ls_nil wz) HP.out (by omega) (by omega)).mono ?_
      rintro e w3 ⟨v, rfl, o, b⟩
      rw [HEn.out.2] at o
      rw [HEn.out.1]
      obtain ⟨A, hA⟩ : ∃ A, Po.goL P [] = A := ⟨_, rfl⟩
      rw [hA] at o
      have HA := Lib.hid hA
      have HAs : Hid (∀ x ∈ A, Ba.Short x) := Lib.hid (hA ▸ Po.goL_short P [] HPs.out (by simp) (Po.goE_small P [] (by have := HMg.out; show 0 + _ ≤ _; omega)))
      obtain ⟨xo, xc, hx, hXl, _⟩ := Ba.own_ls o HAs.out
      subst hx
      obtain ⟨ka, hka⟩ : ∃ k, A.length = k := ⟨_, rfl⟩
      rw [hka] at hXl
      rw [hka]
      have HKA := Lib.hid hka
      have hk60 : ka ≤ 60 := by have h := Po.goL_len P []; rw [hA, hka, HPl.out] at h; simpa using Nat.le_trans h (by simpa using hm)
      have hxc := hXl.reach
      have hxf := hXl.fits
      have HX := Lib.hid hXl
      have HB3 := Lib.hid (bchain HB.out b)
      have HP3 := Lib.hid (HP.out.below b)
      clear o b hXl hka hA HB HP
      go_wp2_with fail
      go_loopw [11, 12] (fun s i wr => ∃ (i' : Nat) (so : Option Addr) (sn sc : Nat), i' ≤ j ∧ i = .int .i64 i' ∧ s = .slice so sn sc ∧ sn ≤ 60 ∧ Hid (Ba.Ls wr so sn sc (Po.goL (P.take i') []) ∧ Below w3.heap.size w3 wr)) (fun _ i _ => j - (intOf i).toNat)
      case atStart => exact ⟨0, none, 0, 0, by omega, rfl, rfl, by omega, Lib.hid ⟨by rw [List.take_zero]; exact Ba.ls_nil _, Below.refl _ _⟩⟩
      case round =>
        rename World => wy
        obtain ⟨i, so, sn, sc, hi, rfl, rfl, hsn, H⟩ := hrel
        have hsc := H.out.1.reach
        have hsf := H.out.1.fits
        by_cases hij : i < j
        · obtain ⟨ao2, cap2, hs2, hL2⟩ := (HP3.out.below H.out.2).mid i (i + 1) (by omega) (by omega)
          rw [show i + 1 - i = 1 by omega] at hs2 hL2
          rw [show ((i + 1 : Nat) : Int) = (i : Int) + 1 by omega] at hs2
          have HL2 := Lib.hid hL2
          have HSt := Lib.hid (each_step (P := P) (j := i) (by rw [HPl.out]; exact hij) HMg.out)
          have HS1 : Hid (∀ x ∈ Po.goL (P.take (i + 1)) [], Ba.Short x) := Lib.hid (Po.goL_short _ [] (fun x hx => HPs.out x (List.mem_of_mem_take hx)) (by simp) (Po.goE_small _ [] (by
            have h1 := Po.mag_app (P.take (i + 1)) (P.drop (i + 1))
            rw [List.take_append_drop] at h1
            have := HMg.out
            show 0 + _ ≤ _
            omega)))
          clear hL2
          go_wp2_with fail
          refine (post_enter _ _ so ao2 sn sc 1 cap2 wy H.out.1 HL2.out (by omega) (by omega)).mono ?_
          rintro e w4 ⟨v, rfl, o, b⟩
          rw [HSt.out.2] at o
          rw [HSt.out.1]
          obtain ⟨yo, yc, hy, hYl, _⟩ := Ba.own_ls o HS1.out
          subst hy
          have HY := Lib.hid (And.intro hYl (bchain H.out.2 b))
          have hyl : (Po.goL (P.take (i + 1)) []).length ≤ 60 := by
            have h := Po.goL_len (P.take (i + 1)) []
            rw [List.length_take] at h
            simp only [List.length_nil] at h
            omega
          clear o b hYl H
          go_wp2
          go_roundw
          case rel => exact ⟨i + 1, yo, _, yc, by omega, by go_num, rfl, hyl, HY⟩
          case measure => simp [intOf]; omega
        · obtain rfl : i = j := by omega
          have hone := H.out.1
          rw [List.take_of_length_le (by rw [HPl.out]; exact Nat.le_refl _), HA.out] at hone
          obtain rfl : sn = ka := by rw [hone.len, HKA.out]
          have HOne := Lib.hid hone
          have HB4 := Lib.hid (bchain HB3.out H.out.2)
          have HX4 := Lib.hid (HX.out.below H.out.2)
          have HSo : Hid (Po.Sorted A) := Lib.hid (HA.out ▸ Po.goL_sorted P List.Pairwise.nil)
          clear hone H HX HB3 HP3
          go_wp2_with fail
          go_loopw [15, 16, 17] (fun s t i' _wr => ∃ k : Nat, k ≤ sn ∧ i' = .int .i64 k ∧ t = .bool (Po.named c (A.take k)) ∧ s = .int .i64 (if Po.named c (A.take k) = true then Po.val c A else 0) ∧ _wr = wy) (fun _ _ i' _ => sn - (intOf i').toNat)
          case atStart => exact ⟨0, by omega, rfl, rfl, rfl, rfl⟩
          case round =>
            rename World => wv
            obtain ⟨k, hk, rfl, rfl, rfl, hwv⟩ := hrel
            subst hwv
            by_cases hks : k < sn
            · obtain ⟨xb, xoff, rfl⟩ := HX4.out.at (by omega)
              have hkA : k < A.length := by rw [HKA.out]; exact hks
              have hrow := HX4.out.row k hkA
              have HLk : Hid (A[k].acct = c → Po.val c A = A[k].amt) := Lib.hid fun h => by
                unfold Po.val
                rw [(Po.look HSo.out (List.getElem_mem hkA) h).1]
              have HTk : Hid (Po.named c (A.take (k + 1)) = (Po.named c (A.take k) || decide (A[k].acct = c))) := Lib.hid (by rw [List.take_succ_eq_append_getElem hkA, Po.named_app, Po.named_one])
              obtain ⟨r, hr⟩ : ∃ r, A[k] = r := ⟨_, rfl⟩
              rw [hr] at hrow HLk HTk
              clear hr
              obtain ⟨g0, g1⟩ := hrow
              by_cases he : r.acct = c
              · have qe : (r.acct.toList == c.toList) = true := beq_iff_eq.2 (by rw [he])
                have HV := Lib.hid (HLk.out he)
                rw [decide_eq_true he, Bool.or_true] at HTk
                clear he
                go_wp2
                go_roundw
                case rel => exact ⟨k + 1, by omega, by go_num, by rw [HTk.out], by rw [HTk.out, if_pos rfl, HV.out], trivial⟩
                case measure => simp [intOf]; omega
              · have qe : (r.acct.toList == c.toList) = false := beq_eq_false_iff_ne.2 fun e => he (Vt.cat_ext e)
                rw [decide_eq_false he, Bool.or_false] at HTk
                clear he
                go_wp2
                go_roundw
                case rel => exact ⟨k + 1, by omega, by go_num, by rw [HTk.out], by rw [HTk.out], trivial⟩
                case measure => simp [intOf]; omega
            · obtain rfl : k = sn := by omega
              have hend : Po.named c (A.take k) = Po.named c P ∧ (if Po.named c (A.take k) = true then Po.val c A else 0) = Po.rows c P := by
                rw [List.take_of_length_le (by rw [HKA.out]; exact Nat.le_refl _)]
                have h1 := Po.val_goL c P []
                rw [HA.out] at h1
                have h2 := Po.has_named (c := c) HSo.out
                have h3 : Po.val c [] = 0 := rfl
                have h4 : Po.has c [] = false := rfl
                rw [h3, h4, Bool.false_or, h2] at h1
                refine ⟨h1.2, ?_⟩
                split
                · rw [h1.1]; omega
                · rename_i hn
                  have h5 := Po.val_no (c := c) (l := A) (by rw [h2]; exact Bool.eq_false_iff.2 hn)
                  omega
              rw [hend.1] at *
              rw [hend.1] at hend
              rw [hend.2]
              clear hend
              obtain ⟨R, hR⟩ : ∃ R, Po.rows c P = R := ⟨_, rfl⟩
              obtain ⟨T, hT⟩ : ∃ T, Po.named c P = T := ⟨_, rfl⟩
              rw [hR, hT]
              clear hR hT
              have hRR : (R == R) = true := beq_self_eq_true _
              have hTT : (T == T) = true := beq_self_eq_true _
              go_wp2_with fail
              refine (Ba.same_rows A xo so k xc sc _ _ (Below.refl _ _) HX4.out HOne.out).mono ?_
              rintro e w5 ⟨rfl, b⟩
              have HB5 := Lib.hid (bchain HB4.out b)
              have HX5 := Lib.hid (HX4.out.below b)
              have hri := (Po.right_iff A).2 HSo.out
              clear b HX4 HOne
              go_wp2_with fail
              refine (post_right A xo k xc wa _ HB5.out HX5.out).mono ?_
              rintro e w6 ⟨rfl, b⟩
              rw [hri]
              have HB6 := Lib.hid b
              clear b
              go_wp2_with fail
              refine (pruns wa _ HB6.out).mono ?_
              rintro e w7 ⟨rfl, b⟩
              have HB7 := Lib.hid b
              clear b
              go_wp2_with fail
              go_ret
              exact ⟨rfl, HB7.out⟩
end Go.Proofs.Ytgnepgkmjgpkeaa
