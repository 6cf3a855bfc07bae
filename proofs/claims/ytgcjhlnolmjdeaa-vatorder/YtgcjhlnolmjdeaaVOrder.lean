/- THE WALK OF VatOrder. -/
import Derived.Test.YtgcjhlnolmjdeaaVRuns
import Derived.Test.YtgcjhlnolmjdeaaMakeR
import Derived.Test.YtgcjhlnolmjdeaaBookR
import Derived.Test.YtgcjhlnolmjdeaaBookIn
import Derived.Test.YtgcjhlnolmjdeaaArgsI
namespace Go.Proofs.Ytgcjhlnolmjdeaa
open Go.RowKit
open Vt (Rt)

theorem swap_tail (a : Rt) : ∀ (t : List Rt) (j : Nat) (h : j < t.length), (t[j] :: t.set j a).Perm (a :: t)
  | b :: t, 0, _ => List.Perm.swap a b t
  | b :: t, j + 1, h => by
    have hj : j < t.length := by simpa using h
    have ih := swap_tail a t j hj
    show (t[j] :: b :: t.set j a).Perm (a :: b :: t)
    exact ((List.Perm.swap b t[j] _).trans (ih.cons b)).trans (List.Perm.swap a b t)
theorem swap_perm (M : List Rt) (k : Nat) (x y : Rt) (h0 : M[0]? = some x) (hk : M[k]? = some y) (h1 : 1 ≤ k) : ((M.set 0 y).set k x).Perm M := by
  match M, k, h1 with
  | a :: t, j + 1, _ =>
    obtain rfl : a = x := by simpa using h0
    have hj : t[j]? = some y := by simpa using hk
    obtain ⟨hl, rfl⟩ := List.getElem?_eq_some_iff.1 hj
    exact swap_tail a t j hl
theorem own_store {w : World} {B g n cap : Nat} {M : List Rt} (h : OwnR w B (.slice (some ⟨g, 0, none⟩) n cap) M) (k : Nat) (hk : k < M.length) (r : Rt) :
    OwnR (((((w.setCell ⟨g, k * 5, none⟩ (.string r.cat)).setCell ⟨g, k * 5 + 1, none⟩ (.int .i64 r.y)).setCell ⟨g, k * 5 + 2, none⟩ (.int .i64 r.m)).setCell ⟨g, k * 5 + 3, none⟩ (.int .i64 r.d)).setCell ⟨g, k * 5 + 4, none⟩ (.int .i64 r.bp)) B (.slice (some ⟨g, 0, none⟩) n cap) (M.set k r) := by
  rcases h.2 with ⟨h', _⟩ | ⟨g', cap', cur, h', hb, hg, hnc, hcm, hcs, htake⟩
  · cases h'
  · injection h' with e1 e2 e3
    simp only [Option.some.injEq, Addr.mk.injEq, and_true] at e1
    subst e1 e3
    have h1 := heap_setCell_same _ g (k * 5) _ _ (.string r.cat) hg
    have h2 := heap_setCell_same _ g (k * 5 + 1) _ _ (.int .i64 r.y) h1
    have h3 := heap_setCell_same _ g (k * 5 + 2) _ _ (.int .i64 r.m) h2
    have h4 := heap_setCell_same _ g (k * 5 + 3) _ _ (.int .i64 r.d) h3
    have h5 := heap_setCell_same _ g (k * 5 + 4) _ _ (.int .i64 r.bp) h4
    refine ⟨by rw [flat_len], .inr ⟨g, cap, _, by rw [List.length_set, e2], hb, h5, by rw [List.length_set]; exact hnc, hcm, by simpa using hcs, ?_⟩⟩
    rw [List.length_set, flat_set M k r hk]
    simp only [Array.toList_setIfInBounds]
    rw [← htake]
    simp only [List.take_set]
theorem own_drew {w : World} {B : Nat} {v : Value} {M : List Rt} (h : OwnR w B v M) : OwnR w.drew B v M := h
theorem own_at {w : World} {B g n cap : Nat} {M : List Rt} (h : OwnR w B (.slice (some ⟨g, 0, none⟩) n cap) M) (k : Nat) (hk : k < M.length) : RowAt w g (k * 5) M[k] ∧ (∀ o, w.frozen? ⟨g, o, none⟩ = false) ∧ B ≤ g := by
  rcases h.2 with ⟨h', _⟩ | ⟨g', cap', cur, h', hb, hg, hnc, hcm, hcs, htake⟩
  · cases h'
  · injection h' with e1 e2 e3
    simp only [Option.some.injEq, Addr.mk.injEq, and_true] at e1
    subst e1 e3
    have hc : ∀ p, p < 5 → w.cell? ⟨g, k * 5 + p, none⟩ = (rv M[k])[p]? := by
      intro p hp
      rw [cell_of_row w g _ _ _ _ hg, ← flat_at M k p hk hp, ← htake, List.getElem?_take_of_lt (by omega)]
      simp
    exact ⟨⟨hc 0 (by omega), hc 1 (by omega), hc 2 (by omega), hc 3 (by omega), hc 4 (by omega)⟩, fun o => frozen_of_row w g o _ _ hg, hb⟩
theorem tab_full {L : List Rt} (h : (Vt.tab [] L).length = L.length) : (Vt.tab [] L).Perm L := by
  have := Vt.tab_perm L [] (by simpa using h)
  rwa [List.append_nil] at this
theorem tab_same {L M : List Rt} (hp : M.Perm L) (h1 : (Vt.tab [] L).length = L.length) (h2 : (Vt.tab [] M).length = M.length) : Vt.tab [] L = Vt.tab [] M := by
  have a1 := ((Vt.table_iff _).1 (Vt.tab_table L [] Vt.table_nil)).2.2
  have a2 := ((Vt.table_iff _).1 (Vt.tab_table M [] Vt.table_nil)).2.2
  exact Vt.sorted_eq _ _ a1 a2 ((tab_full h1).trans (hp.symm.trans (tab_full h2).symm))
theorem tab_le (L : List Rt) : (Vt.tab [] L).length ≤ L.length := by
  have := Vt.tab_len L []
  simpa using this
set_option maxHeartbeats 4000000 in
theorem vatOrder_walk (rs : List Rt) (ao : Option Addr) (n cap : Nat) (zs : List Int) (bo : Option Addr) (k kap : Nat) (w : World) (hR : Rts w ao n cap rs) (hZ : Ints w bo k kap zs) :
    Calls Try.prog 7 #[.slice ao n cap, .slice bo k kap] w fun e w' => e = .returned (.bool true) ∧ Below w.heap.size w w' := by
  have HR := Lib.hid hR
  have HZ := Lib.hid hZ
  have hkf := hZ.fits
  have hkr := hZ.reach
  have hnf := hR.fits
  have hnr := hR.reach
  clear hR hZ
  go_enter Try.func7, Try.ntmps7
  by_cases h12 : 12 < n
  · obtain ⟨hs12, hL⟩ := rts_to HR.out 12 (by omega)
    have HL := Lib.hid hL
    clear hL
    obtain ⟨L, hLL⟩ : ∃ L, rs.take 12 = L := ⟨_, rfl⟩
    rw [hLL] at HL
    clear hLL
    have hfit := HL.out.fits
    have hcap := HL.out.reach
    go_wp2_with (at_builtin; go_must (refine wpList_append_rows _ rfl (.tmp 15) (.tmp 16) rfl w.heap.size (.slice (some ⟨w.heap.size, 0, none⟩) 0 0) [] rfl (own_empty (Nat.le_refl _) (heap_alloc_new w _)) ao 12 cap L rfl HL.out.len HL.out.nil ((HL.out.below ((Below.refl _ _).alloc (Nat.le_refl _) _)).seg) (by simp only [List.length_nil]; omega) (by simp) ?_))
    intro v1 w1 o1 gr1 _
    have HB1 : Hid (Below w.heap.size w w1) := Lib.hid (((Below.refl w.heap.size w).alloc (Nat.le_refl _) _).grown gr1 (by simp) (fun j hj => by simp only [Value.ownBlock, Option.some.injEq] at hj; omega))
    obtain ⟨va, vc, rfl, hV, hVa⟩ := own_rts o1 HL.out.short
    have hvc := hV.reach
    have hvf := hV.fits
    have HO1 := Lib.hid o1
    have HVa := Lib.hid hVa
    clear gr1 o1 hV hVa
    obtain ⟨ml, hml⟩ : ∃ ml, L.length = ml := ⟨_, rfl⟩
    have HML := Lib.hid hml
    rw [hml] at HO1 hvf
    rw [hml]
    have hml12 : ml ≤ 12 := by have := HL.out.len; omega
    clear hml
    go_wp2_with fail
    go_loopw [6, 7] (fun i _ wr => ∃ (j : Nat) (M : List Rt), j ≤ k ∧ i = .int .i64 j ∧ Hid (M.Perm L) ∧ Hid (OwnR wr w.heap.size (.slice va ml vc) M) ∧ Hid (Below w.heap.size w wr)) (fun i _ _ => k - (intOf i).toNat)
    case atStart => exact ⟨0, L, by omega, rfl, Lib.hid (List.Perm.refl _), HO1, HB1⟩
    case round =>
      rename World => wz
      obtain ⟨j, M, hj, rfl, HP, HO, HB⟩ := hrel
      clear HO1 HB1
      have HMl : Hid (M.length = ml) := Lib.hid (HP.out.length_eq.trans HML.out)
      by_cases hgo : j < k ∧ j < 30 ∧ 1 < ml
      · obtain ⟨hg1, hg2, hg3⟩ := hgo
        obtain ⟨tb, toff, z, rfl, hz, hfz⟩ := HZ.out.at j hg1
        have hz' : wz.cell? ⟨tb, toff + j, none⟩ = some (.int .i64 z) := by
          rw [(bcell HB.out).1 _ _ (cell_lt hz)]
          exact hz
        clear hz
        obtain ⟨vg, rfl⟩ : ∃ vg, va = some ⟨vg, 0, none⟩ := by
          cases hva : va with
          | none =>
            have h := HO.out.2
            rcases h with ⟨_, h0⟩ | ⟨g', c', cu, h', _⟩
            · have := HMl.out
              omega
            · injection h' with e1
              rw [hva] at e1
              cases e1
          | some ad =>
            obtain ⟨g', rfl, _⟩ := HVa.out ad hva
            exact ⟨g', rfl⟩
        go_wp2_with fail
        refine (bookWithin_any z 1 ((ml : Int) - 1) _ hfz (by omega) (by omega) (by omega)).mono ?_
        rintro e wx ⟨⟨q, rfl, hq1, hq2⟩, hx⟩
        subst hx
        have hql : q < M.length := by rw [HMl.out]; omega
        have h0l : 0 < M.length := by rw [HMl.out]; omega
        obtain ⟨x, hx⟩ : ∃ x, M[0] = x := ⟨_, rfl⟩
        obtain ⟨y, hy⟩ : ∃ y, M[q] = y := ⟨_, rfl⟩
        obtain ⟨hrow0, hfro, hbg⟩ := own_at HO.out 0 h0l
        obtain ⟨hrowq, _, _⟩ := own_at HO.out q hql
        rw [hx] at hrow0
        rw [hy] at hrowq
        have HPq : Hid (((M.set 0 y).set q x).Perm L) := Lib.hid ((swap_perm M q x y (by rw [List.getElem?_eq_getElem h0l, hx]) (by rw [List.getElem?_eq_getElem hql, hy]) (by omega)).trans HP.out)
        have hOq := own_store (own_store HO.out 0 h0l y) q (by rw [List.length_set]; exact hql) x
        have hBq := below_store (below_store HB.out hbg 0 (.string y.cat) (.int .i64 y.y) (.int .i64 y.m) (.int .i64 y.d) (.int .i64 y.bp)) hbg q (.string x.cat) (.int .i64 x.y) (.int .i64 x.m) (.int .i64 x.d) (.int .i64 x.bp)
        simp only [Nat.zero_mul, Nat.zero_add] at hOq hBq
        have HOq := Lib.hid (own_drew hOq)
        have HBq := Lib.hid hBq.drew
        clear hOq hBq
        obtain ⟨g0, g1, g2, g3, g4⟩ := hrow0
        obtain ⟨f0, f1, f2, f3, f4⟩ := hrowq
        simp only [Nat.zero_mul, Nat.zero_add] at g0 g1 g2 g3 g4
        have hqml : (q : Int) < (ml : Int) := by omega
        have hq0 : (0 : Int) ≤ (q : Int) := by omega
        clear hx hy hql h0l
        go_wp2
        go_region
        go_wp2
        go_roundw
        case rel => exact ⟨j + 1, (M.set 0 y).set q x, by omega, by go_num, HPq, HOq, HBq⟩
        case measure => simp [intOf]; omega
      · have h3 : ¬ j < k ∨ (j < k ∧ ¬ j < 30) ∨ (j < k ∧ j < 30 ∧ ¬ 1 < ml) := by omega
        clear hgo
        rcases h3 with h3 | ⟨h3, h4⟩ | ⟨h3, h4, h5⟩
        all_goals (
          go_wp2_with fail
          refine (table_any L ao 12 cap _ (HL.out.below HB.out)).mono ?_
          rintro e w2 ⟨v2, rfl, o2, b2⟩
          rw [List.take_of_length_le (by have := HML.out; omega)] at o2
          obtain ⟨aa, ac, rfl, hA, _⟩ := own_rts o2 (fun r hr => by
            rcases Vt.tab_mem _ _ r hr with hr | hr
            · cases hr
            · exact HL.out.short r hr)
          have HA := Lib.hid hA
          have HB2 := Lib.hid (bchain HB.out b2)
          have HM2 : Hid (Rts w2 va ml vc M) := by
            obtain ⟨va', vc', e, hM, _⟩ := own_rts HO.out (fun r hr => HL.out.short r (HP.out.mem_iff.1 hr))
            injection e with e1 e2 e3
            subst e1 e3
            have h := hM.below b2
            rw [HMl.out] at h
            exact h
          clear o2 b2 hA
          go_wp2_with fail
          refine (table_any M va ml vc _ HM2.out).mono ?_
          rintro e w3 ⟨v3, rfl, o3, b3⟩
          rw [List.take_of_length_le (by have := HMl.out; omega)] at o3
          obtain ⟨ba, bc, rfl, hBB, _⟩ := own_rts o3 (fun r hr => by
            rcases Vt.tab_mem _ _ r hr with hr | hr
            · cases hr
            · exact HL.out.short r (HP.out.mem_iff.1 hr))
          have HBt := Lib.hid hBB
          have HB3 := Lib.hid (bchain HB2.out b3)
          replace HA := Lib.hid (HA.out.below b3)
          clear o3 b3 hBB HM2
          have hac := HA.out.reach
          have haf := HA.out.fits
          have hbc := HBt.out.reach
          have hbf := HBt.out.fits
          have hlN : L.length = 12 := HL.out.len.symm
          have hla : (Vt.tab [] L).length ≤ 12 := hlN ▸ tab_le L
          have hlb : (Vt.tab [] M).length ≤ 12 := by
            have h1 := tab_le M
            have h2 := HP.out.length_eq
            omega
          have HS : Hid ((Vt.tab [] L).length = 12 → (Vt.tab [] M).length = 12 → Vt.tab [] L = Vt.tab [] M) := Lib.hid fun h1 h2 => tab_same HP.out (h1.trans hlN.symm) (h2.trans (hlN.symm.trans HP.out.length_eq.symm))
          obtain ⟨A, hAA⟩ : ∃ A, Vt.tab [] L = A := ⟨_, rfl⟩
          obtain ⟨C, hCC⟩ : ∃ C, Vt.tab [] M = C := ⟨_, rfl⟩
          rw [hAA] at HA HS haf hla ⊢
          rw [hCC] at HBt HS hbf hlb ⊢
          obtain ⟨la, hA'⟩ : ∃ la, A.length = la := ⟨_, rfl⟩
          obtain ⟨lb, hC'⟩ : ∃ lb, C.length = lb := ⟨_, rfl⟩
          rw [hA'] at HA HS haf hla ⊢
          rw [hC'] at HBt HS hbf hlb ⊢
          clear hAA hCC hA' hC' hlN
          by_cases hEa : 12 = la
          · by_cases hEb : 12 = lb
            · have hAC := HS.out hEa.symm hEb.symm
              subst hAC
              subst hEa hEb
              have hnn : ((12 : Int) != (12 : Int)) = false := bne_self_eq_false _
              go_wp2_with fail
              refine (same_rows A aa ba _ ac bc w3 _ (Below.refl _ _) HA.out HBt.out).mono ?_
              rintro e w4 ⟨rfl, b4⟩
              have HB4 := Lib.hid b4
              clear b4
              go_wp2_with fail
              refine (vruns_any w3 _ HB4.out).mono ?_
              rintro e w5 ⟨rfl, b5⟩
              have HB5 := Lib.hid b5
              clear b5
              go_wp2_with fail
              go_ret
              exact ⟨rfl, bchain HB3.out HB5.out⟩
            · subst hEa
              have hnn : ((12 : Int) != (12 : Int)) = false := bne_self_eq_false _
              have hbb : ((lb : Int) != (12 : Int)) = true := bne_iff_ne.2 (by omega)
              go_wp2_with fail
              refine (vruns_any w3 _ (Below.refl _ _)).mono ?_
              rintro e w5 ⟨rfl, b5⟩
              have HB5 := Lib.hid b5
              clear b5
              go_wp2_with fail
              go_ret
              exact ⟨rfl, bchain HB3.out HB5.out⟩
          · have haa : ((la : Int) != (12 : Int)) = true := bne_iff_ne.2 (by omega)
            go_wp2_with fail
            refine (vruns_any w3 _ (Below.refl _ _)).mono ?_
            rintro e w5 ⟨rfl, b5⟩
            have HB5 := Lib.hid b5
            clear b5
            go_wp2_with fail
            go_ret
            exact ⟨rfl, bchain HB3.out HB5.out⟩)
  · have HL := HR
    obtain ⟨L, hLL⟩ : ∃ L, rs = L := ⟨_, rfl⟩
    rw [hLL] at HL
    clear hLL
    have hfit := HL.out.fits
    have hcap := HL.out.reach
    go_wp2_with (at_builtin; go_must (refine wpList_append_rows _ rfl (.tmp 15) (.tmp 16) rfl w.heap.size (.slice (some ⟨w.heap.size, 0, none⟩) 0 0) [] rfl (own_empty (Nat.le_refl _) (heap_alloc_new w _)) ao n cap L rfl HL.out.len HL.out.nil ((HL.out.below ((Below.refl _ _).alloc (Nat.le_refl _) _)).seg) (by simp only [List.length_nil]; omega) (by simp) ?_))
    intro v1 w1 o1 gr1 _
    have HB1 : Hid (Below w.heap.size w w1) := Lib.hid (((Below.refl w.heap.size w).alloc (Nat.le_refl _) _).grown gr1 (by simp) (fun j hj => by simp only [Value.ownBlock, Option.some.injEq] at hj; omega))
    obtain ⟨va, vc, rfl, hV, hVa⟩ := own_rts o1 HL.out.short
    have hvc := hV.reach
    have hvf := hV.fits
    have HO1 := Lib.hid o1
    have HVa := Lib.hid hVa
    clear gr1 o1 hV hVa
    obtain ⟨ml, hml⟩ : ∃ ml, L.length = ml := ⟨_, rfl⟩
    have HML := Lib.hid hml
    rw [hml] at HO1 hvf
    rw [hml]
    have hml12 : ml ≤ 12 := by have := HL.out.len; omega
    clear hml
    go_wp2_with fail
    go_loopw [6, 7] (fun i _ wr => ∃ (j : Nat) (M : List Rt), j ≤ k ∧ i = .int .i64 j ∧ Hid (M.Perm L) ∧ Hid (OwnR wr w.heap.size (.slice va ml vc) M) ∧ Hid (Below w.heap.size w wr)) (fun i _ _ => k - (intOf i).toNat)
    case atStart => exact ⟨0, L, by omega, rfl, Lib.hid (List.Perm.refl _), HO1, HB1⟩
    case round =>
      rename World => wz
      obtain ⟨j, M, hj, rfl, HP, HO, HB⟩ := hrel
      clear HO1 HB1
      have HMl : Hid (M.length = ml) := Lib.hid (HP.out.length_eq.trans HML.out)
      by_cases hgo : j < k ∧ j < 30 ∧ 1 < ml
      · obtain ⟨hg1, hg2, hg3⟩ := hgo
        obtain ⟨tb, toff, z, rfl, hz, hfz⟩ := HZ.out.at j hg1
        have hz' : wz.cell? ⟨tb, toff + j, none⟩ = some (.int .i64 z) := by
          rw [(bcell HB.out).1 _ _ (cell_lt hz)]
          exact hz
        clear hz
        obtain ⟨vg, rfl⟩ : ∃ vg, va = some ⟨vg, 0, none⟩ := by
          cases hva : va with
          | none =>
            have h := HO.out.2
            rcases h with ⟨_, h0⟩ | ⟨g', c', cu, h', _⟩
            · have := HMl.out
              omega
            · injection h' with e1
              rw [hva] at e1
              cases e1
          | some ad =>
            obtain ⟨g', rfl, _⟩ := HVa.out ad hva
            exact ⟨g', rfl⟩
        go_wp2_with fail
        refine (bookWithin_any z 1 ((ml : Int) - 1) _ hfz (by omega) (by omega) (by omega)).mono ?_
        rintro e wx ⟨⟨q, rfl, hq1, hq2⟩, hx⟩
        subst hx
        have hql : q < M.length := by rw [HMl.out]; omega
        have h0l : 0 < M.length := by rw [HMl.out]; omega
        obtain ⟨x, hx⟩ : ∃ x, M[0] = x := ⟨_, rfl⟩
        obtain ⟨y, hy⟩ : ∃ y, M[q] = y := ⟨_, rfl⟩
        obtain ⟨hrow0, hfro, hbg⟩ := own_at HO.out 0 h0l
        obtain ⟨hrowq, _, _⟩ := own_at HO.out q hql
        rw [hx] at hrow0
        rw [hy] at hrowq
        have HPq : Hid (((M.set 0 y).set q x).Perm L) := Lib.hid ((swap_perm M q x y (by rw [List.getElem?_eq_getElem h0l, hx]) (by rw [List.getElem?_eq_getElem hql, hy]) (by omega)).trans HP.out)
        have hOq := own_store (own_store HO.out 0 h0l y) q (by rw [List.length_set]; exact hql) x
        have hBq := below_store (below_store HB.out hbg 0 (.string y.cat) (.int .i64 y.y) (.int .i64 y.m) (.int .i64 y.d) (.int .i64 y.bp)) hbg q (.string x.cat) (.int .i64 x.y) (.int .i64 x.m) (.int .i64 x.d) (.int .i64 x.bp)
        simp only [Nat.zero_mul, Nat.zero_add] at hOq hBq
        have HOq := Lib.hid (own_drew hOq)
        have HBq := Lib.hid hBq.drew
        clear hOq hBq
        obtain ⟨g0, g1, g2, g3, g4⟩ := hrow0
        obtain ⟨f0, f1, f2, f3, f4⟩ := hrowq
        simp only [Nat.zero_mul, Nat.zero_add] at g0 g1 g2 g3 g4
        have hqml : (q : Int) < (ml : Int) := by omega
        have hq0 : (0 : Int) ≤ (q : Int) := by omega
        clear hx hy hql h0l
        go_wp2
        go_region
        go_wp2
        go_roundw
        case rel => exact ⟨j + 1, (M.set 0 y).set q x, by omega, by go_num, HPq, HOq, HBq⟩
        case measure => simp [intOf]; omega
      · have h3 : ¬ j < k ∨ (j < k ∧ ¬ j < 30) ∨ (j < k ∧ j < 30 ∧ ¬ 1 < ml) := by omega
        clear hgo
        rcases h3 with h3 | ⟨h3, h4⟩ | ⟨h3, h4, h5⟩
        all_goals (
          go_wp2_with fail
          refine (table_any L ao n cap _ (HL.out.below HB.out)).mono ?_
          rintro e w2 ⟨v2, rfl, o2, b2⟩
          rw [List.take_of_length_le (by have := HML.out; omega)] at o2
          obtain ⟨aa, ac, rfl, hA, _⟩ := own_rts o2 (fun r hr => by
            rcases Vt.tab_mem _ _ r hr with hr | hr
            · cases hr
            · exact HL.out.short r hr)
          have HA := Lib.hid hA
          have HB2 := Lib.hid (bchain HB.out b2)
          have HM2 : Hid (Rts w2 va ml vc M) := by
            obtain ⟨va', vc', e, hM, _⟩ := own_rts HO.out (fun r hr => HL.out.short r (HP.out.mem_iff.1 hr))
            injection e with e1 e2 e3
            subst e1 e3
            have h := hM.below b2
            rw [HMl.out] at h
            exact h
          clear o2 b2 hA
          go_wp2_with fail
          refine (table_any M va ml vc _ HM2.out).mono ?_
          rintro e w3 ⟨v3, rfl, o3, b3⟩
          rw [List.take_of_length_le (by have := HMl.out; omega)] at o3
          obtain ⟨ba, bc, rfl, hBB, _⟩ := own_rts o3 (fun r hr => by
            rcases Vt.tab_mem _ _ r hr with hr | hr
            · cases hr
            · exact HL.out.short r (HP.out.mem_iff.1 hr))
          have HBt := Lib.hid hBB
          have HB3 := Lib.hid (bchain HB2.out b3)
          replace HA := Lib.hid (HA.out.below b3)
          clear o3 b3 hBB HM2
          have hac := HA.out.reach
          have haf := HA.out.fits
          have hbc := HBt.out.reach
          have hbf := HBt.out.fits
          have hlN : L.length = n := HL.out.len.symm
          have hla : (Vt.tab [] L).length ≤ n := hlN ▸ tab_le L
          have hlb : (Vt.tab [] M).length ≤ n := by
            have h1 := tab_le M
            have h2 := HP.out.length_eq
            omega
          have HS : Hid ((Vt.tab [] L).length = n → (Vt.tab [] M).length = n → Vt.tab [] L = Vt.tab [] M) := Lib.hid fun h1 h2 => tab_same HP.out (h1.trans hlN.symm) (h2.trans (hlN.symm.trans HP.out.length_eq.symm))
          obtain ⟨A, hAA⟩ : ∃ A, Vt.tab [] L = A := ⟨_, rfl⟩
          obtain ⟨C, hCC⟩ : ∃ C, Vt.tab [] M = C := ⟨_, rfl⟩
          rw [hAA] at HA HS haf hla ⊢
          rw [hCC] at HBt HS hbf hlb ⊢
          obtain ⟨la, hA'⟩ : ∃ la, A.length = la := ⟨_, rfl⟩
          obtain ⟨lb, hC'⟩ : ∃ lb, C.length = lb := ⟨_, rfl⟩
          rw [hA'] at HA HS haf hla ⊢
          rw [hC'] at HBt HS hbf hlb ⊢
          clear hAA hCC hA' hC' hlN
          by_cases hEa : n = la
          · by_cases hEb : n = lb
            · have hAC := HS.out hEa.symm hEb.symm
              subst hAC
              subst hEa hEb
              have hnn : ((n : Int) != (n : Int)) = false := bne_self_eq_false _
              go_wp2_with fail
              refine (same_rows A aa ba _ ac bc w3 _ (Below.refl _ _) HA.out HBt.out).mono ?_
              rintro e w4 ⟨rfl, b4⟩
              have HB4 := Lib.hid b4
              clear b4
              go_wp2_with fail
              refine (vruns_any w3 _ HB4.out).mono ?_
              rintro e w5 ⟨rfl, b5⟩
              have HB5 := Lib.hid b5
              clear b5
              go_wp2_with fail
              go_ret
              exact ⟨rfl, bchain HB3.out HB5.out⟩
            · subst hEa
              have hnn : ((n : Int) != (n : Int)) = false := bne_self_eq_false _
              have hbb : ((lb : Int) != (n : Int)) = true := bne_iff_ne.2 (by omega)
              go_wp2_with fail
              refine (vruns_any w3 _ (Below.refl _ _)).mono ?_
              rintro e w5 ⟨rfl, b5⟩
              have HB5 := Lib.hid b5
              clear b5
              go_wp2_with fail
              go_ret
              exact ⟨rfl, bchain HB3.out HB5.out⟩
          · have haa : ((la : Int) != (n : Int)) = true := bne_iff_ne.2 (by omega)
            go_wp2_with fail
            refine (vruns_any w3 _ (Below.refl _ _)).mono ?_
            rintro e w5 ⟨rfl, b5⟩
            have HB5 := Lib.hid b5
            clear b5
            go_wp2_with fail
            go_ret
            exact ⟨rfl, bchain HB3.out HB5.out⟩)
end Go.Proofs.Ytgcjhlnolmjdeaa
