/- slices.Compact OF ROWS OF Balance OF THE CALL's OWN: both its loops walked. -/
import Derived.Test.YtgnepgkmjgpkeaaPoR
import Derived.Test.YtgnepgkmjgpkeaaBaP
import Derived.Test.YtgnepgkmjgpkeaaBaI
import Derived.Lib.SliceRun
set_option maxRecDepth 100000
set_option linter.unusedVariables false
namespace Go.Proofs.Ytgnepgkmjgpkeaa
open Go.RowKit
open Mem
open Go.Sort (grow)

theorem rows_from (g n c k l c' : Nat) (x : Int) (hx : x = (k : Int)) (hk : k + l = n) (hc : k + c' = c) (hl : 0 < c') (hn : n ≤ c) (h63 : c ≤ 9223372036854775807) (u : World) :
    (Instr.slice 22 (.slice (some ⟨g, 0, none⟩) n c) (some (.int .i64 x)) none none).run Try.prog u = .ok (.slice (some ⟨g, k * 2, none⟩) l c') u := by
  subst hx
  rw [run_slice_l u 22 (some ⟨g, 0, none⟩) n c Ba.und .i64 k (by omega) (by omega), Ba.size]
  have e1 : n - k = l := by omega
  have e2 : c - k = c' := by omega
  have e3 : ¬ c = k := by omega
  simp [Result.andThen, sliced, e1, e2, e3, Addr.add]
  intro h
  exact h.symm
theorem rows_to (g n c k : Nat) (x : Int) (hx : x = (k : Int)) (hk : k ≤ c) (h63 : c ≤ 9223372036854775807) (u : World) :
    (Instr.slice 22 (.slice (some ⟨g, 0, none⟩) n c) none (some (.int .i64 x)) none).run Try.prog u = .ok (.slice (some ⟨g, 0, none⟩) k c) u := by
  subst hx
  rw [run_slice_h u 22 (some ⟨g, 0, none⟩) n c Ba.und .i64 k (by omega) (by omega), Ba.size]
  simp [Result.andThen, sliced, Addr.add]
theorem own_get {w : World} {B g n cap : Nat} {D : Array Ba.T} (h : Ba.Own w B (.slice (some ⟨g, 0, none⟩) n cap) D.toList) (i : Nat) (hi : i < D.size) : Ba.At w g (i * 2) D[i]! ∧ (∀ o, w.frozen? ⟨g, o, none⟩ = false) := by
  obtain ⟨h1, h2, _⟩ := Ba.own_at h i (by simpa using hi)
  rw [getElem!_pos D i hi]
  rw [Array.getElem_toList] at h1
  exact ⟨h1, h2⟩
theorem own_reach {w : World} {B n cap : Nat} {ao : Option Addr} {M : List Ba.T} (h : Ba.Own w B (.slice ao n cap) M) : n = M.length ∧ n ≤ cap ∧ cap ≤ 9223372036854775807 := by
  rcases h.2 with ⟨h', h0⟩ | ⟨g', cap', cur, h', hb, hg, hnc, hcm, hcs, htake⟩
  · cases h'
    omega
  · simp only [Value.slice.injEq] at h'
    obtain ⟨_, e2, e3⟩ := h'
    subst e3
    have : maxLen = 9223372036854775807 := rfl
    omega
theorem zero_cells (n : Nat) : (Builtin.zeroCells Ba.zeroV.cells n).toList = (List.replicate n Ba.zero).flatMap Ba.rv := by
  have h := congrArg Array.toList (Ba.made n)
  unfold Ba.zeros at h
  rw [List.toList_toArray] at h
  exact h
/-- clear(rows[k:]) -/
theorem rows_clear {w : World} {B g n cap k : Nat} {M : List Ba.T} (h : Ba.Own w B (.slice (some ⟨g, 0, none⟩) n cap) M) (hk : k < n) :
    ∃ w', (∀ ty c, (Builtin.clear_ #[22] ty #[.slice (some ⟨g, k * 2, none⟩) (n - k) c]).run Try.prog w = .ok (.tuple #[]) w') ∧ Ba.Own w' B (.slice (some ⟨g, 0, none⟩) k cap) (M.take k) ∧ (∀ w0, Below B w0 w → Below B w0 w') := by
  rcases h.2 with ⟨h', _⟩ | ⟨g', cap', cur, h', hb, hg, hnc, hcm, hcs, htake⟩
  · cases h'
  · simp only [Value.slice.injEq, Option.some.injEq, Addr.mk.injEq, and_true] at h'
    obtain ⟨e1, e2, e3⟩ := h'
    subst e1 e3
    have hlen : ((List.replicate (n - k) Ba.zero).flatMap Ba.rv).length = (n - k) * 2 := by rw [Ba.flat_len, List.length_replicate]
    have hst := run_storeCells_at Try.prog g (k * 2) 33 ((List.replicate (n - k) Ba.zero).flatMap Ba.rv) 0 cur w hg (by rw [hlen]; omega) (Ba.one_cell _)
    rw [Nat.add_zero] at hst
    obtain ⟨m, hm⟩ : ∃ m, n - k = m + 1 := ⟨n - k - 1, by omega⟩
    have hz : ∀ u, (zeroValue 33).run Try.prog u = .ok Ba.zeroV u := Try.zeroValue33
    refine ⟨w.setRow g (cur.toList.take (k * 2) ++ (List.replicate (n - k) Ba.zero).flatMap Ba.rv ++ cur.toList.drop (k * 2 + ((List.replicate (n - k) Ba.zero).flatMap Ba.rv).length)).toArray, fun ty c => ?_, ?_, fun w0 hw => below_setRow hw hb _⟩
    · rw [hm] at hst ⊢
      simp only [Builtin.clear_, Sem.run_bind, Sem.run_pure, run_underlying Try.underlying22, Result.andThen_ok, List.getElem?_toArray, List.getElem?_cons_zero, hz, zero_cells, hst]
    · have hkl : (M.take k).length = k := by rw [List.length_take]; omega
      refine ⟨by rw [Ba.flat_len], .inr ⟨g, cap, _, by rw [hkl], hb, setRow_heap w g _ _ 33 _ hg, by rw [hkl]; omega, hcm, ?_, ?_⟩⟩
      · rw [List.size_toArray, List.length_append, List.length_append, List.length_take, List.length_drop, hlen, Array.length_toList, hcs]
        simp only [Nat.min_def]
        split <;> omega
      · rw [hkl, List.toList_toArray, List.append_assoc, List.take_left' (by rw [List.length_take, Array.length_toList, hcs]; simp only [Nat.min_def]; split <;> omega), ← Ba.flat_take, ← htake, List.take_take, Nat.min_eq_left (by omega)]
theorem eq_of {r s : Ba.T} (h0 : r.acct = s.acct) (h1 : r.amt = s.amt) : r = s := by
  cases r
  cases s
  simp only at h0 h1
  subst h0 h1
  rfl
theorem comp_done {D dk : Array Ba.T} {k : Nat} (h : Lib.CompInv D D.size k dk) : Lib.compactUpTo D D.size = dk.toList.take k := by
  apply List.ext_getElem?
  intro j
  have hk := h.lt
  have hs := h.size
  by_cases hj : j < k
  · rw [h.low j hj, List.getElem?_take_of_lt hj, Array.getElem?_toList, getElem!_pos dk j (by omega), Array.getElem?_eq_getElem]
  · rw [List.getElem?_eq_none (by rw [h.len]; omega), List.getElem?_eq_none (by rw [List.length_take]; omega)]
theorem comp_all {D : Array Ba.T} (h : ∀ j, j < D.size → Lib.keeps D j = true) : Lib.compactUpTo D D.size = D.toList := by
  rw [Lib.compactUpTo_all D _ h, Lib.range_map_get]
set_option maxHeartbeats 8000000 in
theorem rows_compact (D : Array Ba.T) (B n cap : Nat) (ao : Option Addr) (w0 w : World) (hw : Below B w0 w) (hO : Ba.Own w B (.slice ao n cap) D.toList) (hn : n = D.size) (hm : n ≤ 100000) :
    Calls Try.prog 33 #[.slice ao n cap] w fun e w' => ∃ k : Nat, e = .returned (.slice ao k cap) ∧ Ba.Own w' B (.slice ao k cap) (Lib.compactUpTo D D.size) ∧ Below B w0 w' := by
  have HW := Lib.hid hw
  have HO := Lib.hid hO
  have HN := Lib.hid hn
  obtain ⟨hx, hfit, hcap⟩ := own_reach hO
  clear hx
  clear hw hO hn
  by_cases h2 : n < 2
  · have HA := Lib.hid (comp_all (D := D) fun j hj => Lib.keeps_lt_one D j (by have := HN.out; omega))
    go_enter Try.func33, Try.ntmps33
    go_wp2_with fail
    go_ret
    exact ⟨n, rfl, by rw [HA.out]; exact HO.out, HW.out⟩
  · obtain ⟨g, rfl⟩ := Ba.own_some HO.out (by omega)
    have HG : Hid (B ≤ g) := Lib.hid (Ba.own_ge HO.out g rfl)
    go_enter Try.func33, Try.ntmps33
    go_wp2_with fail
    go_loopw [3] (fun i wr => ∃ k : Nat, k + 1 ≤ n ∧ i = .int .i64 ((k + 1 : Nat) : Int) ∧ Hid (∀ j, j < k + 1 → Lib.keeps D j = true) ∧ Hid (Ba.Own wr B (.slice (some ⟨g, 0, none⟩) n cap) D.toList ∧ Below B w0 wr)) (fun i _ => n + 1 - (intOf i).toNat)
    case atStart => exact ⟨0, by omega, rfl, Lib.hid (fun j hj => Lib.keeps_lt_one D j hj), Lib.hid ⟨HO.out, HW.out⟩⟩
    case round =>
      rename World => wz
      obtain ⟨k, hk, rfl, HK, H⟩ := hrel
      by_cases hlt : k + 1 < n
      · have hk1 : k + 1 < D.size := HN.out ▸ hlt
        obtain ⟨hr1, _⟩ := own_get H.out.1 k (by omega)
        obtain ⟨hr2, _⟩ := own_get H.out.1 (k + 1) hk1
        obtain ⟨s, hs⟩ : ∃ s, D[k]! = s := ⟨_, rfl⟩
        obtain ⟨r, hr⟩ : ∃ r, D[k + 1]! = r := ⟨_, rfl⟩
        have HR := Lib.hid (And.intro hr hs)
        rw [hs] at hr1
        rw [hr] at hr2
        clear hs hr
        obtain ⟨g0, g1⟩ := hr1
        obtain ⟨f0, f1⟩ := hr2
        have g0' := cell_regrown g0
        have g1' := cell_regrown g1
        have f0' := cell_regrown f0
        have f1' := cell_regrown f1
        clear g0 g1 f0 f1
        have HStep : Hid (r ≠ s → ∀ j, j < k + 1 + 1 → Lib.keeps D j = true) := Lib.hid fun hne j hj => by
          by_cases e : j = k + 1
          · subst e
            exact Lib.keeps_pos (by rw [Nat.add_sub_cancel, HR.out.1, HR.out.2]; exact hne)
          · exact HK.out j (by omega)
        by_cases e0 : r.acct = s.acct
        · have q0 : (r.acct.toList == s.acct.toList) = true := beq_iff_eq.2 (by rw [e0])
          by_cases e1 : r.amt = s.amt
          · have q1 : (r.amt == s.amt) = true := beq_iff_eq.2 e1
            have HD : Hid (Lib.keeps D (k + 1) = false) := Lib.hid (Lib.keeps_neg (by omega) (by rw [Nat.add_sub_cancel, HR.out.1, HR.out.2]; exact eq_of e0 e1))
            have HC0 : Hid (Lib.CompInv D (k + 1 + 0 + 1) (k + 1) D) := Lib.hid (Lib.CompInv.start HK.out HD.out)
            have hsl := rows_from g n cap (k + 1) (n - (k + 1)) (cap - (k + 1)) ((k : Int) + 1) (by omega) (by omega) (by omega) (by omega) (by omega) hcap
            obtain ⟨L, hL⟩ : ∃ L, n - (k + 1) = L := ⟨_, rfl⟩
            obtain ⟨C, hC⟩ : ∃ C, cap - (k + 1) = C := ⟨_, rfl⟩
            obtain ⟨o, ho⟩ : ∃ o, (k + 1) * 2 = o := ⟨_, rfl⟩
            rw [hL, hC, ho] at hsl
            have hC1 : C ≤ 9223372036854775807 := by omega
            have hLC : L ≤ C := by omega
            have hL1 : k + 1 + L ≤ n := by omega
            have hL2 : n ≤ k + 1 + L := by omega
            have HOo := Lib.hid ho
            clear e0 e1 HD HStep hC hL ho
            go_wp2_with fail
            refine wp_region_quiet_below (by kernel_rfl) (by kernel_rfl) ?_
            repeat (first | go_big_quiet_step (fail) | quiet_step (fail))
            refine wpQuiet_nil ?_
            intro _ hw'
            obtain ⟨⟨dq, osq⟩, hw''⟩ := hw'
            subst hw''
            have HV : Hid (Ba.Own (grow (redrawn wz dq) osq) B (.slice (some ⟨g, 0, none⟩) n cap) D.toList ∧ Below B w0 (grow (redrawn wz dq) osq)) := Lib.hid ⟨Ba.own_below H.out.1 (below_regrown wz dq osq), H.out.2.trans ((below_regrown wz dq osq).mono (Nat.le_trans HG.out (Nat.le_of_lt (Ba.own_lt H.out.1))))⟩
            generalize grow (redrawn wz dq) osq = wv at *
            clear g0' g1' f0' f1' q0 q1 H
            go_wp2_with fail
            go_loopw [3, 5] (fun a b wr => ∃ (kk j : Nat) (dk : Array Ba.T), a = .int .i64 kk ∧ b = .int .i64 ((j + 1 : Nat) : Int) ∧ j + 1 ≤ L ∧ kk < n ∧ Hid (Lib.CompInv D (k + 1 + j + 1) kk dk) ∧ Hid (Ba.Own wr B (.slice (some ⟨g, 0, none⟩) n cap) dk.toList ∧ Below B w0 wr)) (fun _ b _ => L + 1 - (intOf b).toNat)
            case atStart => exact ⟨k + 1, 0, D, by go_num, rfl, by omega, hlt, HC0, HV⟩
            case round =>
              clear HV HC0 hsl
              rename World => wy
              obtain ⟨kk, j, dk, rfl, rfl, hj, hkk, HI, H⟩ := hrel
              have oj1 : (k + 1 + j) * 2 = o + j * 2 := by have := HOo.out; omega
              have oj2 : (k + 1 + (j + 1)) * 2 = o + (j + 1) * 2 := by have := HOo.out; omega
              have hds : dk.size = n := by rw [HI.out.size, HN.out]
              have hkm := HI.out.lt
              by_cases hlt2 : j + 1 < L
              · obtain ⟨hu1, hfz⟩ := own_get H.out.1 (k + 1 + j) (by omega)
                obtain ⟨hu2, _⟩ := own_get H.out.1 (k + 1 + (j + 1)) (by omega)
                obtain ⟨hu3, _⟩ := own_get H.out.1 kk (by omega)
                rw [HI.out.high (k + 1 + j) (by omega), oj1] at hu1
                rw [HI.out.high (k + 1 + (j + 1)) (by omega), oj2] at hu2
                clear oj1 oj2
                obtain ⟨v, hv⟩ : ∃ v, D[k + 1 + j]! = v := ⟨_, rfl⟩
                obtain ⟨u, hu⟩ : ∃ u, D[k + 1 + (j + 1)]! = u := ⟨_, rfl⟩
                have HUV := Lib.hid (And.intro hu hv)
                rw [hv] at hu1
                rw [hu] at hu2
                generalize dk[kk]! = old at hu3
                clear hu hv
                obtain ⟨g0, g1⟩ := hu1
                obtain ⟨f0, f1⟩ := hu2
                have g0' := cell_regrown g0
                have g1' := cell_regrown g1
                have f0' := cell_regrown f0
                have f1' := cell_regrown f1
                have HSkip : Hid (u = v → Lib.CompInv D (k + 1 + (j + 1) + 1) kk dk) := Lib.hid fun e => HI.out.skip (Lib.keeps_neg (by omega) (by rw [show k + 1 + j + 1 = k + 1 + (j + 1) by omega, HUV.out.1, show k + 1 + (j + 1) - 1 = k + 1 + j by omega, HUV.out.2]; exact e))
                have HKeep : Hid (u ≠ v → Lib.CompInv D (k + 1 + (j + 1) + 1) (kk + 1) (dk.setIfInBounds kk u)) := Lib.hid fun e => by
                  have h := HI.out.keep (by rw [← HN.out]; omega) (Lib.keeps_pos (by rw [show k + 1 + j + 1 = k + 1 + (j + 1) by omega, HUV.out.1, show k + 1 + (j + 1) - 1 = k + 1 + j by omega, HUV.out.2]; exact e))
                  rw [show k + 1 + j + 1 = k + 1 + (j + 1) by omega, HUV.out.1] at h
                  exact h
                have HFr : Hid (∀ wv, Below wy.heap.size wy wv → (wv.cell? ⟨g, kk * 2, none⟩ = some (.string old.acct) ∧ wv.cell? ⟨g, kk * 2 + 1, none⟩ = some (.int .i64 old.amt) ∧ (∀ o, wv.frozen? ⟨g, o, none⟩ = false) ∧ wv.cell? ⟨g, o + (j + 1) * 2, none⟩ = some (.string u.acct) ∧ wv.cell? ⟨g, o + (j + 1) * 2 + 1, none⟩ = some (.int .i64 u.amt)) ∧ Ba.Own wv B (.slice (some ⟨g, 0, none⟩) n cap) dk.toList ∧ Below B w0 wv) := Lib.hid fun wv hb => by
                  have hgl : g < wy.heap.size := Ba.own_lt H.out.1
                  refine ⟨⟨?_, ?_, fun o => ?_, ?_, ?_⟩, Ba.own_below H.out.1 hb, H.out.2.trans (hb.mono (Nat.le_trans HG.out (Nat.le_of_lt hgl)))⟩
                  · rw [(bcell hb).1 _ _ hgl]; exact hu3.c0
                  · rw [(bcell hb).1 _ _ hgl]; exact hu3.c1
                  · rw [(bcell hb).2 _ _ hgl]; exact hfz o
                  · rw [(bcell hb).1 _ _ hgl]; exact f0
                  · rw [(bcell hb).1 _ _ hgl]; exact f1
                clear hu3 hfz g0 g1 f0 f1 HI H
                have fin : u ≠ v → Hid (u ≠ v) := fun h => Lib.hid h
                have both : (u.acct = v.acct ∧ u.amt = v.amt) ∨ (u.acct = v.acct ∧ u.amt ≠ v.amt) ∨ u.acct ≠ v.acct := by
                  by_cases h0 : u.acct = v.acct
                  · by_cases h1 : u.amt = v.amt
                    · exact .inl ⟨h0, h1⟩
                    · exact .inr (.inl ⟨h0, h1⟩)
                  · exact .inr (.inr h0)
                rcases both with ⟨e0, e1⟩ | ⟨e0, e1⟩ | e0
                · have q0 : (u.acct.toList == v.acct.toList) = true := beq_iff_eq.2 (by rw [e0])
                  have q1 : (u.amt == v.amt) = true := beq_iff_eq.2 e1
                  have HE := Lib.hid (HSkip.out (eq_of e0 e1))
                  clear e0 e1 fin HSkip HKeep
                  go_wp2_with fail
                  refine wp_region_quiet_below (by kernel_rfl) (by kernel_rfl) ?_
                  repeat (first | go_big_quiet_step (fail) | quiet_step (fail))
                  refine wpQuiet_nil ?_
                  intro _ hw'
                  obtain ⟨⟨dq, osq⟩, hw''⟩ := hw'
                  subst hw''
                  have HV := Lib.hid (HFr.out _ (below_regrown wy dq osq)).2
                  go_wp2_with fail
                  go_roundw
                  case rel => exact ⟨kk, j + 1, dk, rfl, by go_num, by omega, hkk, HE, HV⟩
                  case measure => simp [intOf]; omega
                · have q0 : (u.acct.toList == v.acct.toList) = true := beq_iff_eq.2 (by rw [e0])
                  have q1 : (u.amt == v.amt) = false := beq_eq_false_iff_ne.2 e1
                  have HE := Lib.hid (HKeep.out fun h => e1 (by rw [h]))
                  clear e0 e1 fin HSkip HKeep
                  go_wp2_with fail
                  refine wp_region_quiet_below (by kernel_rfl) (by kernel_rfl) ?_
                  repeat (first | go_big_quiet_step (fail) | quiet_step (fail))
                  refine wpQuiet_nil ?_
                  intro _ hw'
                  obtain ⟨⟨dq, osq⟩, hw''⟩ := hw'
                  subst hw''
                  obtain ⟨⟨c0, c1, cf, c2, c3⟩, hV⟩ := HFr.out _ (below_regrown wy dq osq)
                  have HV := Lib.hid hV
                  clear hV g0' g1' f0' f1'
                  have cf0 := cf (kk * 2)
                  have cf1 := cf (kk * 2 + 1)
                  clear cf
                  generalize grow (redrawn wy dq) osq = wv at *
                  have HP : Hid (Ba.Own ((wv.setCell ⟨g, kk * 2, none⟩ (.string u.acct)).setCell ⟨g, kk * 2 + 1, none⟩ (.int .i64 u.amt)) B (.slice (some ⟨g, 0, none⟩) n cap) (dk.setIfInBounds kk u).toList ∧ Below B w0 ((wv.setCell ⟨g, kk * 2, none⟩ (.string u.acct)).setCell ⟨g, kk * 2 + 1, none⟩ (.int .i64 u.amt))) := Lib.hid ⟨by
                    have h := Ba.own_store HV.out.1 kk (by rw [Array.length_toList, hds]; exact hkk) u
                    rw [Array.toList_setIfInBounds]
                    exact h, Ba.below_store HV.out.2 HG.out kk _ _⟩
                  go_wp2_with fail
                  go_roundw
                  case rel => exact ⟨kk + 1, j + 1, dk.setIfInBounds kk u, by go_num, by go_num, by omega, by omega, HE, HP⟩
                  case measure => simp [intOf]; omega
                · have q0 : (u.acct.toList == v.acct.toList) = false := beq_eq_false_iff_ne.2 fun h => e0 (Vt.cat_ext h)
                  have HE := Lib.hid (HKeep.out fun h => e0 (by rw [h]))
                  clear e0 fin HSkip HKeep
                  go_wp2_with fail
                  refine wp_region_quiet_below (by kernel_rfl) (by kernel_rfl) ?_
                  repeat (first | go_big_quiet_step (fail) | quiet_step (fail))
                  refine wpQuiet_nil ?_
                  intro _ hw'
                  obtain ⟨⟨dq, osq⟩, hw''⟩ := hw'
                  subst hw''
                  obtain ⟨⟨c0, c1, cf, c2, c3⟩, hV⟩ := HFr.out _ (below_regrown wy dq osq)
                  have HV := Lib.hid hV
                  clear hV g0' g1' f0' f1'
                  have cf0 := cf (kk * 2)
                  have cf1 := cf (kk * 2 + 1)
                  clear cf
                  generalize grow (redrawn wy dq) osq = wv at *
                  have HP : Hid (Ba.Own ((wv.setCell ⟨g, kk * 2, none⟩ (.string u.acct)).setCell ⟨g, kk * 2 + 1, none⟩ (.int .i64 u.amt)) B (.slice (some ⟨g, 0, none⟩) n cap) (dk.setIfInBounds kk u).toList ∧ Below B w0 ((wv.setCell ⟨g, kk * 2, none⟩ (.string u.acct)).setCell ⟨g, kk * 2 + 1, none⟩ (.int .i64 u.amt))) := Lib.hid ⟨by
                    have h := Ba.own_store HV.out.1 kk (by rw [Array.length_toList, hds]; exact hkk) u
                    rw [Array.toList_setIfInBounds]
                    exact h, Ba.below_store HV.out.2 HG.out kk _ _⟩
                  go_wp2_with fail
                  go_roundw
                  case rel => exact ⟨kk + 1, j + 1, dk.setIfInBounds kk u, by go_num, by go_num, by omega, by omega, HE, HP⟩
                  case measure => simp [intOf]; omega
              · obtain rfl : j + 1 = L := by omega
                clear oj1 oj2
                have hnn : k + 1 + j + 1 = D.size := by rw [← HN.out]; omega
                have HI2 : Hid (Lib.compactUpTo D D.size = dk.toList.take kk) := Lib.hid (comp_done (by have h := HI.out; rw [hnn] at h; exact h))
                obtain ⟨W, hcl, hW1, hW2⟩ := rows_clear H.out.1 hkk
                have HW1 := Lib.hid hW1
                have HW2 := Lib.hid (hW2 w0 H.out.2)
                have hs1 := rows_from g n cap kk (n - kk) (cap - kk) (kk : Int) rfl (by omega) (by omega) (by omega) (by omega) hcap
                have hs2 := rows_to g n cap kk (kk : Int) rfl (by omega) hcap
                clear hW1 hW2 HI H
                go_wp2_with fail
                go_ret
                exact ⟨kk, rfl, by rw [HI2.out]; exact HW1.out, HW2.out⟩
          · have q1 : (r.amt == s.amt) = false := beq_eq_false_iff_ne.2 e1
            have HE := Lib.hid (HStep.out fun h => e1 (by rw [h]))
            clear e0 e1
            go_wp2_with fail
            refine wp_region_quiet_below (by kernel_rfl) (by kernel_rfl) ?_
            repeat (first | go_big_quiet_step (fail) | quiet_step (fail))
            refine wpQuiet_nil ?_
            intro _ hw'
            obtain ⟨⟨dq, osq⟩, hw''⟩ := hw'
            subst hw''
            have HV : Hid (Ba.Own (grow (redrawn wz dq) osq) B (.slice (some ⟨g, 0, none⟩) n cap) D.toList ∧ Below B w0 (grow (redrawn wz dq) osq)) := Lib.hid ⟨Ba.own_below H.out.1 (below_regrown wz dq osq), H.out.2.trans ((below_regrown wz dq osq).mono (Nat.le_trans HG.out (Nat.le_of_lt (Ba.own_lt H.out.1))))⟩
            go_wp2_with fail
            go_roundw
            case rel => exact ⟨k + 1, by omega, by go_num, HE, HV⟩
            case measure => simp [intOf]; omega
        · have q0 : (r.acct.toList == s.acct.toList) = false := beq_eq_false_iff_ne.2 fun h => e0 (Vt.cat_ext h)
          have HE := Lib.hid (HStep.out fun h => e0 (by rw [h]))
          clear e0
          go_wp2_with fail
          refine wp_region_quiet_below (by kernel_rfl) (by kernel_rfl) ?_
          repeat (first | go_big_quiet_step (fail) | quiet_step (fail))
          refine wpQuiet_nil ?_
          intro _ hw'
          obtain ⟨⟨dq, osq⟩, hw''⟩ := hw'
          subst hw''
          have HV : Hid (Ba.Own (grow (redrawn wz dq) osq) B (.slice (some ⟨g, 0, none⟩) n cap) D.toList ∧ Below B w0 (grow (redrawn wz dq) osq)) := Lib.hid ⟨Ba.own_below H.out.1 (below_regrown wz dq osq), H.out.2.trans ((below_regrown wz dq osq).mono (Nat.le_trans HG.out (Nat.le_of_lt (Ba.own_lt H.out.1))))⟩
          go_wp2_with fail
          go_roundw
          case rel => exact ⟨k + 1, by omega, by go_num, HE, HV⟩
          case measure => simp [intOf]; omega
      · obtain rfl : k + 1 = n := by omega
        have HA := Lib.hid (comp_all (D := D) fun j hj => HK.out j (by have := HN.out; omega))
        go_wp2_with fail
        go_ret
        exact ⟨k + 1, by go_num, by rw [HA.out]; exact H.out.1, H.out.2⟩
end Go.Proofs.Ytgnepgkmjgpkeaa
