/- CONTRACTS OF PACKAGE post: Entries. -/
import Derived.Test.YtgnepgkmjgpkeaaRfEs
import Derived.Test.YtgnepgkmjgpkeaaMoneyN
set_option maxRecDepth 100000
set_option linter.unusedVariables false
namespace Go.Proofs.Ytgnepgkmjgpkeaa
open Go.RowKit
open Mem

theorem subZ (x : Int) (w : World) (hx : Fit x) : Calls Try.prog 22 #[.int .i64 0, .int .i64 x] w fun e w' => e = both (Mn.amt (-x)) (Mn.err (-x)) ∧ w' = w := by
  have h := sub_any 0 x w (by decide) hx
  rw [Int.zero_sub] at h
  exact h
theorem make_two (p : Nat) (hp : p ≤ 1000) (u : World) : (Instr.makeSlice 22 (.int .i64 0) (.int .i64 (1 + 2 * (p : Int)))).run Try.prog u =
    .ok (.slice (some ⟨u.heap.size, 0, none⟩) 0 (1 + 2 * p)) (u.alloc (.cells (Ba.zeros (1 + 2 * p)) 33)) := by
  obtain ⟨i0, hi, hz0, hz1, hz2⟩ := info_parts Ba.info
  have h := run_make (P := Try.prog) u 22 33 i0 Ba.zeroV Try.underlying22 hi hz0 .i64 .i64 0 (1 + 2 * (p : Int)) (by omega) (by omega) (by rw [hz2]; omega) (by omega)
  rw [hz1, show (1 + 2 * (p : Int)).toNat = 1 + 2 * p from by omega, Ba.made] at h
  exact h
theorem own_two (u : World) (p : Nat) (hp : p ≤ 1000) : Ba.Own (u.alloc (.cells (Ba.zeros (1 + 2 * p)) 33)) u.heap.size (.slice (some ⟨u.heap.size, 0, none⟩) 0 (1 + 2 * p)) [] :=
  ⟨rfl, .inr ⟨u.heap.size, 1 + 2 * p, Ba.zeros (1 + 2 * p), rfl, Nat.le_refl _, heap_alloc_new u _, Nat.zero_le _, by have : maxLen = 9223372036854775807 := rfl; omega, by unfold Ba.zeros; rw [List.size_toArray, Ba.flat_len, List.length_replicate], rfl⟩⟩
theorem index_0 (a b c d : Value) (u : World) : (Instr.index 49 (.agg #[a, b, c, d]) (.int .i64 0)).run Try.prog u = .ok (.agg #[a, b]) u := by kernel_rfl
theorem index_1 (a b c d : Value) (u : World) : (Instr.index 49 (.agg #[a, b, c, d]) (.int .i64 1)).run Try.prog u = .ok (.agg #[c, d]) u := by kernel_rfl
theorem rows_take (G : Int) (ps : List Pt.T) (r : Pt.T) (k j : Nat) : (Po.entrL G (ps.take k) ++ (Po.rowsOf r).take j).length ≤ 1 + 2 * k + 2 := by
  rw [List.length_append, entr_len, List.length_take, List.length_take]
  have : (Po.rowsOf r).length = 2 := rfl
  omega
theorem own_slice {w : World} {B : Nat} {v : Value} {M : List Ba.T} (h : Ba.Own w B v M) : ∃ ao n cap, v = .slice ao n cap := by
  rcases h.2 with ⟨h', _⟩ | ⟨g', cap', cur, h', _⟩
  · exact ⟨_, _, _, h'⟩
  · exact ⟨_, _, _, h'⟩
set_option maxHeartbeats 8000000 in
theorem post_entries (N X G : Int) (ps : List Pt.T) (ao : Option Addr) (p cap : Nat) (w : World) (hL : Pt.Ls w ao p cap ps) (hG : Fit G) (hp : p ≤ 1000) (hc : ∀ x ∈ ps, x.cat.size ≤ 140737488351232) :
    Calls Try.prog 8 #[Tt.val N X G (.slice ao p cap)] w (EntrE w G ps) := by
  have HL := Lib.hid hL
  have HLn := Lib.hid hL.len
  have HCa := Lib.hid hc
  have hcap := hL.reach
  have hfit := hL.fits
  obtain ⟨U, hU⟩ : ∃ U, w.alloc (.cells #[.int .i64 N, .int .i64 X, .int .i64 G, .slice ao p cap] 30) = U := ⟨_, rfl⟩
  have hbU : Below w.heap.size w U := hU ▸ (Below.refl _ _).alloc (Nat.le_refl _) _
  have hAU : Tt.At U w.heap.size N X G (.slice ao p cap) := hU ▸ Tt.at_box w N X G (.slice ao p cap)
  have HBU := Lib.hid hbU
  obtain ⟨V, hV⟩ : ∃ V, U.alloc (.cells (Ba.zeros (1 + 2 * p)) 33) = V := ⟨_, rfl⟩
  have hbV : Below U.heap.size U V := hV ▸ (Below.refl _ _).alloc (Nat.le_refl _) _
  have HBV := Lib.hid hbV
  have HOV : Hid (Ba.Own V U.heap.size (.slice (some ⟨U.heap.size, 0, none⟩) 0 (1 + 2 * p)) []) := Lib.hid (hV ▸ own_two U p hp)
  have HAU := Lib.hid hAU
  obtain ⟨u0, u1, u2, u3⟩ := hAU.cells
  obtain ⟨c0, c1, c2, c3⟩ := (hAU.below hbV).cells
  have hmk := make_two p hp
  have HLU := Lib.hid (hL.below hbU)
  have hUV : U.heap.size ≤ V.heap.size := hbV.size
  clear hL hc hG hbU hAU hbV u0 u1 c0 c1
  unfold Tt.val
  go_enter Try.func8, Try.ntmps8
  go_wp2_with (at_builtin; go_must (refine Ba.wpList_append _ rfl (.tmp 17) (.tmp 21) rfl U.heap.size (.slice (some ⟨U.heap.size, 0, none⟩) 0 (1 + 2 * p)) [] rfl (Ba.own_alloc HOV.out _) (some ⟨V.heap.size, 0, none⟩) 1 1 [⟨Po.owedA, G⟩] rfl rfl (fun h => by cases h) (Ba.seg_block (heap_alloc_new V _)) (by simp) (by simp; omega) ?_))
  intro v1 w2 o1 gr1 _
  have HB0 : Hid (Below U.heap.size U w2) := Lib.hid ((below_box HBV.out _).grown gr1 (by simp; omega) (Ba.own_ge HOV.out))
  obtain ⟨va, q1, vc1, hv1⟩ := own_slice o1
  subst hv1
  have HO0 : Hid (Ba.Own w2 U.heap.size (.slice va q1 vc1) (Po.entrL G (ps.take 0))) := Lib.hid o1
  have c3' := (HAU.out.below HB0.out).cells.2.2.2
  clear gr1 o1 hU hV hmk u2 u3 c2 c3 hUV HBV HOV
  obtain ⟨h, hh⟩ : ∃ h, w.heap.size = h := ⟨_, rfl⟩
  rw [hh] at c3' HAU
  rw [hh]
  have HHw := Lib.hid hh
  clear hh
  go_wp2_with fail
  clear c3'
  go_loopw [4, 6, 8, 9, 10, 26] (fun t _ _ _ _ i wr => ∃ (k : Nat) (vo : Option Addr) (q vc : Nat), k ≤ p ∧ i = .int .i64 k ∧ t = .slice vo q vc ∧ Hid (Below U.heap.size U wr) ∧ Hid (Ba.Own wr U.heap.size (.slice vo q vc) (Po.entrL G (ps.take k))) ∧ Hid (∀ x ∈ ps.take k, Po.badE x = false)) (fun _ _ _ _ _ i _ => p - (intOf i).toNat)
  case atStart => exact ⟨0, va, q1, vc1, by omega, rfl, rfl, HB0, HO0, Lib.hid (by simp)⟩
  case round =>
    clear HB0 HO0
    rename World => wz
    obtain ⟨k, vo, q, vc, hk, rfl, rfl, HB, HO, HK⟩ := hrel
    by_cases hlt : k < p
    · obtain ⟨b, off, rfl⟩ := HLU.out.at (by omega)
      have hkl : k < ps.length := HLn.out ▸ hlt
      have hrow := (HLU.out.row k hkl).below HB.out
      have HSt := Lib.hid (Po.entr_step G ps k hkl)
      have HTk := Lib.hid (List.take_succ_eq_append_getElem hkl)
      have HSh := Lib.hid (HL.out.short _ (List.getElem_mem hkl))
      have HMm : Hid (ps[k] ∈ ps) := Lib.hid (List.getElem_mem hkl)
      have HCk := Lib.hid (HCa.out _ (List.getElem_mem hkl))
      obtain ⟨r, hr⟩ : ∃ r, ps[k] = r := ⟨_, rfl⟩
      rw [hr] at hrow HSt HTk HSh HMm HCk
      clear hr
      obtain ⟨r0, r1, r2, r3⟩ := hrow
      obtain ⟨W, hW, hbW, hA⟩ := Pt.boxed1 wz r
      have HBW := Lib.hid (bchain HB.out hbW)
      have HOW : Hid (Ba.Own W U.heap.size (.slice vo q vc) (Po.entrL G (ps.take k) ++ (Po.rowsOf r).take 0)) := Lib.hid (by
        rw [List.take_zero, List.append_nil]
        exact Ba.own_below HO.out hbW)
      unfold Pt.C at hA
      obtain ⟨a0, a1, a2, a3⟩ := hA
      obtain ⟨t1, ht1⟩ : ∃ t1, Po.netA ++ r.cat = t1 := ⟨_, rfl⟩
      obtain ⟨t2, ht2⟩ : ∃ t2, Po.taxA ++ r.cat = t2 := ⟨_, rfl⟩
      have hadd1 : ∀ u, (Op.stringOp .add ⟨#[110, 101, 116, 47]⟩ r.cat).run Try.prog u = .ok (.string t1) u := fun u => by
        rw [← ht1]
        exact text_add Po.netA r.cat (by have := HCk.out; have : Po.netA.size = 4 := rfl; omega) u
      have hadd2 : ∀ u, (Op.stringOp .add ⟨#[116, 97, 120, 47]⟩ r.cat).run Try.prog u = .ok (.string t2) u := fun u => by
        rw [← ht2]
        exact text_add Po.taxA r.cat (by have := HCk.out; have : Po.taxA.size = 4 := rfl; omega) u
      have HRw : Hid (Po.rowsOf r = [⟨t1, -r.net⟩, ⟨t2, -r.tax⟩]) := Lib.hid (by unfold Po.rowsOf; rw [ht1, ht2])
      clear ht1 ht2 hbW HO
      go_wp2_with fail
      clear hadd1 hadd2 hW a0 a1 a2 a3 r0 r1 r2 r3
      go_loopw [4, 8, 9, 10, 43] (fun t _ _ _ i wr => ∃ (j : Nat) (uo : Option Addr) (uq uc : Nat), j ≤ 2 ∧ i = .int .i64 j ∧ t = .slice uo uq uc ∧ Hid (Below U.heap.size U wr) ∧ Hid (Ba.Own wr U.heap.size (.slice uo uq uc) (Po.entrL G (ps.take k) ++ (Po.rowsOf r).take j)) ∧ Hid ((1 ≤ j → Mn.err (-r.net) = 0) ∧ (2 ≤ j → Mn.err (-r.tax) = 0))) (fun _ _ _ _ i _ => 2 - (intOf i).toNat)
      case atStart => exact ⟨0, vo, q, vc, by omega, rfl, rfl, HBW, HOW, Lib.hid ⟨fun h => by omega, fun h => by omega⟩⟩
      case round =>
        clear HBW HOW HB
        rename World => wy
        obtain ⟨j, uo, uq, uc, hj, rfl, rfl, HB, HO, HJ⟩ := hrel
        have HLe := Lib.hid (rows_take G ps r k j)
        rcases (show j = 0 ∨ j = 1 ∨ j = 2 by omega) with rfl | rfl | rfl
        · have hix := index_0 (.string t1) (.int .i64 r.net) (.string t2) (.int .i64 r.tax)
          obtain ⟨Z, hZ, hbZ, hC⟩ := Ba.boxed1 wy ⟨t1, r.net⟩
          have HBZ := Lib.hid (bchain HB.out hbZ)
          have HOZ := Lib.hid (Ba.own_below HO.out hbZ)
          have hsz2 : U.heap.size ≤ Z.heap.size := HBZ.out.size
          unfold Ba.C at hC
          obtain ⟨d0, d1⟩ := hC
          simp only at hZ d0 d1
          clear hbZ
          go_wp2_with fail
          refine (subZ r.net _ HSh.out.2.2.1).mono ?_
          rintro e w3 ⟨rfl, hw3⟩
          have hw4 := hw3.symm
          clear hw3
          subst hw4
          clear hZ
          unfold both
          rcases Mn.err_two (-r.net) with e1 | e1
          · rw [e1, Mn.amt_fit (Iv_err_z e1)]
            have HE1 := Lib.hid e1
            clear e1
            go_wp2_with (at_builtin; go_must (refine Ba.wpList_append _ rfl (.tmp 55) (.tmp 60) rfl U.heap.size (.slice uo uq uc) (Po.entrL G (ps.take k) ++ (Po.rowsOf r).take 0) rfl (Ba.own_alloc HOZ.out _) (some ⟨Z.heap.size, 0, none⟩) 1 1 [⟨t1, -r.net⟩] rfl rfl (fun h => by cases h) (Ba.seg_block (heap_alloc_new Z _)) (by have := HLe.out; omega) (by simp; omega) ?_))
            intro v3 w5 o3 gr3 _
            have HB3 : Hid (Below U.heap.size U w5) := Lib.hid ((below_box HBZ.out _).grown gr3 (by simp; omega) (Ba.own_ge HOZ.out))
            obtain ⟨xa, xq, xc, hx1⟩ := own_slice o3
            subst hx1
            have HO3 : Hid (Ba.Own w5 U.heap.size (.slice xa xq xc) (Po.entrL G (ps.take k) ++ (Po.rowsOf r).take (0 + 1))) := Lib.hid (by
              have e : Po.entrL G (ps.take k) ++ (Po.rowsOf r).take (0 + 1) = Po.entrL G (ps.take k) ++ (Po.rowsOf r).take 0 ++ [⟨t1, -r.net⟩] := by
                rw [HRw.out]
                simp
              rw [e]
              first | exact o3 | (rw [List.append_assoc]; exact o3) | simpa using o3)
            clear gr3 o3 hsz2 d0 d1
            go_wp2_with fail
            go_roundw
            case rel => exact ⟨0 + 1, xa, xq, xc, by omega, rfl, rfl, HB3, HO3, Lib.hid ⟨fun _ => HE1.out, fun h => by omega⟩⟩
            case measure => simp [intOf]
          · have HP := Lib.hid (Po.entr_bad G HMm.out (Po.bad_yes (.inl (by rw [e1]; omega))))
            rw [e1]
            clear e1
            go_wp2_with fail
            go_ret2
            exact ⟨_, by rw [HP.out.1]; rfl, by rw [HP.out.2]; exact Ba.own_nil _ _, bchain HBU.out HBZ.out⟩
        · have hix := index_1 (.string t1) (.int .i64 r.net) (.string t2) (.int .i64 r.tax)
          obtain ⟨Z, hZ, hbZ, hC⟩ := Ba.boxed1 wy ⟨t2, r.tax⟩
          have HBZ := Lib.hid (bchain HB.out hbZ)
          have HOZ := Lib.hid (Ba.own_below HO.out hbZ)
          have hsz2 : U.heap.size ≤ Z.heap.size := HBZ.out.size
          unfold Ba.C at hC
          obtain ⟨d0, d1⟩ := hC
          simp only at hZ d0 d1
          clear hbZ
          go_wp2_with fail
          refine (subZ r.tax _ HSh.out.2.2.2).mono ?_
          rintro e w3 ⟨rfl, hw3⟩
          have hw4 := hw3.symm
          clear hw3
          subst hw4
          clear hZ
          unfold both
          rcases Mn.err_two (-r.tax) with e1 | e1
          · rw [e1, Mn.amt_fit (Iv_err_z e1)]
            have HE1 := Lib.hid e1
            clear e1
            go_wp2_with (at_builtin; go_must (refine Ba.wpList_append _ rfl (.tmp 55) (.tmp 60) rfl U.heap.size (.slice uo uq uc) (Po.entrL G (ps.take k) ++ (Po.rowsOf r).take 1) rfl (Ba.own_alloc HOZ.out _) (some ⟨Z.heap.size, 0, none⟩) 1 1 [⟨t2, -r.tax⟩] rfl rfl (fun h => by cases h) (Ba.seg_block (heap_alloc_new Z _)) (by have := HLe.out; omega) (by simp; omega) ?_))
            intro v3 w5 o3 gr3 _
            have HB3 : Hid (Below U.heap.size U w5) := Lib.hid ((below_box HBZ.out _).grown gr3 (by simp; omega) (Ba.own_ge HOZ.out))
            obtain ⟨xa, xq, xc, hx1⟩ := own_slice o3
            subst hx1
            have HO3 : Hid (Ba.Own w5 U.heap.size (.slice xa xq xc) (Po.entrL G (ps.take k) ++ (Po.rowsOf r).take (1 + 1))) := Lib.hid (by
              have e : Po.entrL G (ps.take k) ++ (Po.rowsOf r).take (1 + 1) = Po.entrL G (ps.take k) ++ (Po.rowsOf r).take 1 ++ [⟨t2, -r.tax⟩] := by
                rw [HRw.out]
                simp
              rw [e]
              first | exact o3 | (rw [List.append_assoc]; exact o3) | simpa using o3)
            clear gr3 o3 hsz2 d0 d1
            go_wp2_with fail
            go_roundw
            case rel => exact ⟨1 + 1, xa, xq, xc, by omega, rfl, rfl, HB3, HO3, Lib.hid ⟨fun _ => HJ.out.1 (by omega), fun _ => HE1.out⟩⟩
            case measure => simp [intOf]
          · have HP := Lib.hid (Po.entr_bad G HMm.out (Po.bad_yes (.inr (by rw [e1]; omega))))
            rw [e1]
            clear e1
            go_wp2_with fail
            go_ret2
            exact ⟨_, by rw [HP.out.1]; rfl, by rw [HP.out.2]; exact Ba.own_nil _ _, bchain HBU.out HBZ.out⟩
        · have HE1 := HJ.out.1 (by omega)
          have HE2 := HJ.out.2 (by omega)
          have HBd := Lib.hid (Po.bad_no HE1 HE2)
          have HKn : Hid (∀ x ∈ ps.take (k + 1), Po.badE x = false) := Lib.hid (by
            rw [HTk.out]
            intro x hx
            rcases List.mem_append.1 hx with hx | hx
            · exact HK.out x hx
            · obtain rfl := List.mem_singleton.1 hx
              exact HBd.out)
          have HO3 : Hid (Ba.Own wy U.heap.size (.slice uo uq uc) (Po.entrL G (ps.take (k + 1)))) := Lib.hid (by rw [HSt.out]; exact HO.out)
          clear HE1 HE2 HJ HLe
          go_wp2_with fail
          go_roundw
          case rel => exact ⟨k + 1, uo, uq, uc, by omega, by go_num, rfl, HB, HO3, HKn⟩
          case measure => simp [intOf]; omega
    · obtain rfl : k = p := by omega
      have HTk : Hid (ps.take k = ps) := Lib.hid (List.take_of_length_le (by rw [HLn.out]; exact Nat.le_refl _))
      have HP := Lib.hid (Po.entr_ok G (fun x hx => HK.out x (by rw [HTk.out]; exact hx)))
      go_wp2_with fail
      go_ret2
      refine ⟨.slice vo q vc, by rw [HP.out.1]; rfl, ?_, bchain HBU.out HB.out⟩
      rw [HP.out.2]
      have ho := HO.out
      rw [HTk.out] at ho
      exact Ba.own_mono ho HBU.out.size
end Go.Proofs.Ytgnepgkmjgpkeaa
