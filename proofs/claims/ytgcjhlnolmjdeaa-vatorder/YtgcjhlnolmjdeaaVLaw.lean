/- WHAT THE LAWS OF LAYER 7 CALL OF THEIR OWN: row, finds, few, table. -/
import Derived.Test.YtgcjhlnolmjdeaaVat
namespace Go.Proofs.Ytgcjhlnolmjdeaa
open Go.RowKit
open Vt (Rt)

theorem row_any (c : ByteArray) (y m d bp : Int) (w0 w : World) (hw : Below w0.heap.size w0 w) :
    Calls Try.prog 9 #[.string c, .int .i64 y, .int .i64 m, .int .i64 d, .int .i64 bp] w fun e w' => e = .returned (rowV ⟨c, y, m, d, bp⟩) ∧ Below w0.heap.size w0 w' := by
  have HW := Lib.hid hw
  clear hw
  go_enter Try.func9, Try.ntmps9
  go_wp2
  exact bodyPost_ret (v := rowV ⟨c, y, m, d, bp⟩) (by simp [results, rowV, Try.results9, go_sem]) rfl ⟨rfl, below_box HW.out _⟩
theorem finds_any (rs : List Rt) (ao : Option Addr) (n cap : Nat) (c : ByteArray) (y m d bp : Int) (is : Bool) (w0 w : World) (hw : Below w0.heap.size w0 w) (hR : Rts w ao n cap rs) (hy : Fit y) (hm : Fit m) (hd : Fit d) :
    Calls Try.prog 11 #[.slice ao n cap, .string c, .int .i64 y, .int .i64 m, .int .i64 d, .int .i64 bp, .bool is] w fun e w' => e = .returned (.bool (decide (Vt.find rs c y m d = (bp, is)))) ∧ Below w0.heap.size w0 w' := by
  have HW := Lib.hid hw
  have HR := Lib.hid hR
  have HF := Lib.hid (And.intro hy (And.intro hm hd))
  clear hw hR hy hm hd
  go_enter Try.func11, Try.ntmps11
  go_wp2_with fail
  refine (vat_find rs ao n cap c y m d w0 _ HW.out HR.out HF.out.1 HF.out.2.1 HF.out.2.2).mono ?_
  rintro e w1 ⟨rfl, b1⟩
  have HB1 := Lib.hid b1
  clear b1
  obtain ⟨⟨x, f⟩, hk⟩ : ∃ k, Vt.find rs c y m d = k := ⟨_, rfl⟩
  have HK := Lib.hid hk
  rw [hk]
  clear hk
  unfold foundE
  dsimp only
  by_cases hx : x = bp
  · subst hx
    go_wp2_with fail
    go_ret
    exact ⟨ret_bool (by rw [HK.out]; cases f <;> cases is <;> simp), HB1.out⟩
  · have hx' : (x == bp) = false := beq_eq_false_iff_ne.2 hx
    go_wp2_with fail
    go_ret
    exact ⟨ret_bool (by rw [HK.out]; simp [hx]), HB1.out⟩
theorem few_any (rs : List Rt) (ao : Option Addr) (n cap : Nat) (w : World) (hR : Rts w ao n cap rs) :
    Calls Try.prog 13 #[.slice ao n cap] w fun e w' => (∃ m, e = .returned (.slice ao m cap) ∧ Rts w ao m cap (rs.take 40) ∧ m ≤ 40) ∧ w' = w := by
  have HR := Lib.hid hR
  have hfit := hR.fits
  have hcap := hR.reach
  clear hR
  by_cases h : 40 < n
  · obtain ⟨hs, hT⟩ := rts_to HR.out 40 (by omega)
    have HT := Lib.hid hT
    clear hT
    go_enter Try.func13, Try.ntmps13
    go_wp2
    go_ret
    exact ⟨⟨40, rfl, HT.out, Nat.le_refl _⟩, rfl⟩
  · go_enter Try.func13, Try.ntmps13
    go_wp2
    go_ret
    refine ⟨⟨n, rfl, ?_, by omega⟩, rfl⟩
    rw [List.take_of_length_le (by have := HR.out.len; omega)]
    exact HR.out
theorem tab_step {rs : List Rt} {k : Nat} (h : k < rs.length) : Vt.tab [] (rs.take (k + 1)) = if Vt.putE (Vt.tab [] (rs.take k)) rs[k] = 0 then Vt.putL (Vt.tab [] (rs.take k)) rs[k] else Vt.tab [] (rs.take k) := by
  rw [List.take_succ_eq_append_getElem h, Vt.tab_snoc]
theorem tab_short {rs : List Rt} (h : ∀ r ∈ rs, Short r) (k : Nat) : ∀ r ∈ Vt.tab [] (rs.take k), Short r := by
  intro r hr
  rcases Vt.tab_mem _ _ r hr with hr | hr
  · cases hr
  · exact h r (List.mem_of_mem_take hr)
set_option maxHeartbeats 2000000 in
theorem table_any (rs : List Rt) (ao : Option Addr) (n cap : Nat) (w : World) (hR : Rts w ao n cap rs) :
    Calls Try.prog 23 #[.slice ao n cap] w fun e w' => ∃ v, e = .returned v ∧ OwnR w' w.heap.size v (Vt.tab [] (rs.take 40)) ∧ Below w.heap.size w w' := by
  have HR := Lib.hid hR
  have HN := Lib.hid hR.len
  have hfit := hR.fits
  have hcap := hR.reach
  clear hR
  go_enter Try.func23, Try.ntmps23
  go_wp2
  go_loopw [3, 4, 5, 6] (fun t i _ _ wr => ∃ (k : Nat) (ta : Option Addr) (tn tc : Nat), k ≤ n ∧ k ≤ 40 ∧ i = .int .i64 k ∧ t = .slice ta tn tc ∧ Hid (OwnR wr w.heap.size (.slice ta tn tc) (Vt.tab [] (rs.take k))) ∧ Hid (Below w.heap.size w wr)) (fun _ i _ _ _ => n - (intOf i).toNat)
  case atStart => exact ⟨0, none, 0, 0, by omega, by omega, rfl, rfl, Lib.hid (own_nil _ _), Lib.hid (Below.refl _ _)⟩
  case round =>
    obtain ⟨k, ta, tn, tc, hk, hk4, rfl, rfl, HO, HB⟩ := hrel
    by_cases hlt : k < n
    · by_cases h40 : k < 40
      · obtain ⟨b, off, rfl⟩ := HR.out.at (by omega)
        have hkr : k < rs.length := HN.out ▸ hlt
        obtain ⟨r, hr⟩ : ∃ r, rs[k] = r := ⟨_, rfl⟩
        have hrow := (HR.out.row k hkr).below HB.out
        have HSt := Lib.hid (tab_step hkr)
        rw [hr] at hrow HSt
        have HSh := Lib.hid (HR.out.short r (hr ▸ List.getElem_mem hkr))
        clear hr
        obtain ⟨g0, g1, g2, g3, g4⟩ := hrow
        obtain ⟨ta', tc', e, hT, _⟩ := own_rts HO.out (tab_short HR.out.short k)
        injection e with e1 e2 e3
        subst e1 e3
        have HT := Lib.hid (e2 ▸ hT)
        clear hT e2
        go_wp2_with fail
        refine (vat_put _ _ _ _ r _ HT.out HSh.out).mono ?_
        rintro e w1 ⟨v, rfl, o1, b1⟩
        obtain ⟨va, vc, rfl, _, _⟩ := own_rts o1 (fun a ha => by
          rcases Vt.putR_mem ha with rfl | ha
          · exact HSh.out
          · exact tab_short HR.out.short k a ha)
        have HO1 := Lib.hid (own_mono o1 HB.out.size)
        have HO2 := Lib.hid b1
        have HB1 := Lib.hid (bchain HB.out b1)
        clear o1 b1
        by_cases he : Vt.putE (Vt.tab [] (rs.take k)) r = 0
        · rw [he]
          rw [if_pos he] at HSt
          have HQ : Hid (Vt.putR (Vt.tab [] (rs.take k)) r = Vt.putL (Vt.tab [] (rs.take k)) r) := by
            show _ = _
            unfold Vt.putR
            rw [if_pos he]
          clear he
          generalize (Vt.putR (Vt.tab [] (rs.take k)) r).length = vl at *
          go_wp2_with fail
          go_roundw
          case rel => exact ⟨k + 1, va, vl, vc, by omega, by omega, by go_num, rfl, Lib.hid (by rw [HSt.out, ← HQ.out]; exact HO1.out), HB1⟩
          case measure => simp [intOf]; omega
        · obtain ⟨x, hx⟩ : ∃ x, Vt.putE (Vt.tab [] (rs.take k)) r = x := ⟨_, rfl⟩
          rw [if_neg he] at HSt
          rw [hx] at he
          rw [hx]
          have hx' : (x == 0) = false := beq_eq_false_iff_ne.2 he
          clear hx he
          go_wp2_with fail
          go_roundw
          case rel => exact ⟨k + 1, ta, tn, tc, by omega, by omega, by go_num, rfl, Lib.hid (by rw [HSt.out]; exact own_below HO.out HO2.out), HB1⟩
          case measure => simp [intOf]; omega
      · obtain rfl : k = 40 := by omega
        go_wp2_with fail
        go_ret
        exact ⟨_, rfl, HO.out, HB.out⟩
    · obtain rfl : k = n := by omega
      go_wp2_with fail
      go_ret
      refine ⟨_, rfl, ?_, HB.out⟩
      have h := HO.out
      rw [List.take_of_length_le (Nat.le_of_eq HN.out.symm)] at h
      rw [List.take_of_length_le (by have := HN.out; omega)]
      exact h
end Go.Proofs.Ytgcjhlnolmjdeaa
